/-
  No cell of these rows narrows 'for every input' (looked for: loops, veiled, ifaces, maps, wideKeys, modest, calm, conditions, laid).
  DERIVED. THE GIVEN ROWS OF THIS SEAT. 8 by the template 'for every input the law returns true; each argument reads behind the call as it read before'; 0 by the template 'total and deterministic' (their statements: YtfjlhiolfflnnaaTotals.lean).
  GIVEN WITH THE SEED: the statements are not yours to turn. If you find one false, say at which input.
  Laid BY PROGRAM, IN A SANDBOX (cutbox-rows.mjs): the forced cells as the released guide's own fill.sh prints them over the translation de9eb7c4e7029920… (all of the seat's roots in one cut). By AI agents, Wed Nov 11 2026. No macro, syntax, notation, axiom, sorry.
-/
import Derived.Test.YtfjlhiolfflnnaaChecked
import GoSem.Claim
import GoSem.ClaimJoined
import GoSem.ClaimMapViews
import Derived.JoinedTies
import Derived.KernelRfl
namespace Go.Proofs.Ytfjlhiolfflnnaa
/- THE CELL 'sum', in the pinned program and in every row, IS THE sha256 OF THE DUMP (.gsa) THAT YtfjlhiolfflnnaaProg.lean LOADS. Nothing in Lean hashes anything: it is a label: what it is worth is what the hold of that sum in a sandbox is worth. -/
noncomputable def Try.pinned : Pinned := { name := "ytfjlhiolfflnnaa", sum := "de9eb7c4e70299202873c1a8c340ca783aba811e93593224dd233a3b636d69e8", checked := Try.checked }
namespace Rows
def none {H : Type} : Left H := { results := [], args := [] }

/-- 'vivariumlaw.MaskOfs': WHATEVER THE INPUT: true; the input reads as it did. -/
def maskOfsSpec : ChangeSpec := { name := "maskOfs", fn := fun _ => fun
  | [d] => { results := [.lit (.bool true)], args := [d] }
  | _ => none }
def maskOfsRow : OpenClaim := { program := "ytfjlhiolfflnnaa", sum := "de9eb7c4e70299202873c1a8c340ca783aba811e93593224dd233a3b636d69e8", func := "vivarium/vivariumlaw.MaskOfs", spec := "maskOfs", apart := false }
def MaskOfsSaid : Prop := maskOfsRow.holds Try.pinned (OpenSpec.ofChange maskOfsSpec)

/-- ITS FALSE NEIGHBOUR: 'it returns false'. Refute it at one input. -/
def maskOfsWrong : ChangeSpec := { name := "maskOfs", fn := fun _ => fun
  | [d] => { results := [.lit (.bool false)], args := [d] }
  | _ => none }
def MaskOfsWrongFalsely : Prop := maskOfsRow.holds Try.pinned (OpenSpec.ofChange maskOfsWrong)

/-- 'vivariumlaw.MaskLists': WHATEVER THE INPUT: true; the input reads as it did. -/
def maskListsSpec : ChangeSpec := { name := "maskLists", fn := fun _ => fun
  | [d] => { results := [.lit (.bool true)], args := [d] }
  | _ => none }
def maskListsRow : OpenClaim := { program := "ytfjlhiolfflnnaa", sum := "de9eb7c4e70299202873c1a8c340ca783aba811e93593224dd233a3b636d69e8", func := "vivarium/vivariumlaw.MaskLists", spec := "maskLists", apart := false }
def MaskListsSaid : Prop := maskListsRow.holds Try.pinned (OpenSpec.ofChange maskListsSpec)

/-- ITS FALSE NEIGHBOUR: 'it returns false'. Refute it at one input. -/
def maskListsWrong : ChangeSpec := { name := "maskLists", fn := fun _ => fun
  | [d] => { results := [.lit (.bool false)], args := [d] }
  | _ => none }
def MaskListsWrongFalsely : Prop := maskListsRow.holds Try.pinned (OpenSpec.ofChange maskListsWrong)

/-- 'vivariumlaw.MaskMatches': WHATEVER THE INPUT: true; the input reads as it did. -/
def maskMatchesSpec : ChangeSpec := { name := "maskMatches", fn := fun _ => fun
  | [d1, d2] => { results := [.lit (.bool true)], args := [d1, d2] }
  | _ => none }
def maskMatchesRow : OpenClaim := { program := "ytfjlhiolfflnnaa", sum := "de9eb7c4e70299202873c1a8c340ca783aba811e93593224dd233a3b636d69e8", func := "vivarium/vivariumlaw.MaskMatches", spec := "maskMatches", apart := false }
def MaskMatchesSaid : Prop := maskMatchesRow.holds Try.pinned (OpenSpec.ofChange maskMatchesSpec)

/-- ITS FALSE NEIGHBOUR: 'it returns false'. Refute it at one input. -/
def maskMatchesWrong : ChangeSpec := { name := "maskMatches", fn := fun _ => fun
  | [d1, d2] => { results := [.lit (.bool false)], args := [d1, d2] }
  | _ => none }
def MaskMatchesWrongFalsely : Prop := maskMatchesRow.holds Try.pinned (OpenSpec.ofChange maskMatchesWrong)

/-- 'vivariumlaw.MaskBeasts': WHATEVER THE INPUT: true; the input reads as it did. -/
def maskBeastsSpec : ChangeSpec := { name := "maskBeasts", fn := fun _ => fun
  | [d] => { results := [.lit (.bool true)], args := [d] }
  | _ => none }
def maskBeastsRow : OpenClaim := { program := "ytfjlhiolfflnnaa", sum := "de9eb7c4e70299202873c1a8c340ca783aba811e93593224dd233a3b636d69e8", func := "vivarium/vivariumlaw.MaskBeasts", spec := "maskBeasts", apart := false }
def MaskBeastsSaid : Prop := maskBeastsRow.holds Try.pinned (OpenSpec.ofChange maskBeastsSpec)

/-- ITS FALSE NEIGHBOUR: 'it returns false'. Refute it at one input. -/
def maskBeastsWrong : ChangeSpec := { name := "maskBeasts", fn := fun _ => fun
  | [d] => { results := [.lit (.bool false)], args := [d] }
  | _ => none }
def MaskBeastsWrongFalsely : Prop := maskBeastsRow.holds Try.pinned (OpenSpec.ofChange maskBeastsWrong)

/-- 'vivariumlaw.MaskQueries': WHATEVER THE INPUT: true; the input reads as it did. -/
def maskQueriesSpec : ChangeSpec := { name := "maskQueries", fn := fun _ => fun
  | [d] => { results := [.lit (.bool true)], args := [d] }
  | _ => none }
def maskQueriesRow : OpenClaim := { program := "ytfjlhiolfflnnaa", sum := "de9eb7c4e70299202873c1a8c340ca783aba811e93593224dd233a3b636d69e8", func := "vivarium/vivariumlaw.MaskQueries", spec := "maskQueries", apart := false }
def MaskQueriesSaid : Prop := maskQueriesRow.holds Try.pinned (OpenSpec.ofChange maskQueriesSpec)

/-- ITS FALSE NEIGHBOUR: 'it returns false'. Refute it at one input. -/
def maskQueriesWrong : ChangeSpec := { name := "maskQueries", fn := fun _ => fun
  | [d] => { results := [.lit (.bool false)], args := [d] }
  | _ => none }
def MaskQueriesWrongFalsely : Prop := maskQueriesRow.holds Try.pinned (OpenSpec.ofChange maskQueriesWrong)

/-- 'vivariumkeep.MaskBack': WHATEVER THE INPUT: true; the input reads as it did. -/
def maskBackSpec : ChangeSpec := { name := "maskBack", fn := fun _ => fun
  | [d1, d2] => { results := [.lit (.bool true)], args := [d1, d2] }
  | _ => none }
def maskBackRow : OpenClaim := { program := "ytfjlhiolfflnnaa", sum := "de9eb7c4e70299202873c1a8c340ca783aba811e93593224dd233a3b636d69e8", func := "vivarium/vivariumkeep.MaskBack", spec := "maskBack", apart := false }
def MaskBackSaid : Prop := maskBackRow.holds Try.pinned (OpenSpec.ofChange maskBackSpec)

/-- ITS FALSE NEIGHBOUR: 'it returns false'. Refute it at one input. -/
def maskBackWrong : ChangeSpec := { name := "maskBack", fn := fun _ => fun
  | [d1, d2] => { results := [.lit (.bool false)], args := [d1, d2] }
  | _ => none }
def MaskBackWrongFalsely : Prop := maskBackRow.holds Try.pinned (OpenSpec.ofChange maskBackWrong)

/-- 'vivariumkeep.MaskMore': WHATEVER THE INPUT: true; the input reads as it did. -/
def maskMoreSpec : ChangeSpec := { name := "maskMore", fn := fun _ => fun
  | [d1, d2, d3] => { results := [.lit (.bool true)], args := [d1, d2, d3] }
  | _ => none }
def maskMoreRow : OpenClaim := { program := "ytfjlhiolfflnnaa", sum := "de9eb7c4e70299202873c1a8c340ca783aba811e93593224dd233a3b636d69e8", func := "vivarium/vivariumkeep.MaskMore", spec := "maskMore", apart := false }
def MaskMoreSaid : Prop := maskMoreRow.holds Try.pinned (OpenSpec.ofChange maskMoreSpec)

/-- ITS FALSE NEIGHBOUR: 'it returns false'. Refute it at one input. -/
def maskMoreWrong : ChangeSpec := { name := "maskMore", fn := fun _ => fun
  | [d1, d2, d3] => { results := [.lit (.bool false)], args := [d1, d2, d3] }
  | _ => none }
def MaskMoreWrongFalsely : Prop := maskMoreRow.holds Try.pinned (OpenSpec.ofChange maskMoreWrong)

/-- 'vivariumkeep.MaskParts': WHATEVER THE INPUT: true; the input reads as it did. -/
def maskPartsSpec : ChangeSpec := { name := "maskParts", fn := fun _ => fun
  | [d1, d2] => { results := [.lit (.bool true)], args := [d1, d2] }
  | _ => none }
def maskPartsRow : OpenClaim := { program := "ytfjlhiolfflnnaa", sum := "de9eb7c4e70299202873c1a8c340ca783aba811e93593224dd233a3b636d69e8", func := "vivarium/vivariumkeep.MaskParts", spec := "maskParts", apart := false }
def MaskPartsSaid : Prop := maskPartsRow.holds Try.pinned (OpenSpec.ofChange maskPartsSpec)

/-- ITS FALSE NEIGHBOUR: 'it returns false'. Refute it at one input. -/
def maskPartsWrong : ChangeSpec := { name := "maskParts", fn := fun _ => fun
  | [d1, d2] => { results := [.lit (.bool false)], args := [d1, d2] }
  | _ => none }
def MaskPartsWrongFalsely : Prop := maskPartsRow.holds Try.pinned (OpenSpec.ofChange maskPartsWrong)

/- THE SECOND FORM. 'bulk': how many values and letters a reading holds, each counted each time it is reached (what is shared counts as often as it is met; a slice's spare places count too). A statement '..UptoSaid' is the law's where the arguments, and the package variables that the reading takes, are together of bulk at most 1048576: NARROWER than '..Said'. Prove '..Said' where nothing that the law and all that it calls make is longer than what came in: it says more and counts as full. Else prove '..UptoSaid'. A law counts once. -/
mutual
def uptoBulk {H : Type} : DataW H → Nat
  | .lit (.string bytes) => bytes.length + 1
  | .lit _ => 1
  | .nil => 1
  | .ptr d => uptoBulk d + 1
  | .slice elems spare => uptoBulkAll elems + uptoBulkAll spare + 1
  | .agg parts => uptoBulkAll parts + 1
  | .iface _ d => uptoBulk d + 1
  | .map entries => uptoBulkEntries entries + 1
  | .held _ => 1
def uptoBulkAll {H : Type} : List (DataW H) → Nat
  | [] => 0
  | d :: r => uptoBulk d + uptoBulkAll r
def uptoBulkEntries {H : Type} : List (Lit × DataW H) → Nat
  | [] => 0
  | x :: r => uptoBulkEntry x + uptoBulkEntries r
def uptoBulkEntry {H : Type} : Lit × DataW H → Nat
  | (.string bytes, d) => bytes.length + uptoBulk d + 1
  | (_, d) => uptoBulk d + 1
 end
def uptoSmall : (H : Type) → List (DataW H) → Bool := fun _ ds => decide (uptoBulkAll ds ≤ 1048576)
def OpenSpec.upto (s : _root_.Go.ChangeSpec) : _root_.Go.OpenSpec := { _root_.Go.OpenSpec.ofChange s with cond := some uptoSmall }

/-- 'vivariumlaw.MaskOfs', WHERE WHAT IT READS IS OF BULK AT MOST 1048576: true; the input reads as it did. -/
def maskOfsUptoRow : OpenClaim := { program := "ytfjlhiolfflnnaa", sum := "de9eb7c4e70299202873c1a8c340ca783aba811e93593224dd233a3b636d69e8", func := "vivarium/vivariumlaw.MaskOfs", spec := "maskOfs", apart := false, narrowed := true }
def MaskOfsUptoSaid : Prop := maskOfsUptoRow.holds Try.pinned (OpenSpec.upto maskOfsSpec)

/-- 'vivariumlaw.MaskLists', WHERE WHAT IT READS IS OF BULK AT MOST 1048576: true; the input reads as it did. -/
def maskListsUptoRow : OpenClaim := { program := "ytfjlhiolfflnnaa", sum := "de9eb7c4e70299202873c1a8c340ca783aba811e93593224dd233a3b636d69e8", func := "vivarium/vivariumlaw.MaskLists", spec := "maskLists", apart := false, narrowed := true }
def MaskListsUptoSaid : Prop := maskListsUptoRow.holds Try.pinned (OpenSpec.upto maskListsSpec)

/-- 'vivariumlaw.MaskMatches', WHERE WHAT IT READS IS OF BULK AT MOST 1048576: true; the input reads as it did. -/
def maskMatchesUptoRow : OpenClaim := { program := "ytfjlhiolfflnnaa", sum := "de9eb7c4e70299202873c1a8c340ca783aba811e93593224dd233a3b636d69e8", func := "vivarium/vivariumlaw.MaskMatches", spec := "maskMatches", apart := false, narrowed := true }
def MaskMatchesUptoSaid : Prop := maskMatchesUptoRow.holds Try.pinned (OpenSpec.upto maskMatchesSpec)

/-- 'vivariumlaw.MaskBeasts', WHERE WHAT IT READS IS OF BULK AT MOST 1048576: true; the input reads as it did. -/
def maskBeastsUptoRow : OpenClaim := { program := "ytfjlhiolfflnnaa", sum := "de9eb7c4e70299202873c1a8c340ca783aba811e93593224dd233a3b636d69e8", func := "vivarium/vivariumlaw.MaskBeasts", spec := "maskBeasts", apart := false, narrowed := true }
def MaskBeastsUptoSaid : Prop := maskBeastsUptoRow.holds Try.pinned (OpenSpec.upto maskBeastsSpec)

/-- 'vivariumlaw.MaskQueries', WHERE WHAT IT READS IS OF BULK AT MOST 1048576: true; the input reads as it did. -/
def maskQueriesUptoRow : OpenClaim := { program := "ytfjlhiolfflnnaa", sum := "de9eb7c4e70299202873c1a8c340ca783aba811e93593224dd233a3b636d69e8", func := "vivarium/vivariumlaw.MaskQueries", spec := "maskQueries", apart := false, narrowed := true }
def MaskQueriesUptoSaid : Prop := maskQueriesUptoRow.holds Try.pinned (OpenSpec.upto maskQueriesSpec)

/-- 'vivariumkeep.MaskBack', WHERE WHAT IT READS IS OF BULK AT MOST 1048576: true; the input reads as it did. -/
def maskBackUptoRow : OpenClaim := { program := "ytfjlhiolfflnnaa", sum := "de9eb7c4e70299202873c1a8c340ca783aba811e93593224dd233a3b636d69e8", func := "vivarium/vivariumkeep.MaskBack", spec := "maskBack", apart := false, narrowed := true }
def MaskBackUptoSaid : Prop := maskBackUptoRow.holds Try.pinned (OpenSpec.upto maskBackSpec)

/-- 'vivariumkeep.MaskMore', WHERE WHAT IT READS IS OF BULK AT MOST 1048576: true; the input reads as it did. -/
def maskMoreUptoRow : OpenClaim := { program := "ytfjlhiolfflnnaa", sum := "de9eb7c4e70299202873c1a8c340ca783aba811e93593224dd233a3b636d69e8", func := "vivarium/vivariumkeep.MaskMore", spec := "maskMore", apart := false, narrowed := true }
def MaskMoreUptoSaid : Prop := maskMoreUptoRow.holds Try.pinned (OpenSpec.upto maskMoreSpec)

/-- 'vivariumkeep.MaskParts', WHERE WHAT IT READS IS OF BULK AT MOST 1048576: true; the input reads as it did. -/
def maskPartsUptoRow : OpenClaim := { program := "ytfjlhiolfflnnaa", sum := "de9eb7c4e70299202873c1a8c340ca783aba811e93593224dd233a3b636d69e8", func := "vivarium/vivariumkeep.MaskParts", spec := "maskParts", apart := false, narrowed := true }
def MaskPartsUptoSaid : Prop := maskPartsUptoRow.holds Try.pinned (OpenSpec.upto maskPartsSpec)

end Rows
end Go.Proofs.Ytfjlhiolfflnnaa

/-
  No cell of these rows narrows 'for every input' (looked for: loops, veiled, ifaces, maps, wideKeys, modest, calm, conditions, laid).
  DERIVED. THE GIVEN ROWS OF THIS SEAT. 5 by the template 'for every input the law returns true; each argument reads behind the call as it read before'; 0 by the template 'total and deterministic' (their statements: YtlclceiebnnpgaaTotals.lean).
  GIVEN WITH THE SEED: the statements are not yours to turn. If you find one false, say at which input.
  Laid BY PROGRAM, IN A SANDBOX (cutbox-rows.mjs): the forced cells as the released guide's own fill.sh prints them over the translation cb488f12c3d4d8f8… (all of the seat's roots in one cut). By AI agents, Wed Nov 11 2026. No macro, syntax, notation, axiom, sorry.
-/
import Derived.Test.YtlclceiebnnpgaaChecked
import GoSem.Claim
import GoSem.ClaimJoined
import GoSem.ClaimMapViews
import Derived.JoinedTies
import Derived.KernelRfl
namespace Go.Proofs.Ytlclceiebnnpgaa
/- THE CELL 'sum', in the pinned program and in every row, IS THE sha256 OF THE DUMP (.gsa) THAT YtlclceiebnnpgaaProg.lean LOADS. Nothing in Lean hashes anything: it is a label: what it is worth is what the hold of that sum in a sandbox is worth. -/
noncomputable def Try.pinned : Pinned := { name := "ytlclceiebnnpgaa", sum := "cb488f12c3d4d8f830ea85e59419c7c28212b212bdd67f62a4d4daee6d5a1509", checked := Try.checked }
namespace Rows
def none {H : Type} : Left H := { results := [], args := [] }

/-- 'vivariumlaw.FamilyDoes': WHATEVER THE INPUT: true; the input reads as it did. -/
def familyDoesSpec : ChangeSpec := { name := "familyDoes", fn := fun _ => fun
  | [d] => { results := [.lit (.bool true)], args := [d] }
  | _ => none }
def familyDoesRow : OpenClaim := { program := "ytlclceiebnnpgaa", sum := "cb488f12c3d4d8f830ea85e59419c7c28212b212bdd67f62a4d4daee6d5a1509", func := "vivarium/vivariumlaw.FamilyDoes", spec := "familyDoes", unfollowed := true, recurses := true, plainKeys := false, apart := false }
def FamilyDoesSaid : Prop := familyDoesRow.holds Try.pinned (OpenSpec.ofChange familyDoesSpec)

/-- ITS FALSE NEIGHBOUR: 'it returns false'. Refute it at one input. -/
def familyDoesWrong : ChangeSpec := { name := "familyDoes", fn := fun _ => fun
  | [d] => { results := [.lit (.bool false)], args := [d] }
  | _ => none }
def FamilyDoesWrongFalsely : Prop := familyDoesRow.holds Try.pinned (OpenSpec.ofChange familyDoesWrong)

/-- 'vivariumlaw.FamilyTells': WHATEVER THE INPUT: true; the input reads as it did. -/
def familyTellsSpec : ChangeSpec := { name := "familyTells", fn := fun _ => fun
  | [d1, d2] => { results := [.lit (.bool true)], args := [d1, d2] }
  | _ => none }
def familyTellsRow : OpenClaim := { program := "ytlclceiebnnpgaa", sum := "cb488f12c3d4d8f830ea85e59419c7c28212b212bdd67f62a4d4daee6d5a1509", func := "vivarium/vivariumlaw.FamilyTells", spec := "familyTells", unfollowed := true, recurses := true, plainKeys := false, apart := false }
def FamilyTellsSaid : Prop := familyTellsRow.holds Try.pinned (OpenSpec.ofChange familyTellsSpec)

/-- ITS FALSE NEIGHBOUR: 'it returns false'. Refute it at one input. -/
def familyTellsWrong : ChangeSpec := { name := "familyTells", fn := fun _ => fun
  | [d1, d2] => { results := [.lit (.bool false)], args := [d1, d2] }
  | _ => none }
def FamilyTellsWrongFalsely : Prop := familyTellsRow.holds Try.pinned (OpenSpec.ofChange familyTellsWrong)

/-- 'vivariumkeep.FamilyTree': WHATEVER THE INPUT: true; the input reads as it did. -/
def familyTreeSpec : ChangeSpec := { name := "familyTree", fn := fun _ => fun
  | [d] => { results := [.lit (.bool true)], args := [d] }
  | _ => none }
def familyTreeRow : OpenClaim := { program := "ytlclceiebnnpgaa", sum := "cb488f12c3d4d8f830ea85e59419c7c28212b212bdd67f62a4d4daee6d5a1509", func := "vivarium/vivariumkeep.FamilyTree", spec := "familyTree", unfollowed := true, recurses := true, plainKeys := false, apart := false }
def FamilyTreeSaid : Prop := familyTreeRow.holds Try.pinned (OpenSpec.ofChange familyTreeSpec)

/-- ITS FALSE NEIGHBOUR: 'it returns false'. Refute it at one input. -/
def familyTreeWrong : ChangeSpec := { name := "familyTree", fn := fun _ => fun
  | [d] => { results := [.lit (.bool false)], args := [d] }
  | _ => none }
def FamilyTreeWrongFalsely : Prop := familyTreeRow.holds Try.pinned (OpenSpec.ofChange familyTreeWrong)

/-- 'vivariumkeep.FamilyUnder': WHATEVER THE INPUT: true; the input reads as it did. -/
def familyUnderSpec : ChangeSpec := { name := "familyUnder", fn := fun _ => fun
  | [d1, d2] => { results := [.lit (.bool true)], args := [d1, d2] }
  | _ => none }
def familyUnderRow : OpenClaim := { program := "ytlclceiebnnpgaa", sum := "cb488f12c3d4d8f830ea85e59419c7c28212b212bdd67f62a4d4daee6d5a1509", func := "vivarium/vivariumkeep.FamilyUnder", spec := "familyUnder", unfollowed := true, recurses := true, plainKeys := false, apart := false }
def FamilyUnderSaid : Prop := familyUnderRow.holds Try.pinned (OpenSpec.ofChange familyUnderSpec)

/-- ITS FALSE NEIGHBOUR: 'it returns false'. Refute it at one input. -/
def familyUnderWrong : ChangeSpec := { name := "familyUnder", fn := fun _ => fun
  | [d1, d2] => { results := [.lit (.bool false)], args := [d1, d2] }
  | _ => none }
def FamilyUnderWrongFalsely : Prop := familyUnderRow.holds Try.pinned (OpenSpec.ofChange familyUnderWrong)

/-- 'vivariumkeep.FamilyAdopts': WHATEVER THE INPUT: true; the input reads as it did. -/
def familyAdoptsSpec : ChangeSpec := { name := "familyAdopts", fn := fun _ => fun
  | [d1, d2, d3] => { results := [.lit (.bool true)], args := [d1, d2, d3] }
  | _ => none }
def familyAdoptsRow : OpenClaim := { program := "ytlclceiebnnpgaa", sum := "cb488f12c3d4d8f830ea85e59419c7c28212b212bdd67f62a4d4daee6d5a1509", func := "vivarium/vivariumkeep.FamilyAdopts", spec := "familyAdopts", unfollowed := true, recurses := true, plainKeys := false, apart := false }
def FamilyAdoptsSaid : Prop := familyAdoptsRow.holds Try.pinned (OpenSpec.ofChange familyAdoptsSpec)

/-- ITS FALSE NEIGHBOUR: 'it returns false'. Refute it at one input. -/
def familyAdoptsWrong : ChangeSpec := { name := "familyAdopts", fn := fun _ => fun
  | [d1, d2, d3] => { results := [.lit (.bool false)], args := [d1, d2, d3] }
  | _ => none }
def FamilyAdoptsWrongFalsely : Prop := familyAdoptsRow.holds Try.pinned (OpenSpec.ofChange familyAdoptsWrong)

/- THE SECOND FORM. 'bulk': how many values and letters a reading holds, each counted each time it is reached (what is shared counts as often as it is met; a slice's spare places count too). A statement '..UptoSaid' is the law's where the arguments, and the package variables that the reading takes, are together of bulk at most 1048576: NARROWER than '..Said'. Prove '..Said' where nothing that the law and all that it calls make is longer than what came in: it says more and counts as full. Else prove '..UptoSaid'. A law counts once. -/
mutual
def uptoBulk {H : Type} : DataW H → Nat
  | .lit (.string bytes) => bytes.length + 1
  | .lit _ => 1
  | .nil => 1
  | .ptr d => uptoBulk d + 1
  | .slice elems spare => uptoBulkAll elems + uptoBulkAll spare + 1
  | .agg parts => uptoBulkAll parts + 1
  | .iface _ d => uptoBulk d + 1
  | .map entries => uptoBulkEntries entries + 1
  | .held _ => 1
def uptoBulkAll {H : Type} : List (DataW H) → Nat
  | [] => 0
  | d :: r => uptoBulk d + uptoBulkAll r
def uptoBulkEntries {H : Type} : List (Lit × DataW H) → Nat
  | [] => 0
  | x :: r => uptoBulkEntry x + uptoBulkEntries r
def uptoBulkEntry {H : Type} : Lit × DataW H → Nat
  | (.string bytes, d) => bytes.length + uptoBulk d + 1
  | (_, d) => uptoBulk d + 1
 end
def uptoSmall : (H : Type) → List (DataW H) → Bool := fun _ ds => decide (uptoBulkAll ds ≤ 1048576)
def OpenSpec.upto (s : _root_.Go.ChangeSpec) : _root_.Go.OpenSpec := { _root_.Go.OpenSpec.ofChange s with cond := some uptoSmall }

/-- 'vivariumlaw.FamilyDoes', WHERE WHAT IT READS IS OF BULK AT MOST 1048576: true; the input reads as it did. -/
def familyDoesUptoRow : OpenClaim := { program := "ytlclceiebnnpgaa", sum := "cb488f12c3d4d8f830ea85e59419c7c28212b212bdd67f62a4d4daee6d5a1509", func := "vivarium/vivariumlaw.FamilyDoes", spec := "familyDoes", unfollowed := true, recurses := true, plainKeys := false, apart := false, narrowed := true }
def FamilyDoesUptoSaid : Prop := familyDoesUptoRow.holds Try.pinned (OpenSpec.upto familyDoesSpec)

/-- 'vivariumlaw.FamilyTells', WHERE WHAT IT READS IS OF BULK AT MOST 1048576: true; the input reads as it did. -/
def familyTellsUptoRow : OpenClaim := { program := "ytlclceiebnnpgaa", sum := "cb488f12c3d4d8f830ea85e59419c7c28212b212bdd67f62a4d4daee6d5a1509", func := "vivarium/vivariumlaw.FamilyTells", spec := "familyTells", unfollowed := true, recurses := true, plainKeys := false, apart := false, narrowed := true }
def FamilyTellsUptoSaid : Prop := familyTellsUptoRow.holds Try.pinned (OpenSpec.upto familyTellsSpec)

/-- 'vivariumkeep.FamilyTree', WHERE WHAT IT READS IS OF BULK AT MOST 1048576: true; the input reads as it did. -/
def familyTreeUptoRow : OpenClaim := { program := "ytlclceiebnnpgaa", sum := "cb488f12c3d4d8f830ea85e59419c7c28212b212bdd67f62a4d4daee6d5a1509", func := "vivarium/vivariumkeep.FamilyTree", spec := "familyTree", unfollowed := true, recurses := true, plainKeys := false, apart := false, narrowed := true }
def FamilyTreeUptoSaid : Prop := familyTreeUptoRow.holds Try.pinned (OpenSpec.upto familyTreeSpec)

/-- 'vivariumkeep.FamilyUnder', WHERE WHAT IT READS IS OF BULK AT MOST 1048576: true; the input reads as it did. -/
def familyUnderUptoRow : OpenClaim := { program := "ytlclceiebnnpgaa", sum := "cb488f12c3d4d8f830ea85e59419c7c28212b212bdd67f62a4d4daee6d5a1509", func := "vivarium/vivariumkeep.FamilyUnder", spec := "familyUnder", unfollowed := true, recurses := true, plainKeys := false, apart := false, narrowed := true }
def FamilyUnderUptoSaid : Prop := familyUnderUptoRow.holds Try.pinned (OpenSpec.upto familyUnderSpec)

/-- 'vivariumkeep.FamilyAdopts', WHERE WHAT IT READS IS OF BULK AT MOST 1048576: true; the input reads as it did. -/
def familyAdoptsUptoRow : OpenClaim := { program := "ytlclceiebnnpgaa", sum := "cb488f12c3d4d8f830ea85e59419c7c28212b212bdd67f62a4d4daee6d5a1509", func := "vivarium/vivariumkeep.FamilyAdopts", spec := "familyAdopts", unfollowed := true, recurses := true, plainKeys := false, apart := false, narrowed := true }
def FamilyAdoptsUptoSaid : Prop := familyAdoptsUptoRow.holds Try.pinned (OpenSpec.upto familyAdoptsSpec)

end Rows
end Go.Proofs.Ytlclceiebnnpgaa

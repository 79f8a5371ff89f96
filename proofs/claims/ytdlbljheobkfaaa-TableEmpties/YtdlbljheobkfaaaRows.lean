/-
  No cell of these rows narrows 'for every input' (looked for: loops, veiled, ifaces, maps, wideKeys, modest, calm, conditions, laid).
  DERIVED. THE GIVEN ROWS OF THIS SEAT. 4 by the template 'for every input the law returns true; each argument reads behind the call as it read before'; 0 by the template 'total and deterministic' (their statements: YtdlbljheobkfaaaTotals.lean).
  GIVEN WITH THE SEED: the statements are not yours to turn. If you find one false, say at which input.
  Laid BY PROGRAM, IN A SANDBOX (cutbox-rows.mjs): the forced cells as the released guide's own fill.sh prints them over the translation ce15b8285eca54cf… (all of the seat's roots in one cut). By AI agents, Wed Nov 11 2026. No macro, syntax, notation, axiom, sorry.
-/
import Derived.Test.YtdlbljheobkfaaaChecked
import GoSem.Claim
import GoSem.ClaimJoined
import GoSem.ClaimMapViews
import Derived.JoinedTies
import Derived.KernelRfl
namespace Go.Proofs.Ytdlbljheobkfaaa
/- THE CELL 'sum', in the pinned program and in every row, IS THE sha256 OF THE DUMP (.gsa) THAT YtdlbljheobkfaaaProg.lean LOADS. Nothing in Lean hashes anything: it is a label: what it is worth is what the hold of that sum in a sandbox is worth. -/
noncomputable def Try.pinned : Pinned := { name := "ytdlbljheobkfaaa", sum := "ce15b8285eca54cf088b8b55d0c40ab86faec8e9d2b4a4ffda9dfc73e3c36ea4", checked := Try.checked }
namespace Rows
def none {H : Type} : Left H := { results := [], args := [] }

/-- 'vivariumlaw.TableDoes': WHATEVER THE INPUT: true; the input reads as it did. -/
def tableDoesSpec : ChangeSpec := { name := "tableDoes", fn := fun _ => fun
  | [d1, d2] => { results := [.lit (.bool true)], args := [d1, d2] }
  | _ => none }
def tableDoesRow : OpenClaim := { program := "ytdlbljheobkfaaa", sum := "ce15b8285eca54cf088b8b55d0c40ab86faec8e9d2b4a4ffda9dfc73e3c36ea4", func := "vivarium/vivariumlaw.TableDoes", spec := "tableDoes", apart := false }
def TableDoesSaid : Prop := tableDoesRow.holds Try.pinned (OpenSpec.ofChange tableDoesSpec)

/-- ITS FALSE NEIGHBOUR: 'it returns false'. Refute it at one input. -/
def tableDoesWrong : ChangeSpec := { name := "tableDoes", fn := fun _ => fun
  | [d1, d2] => { results := [.lit (.bool false)], args := [d1, d2] }
  | _ => none }
def TableDoesWrongFalsely : Prop := tableDoesRow.holds Try.pinned (OpenSpec.ofChange tableDoesWrong)

/-- 'vivariumkeep.TableColumns': WHATEVER THE INPUT: true; the input reads as it did. -/
def tableColumnsSpec : ChangeSpec := { name := "tableColumns", fn := fun _ => fun
  | [d1, d2] => { results := [.lit (.bool true)], args := [d1, d2] }
  | _ => none }
def tableColumnsRow : OpenClaim := { program := "ytdlbljheobkfaaa", sum := "ce15b8285eca54cf088b8b55d0c40ab86faec8e9d2b4a4ffda9dfc73e3c36ea4", func := "vivarium/vivariumkeep.TableColumns", spec := "tableColumns", apart := false }
def TableColumnsSaid : Prop := tableColumnsRow.holds Try.pinned (OpenSpec.ofChange tableColumnsSpec)

/-- ITS FALSE NEIGHBOUR: 'it returns false'. Refute it at one input. -/
def tableColumnsWrong : ChangeSpec := { name := "tableColumns", fn := fun _ => fun
  | [d1, d2] => { results := [.lit (.bool false)], args := [d1, d2] }
  | _ => none }
def TableColumnsWrongFalsely : Prop := tableColumnsRow.holds Try.pinned (OpenSpec.ofChange tableColumnsWrong)

/-- 'vivariumkeep.TableRemoves': WHATEVER THE INPUT: true; the input reads as it did. -/
def tableRemovesSpec : ChangeSpec := { name := "tableRemoves", fn := fun _ => fun
  | [d1, d2, d3] => { results := [.lit (.bool true)], args := [d1, d2, d3] }
  | _ => none }
def tableRemovesRow : OpenClaim := { program := "ytdlbljheobkfaaa", sum := "ce15b8285eca54cf088b8b55d0c40ab86faec8e9d2b4a4ffda9dfc73e3c36ea4", func := "vivarium/vivariumkeep.TableRemoves", spec := "tableRemoves", apart := false }
def TableRemovesSaid : Prop := tableRemovesRow.holds Try.pinned (OpenSpec.ofChange tableRemovesSpec)

/-- ITS FALSE NEIGHBOUR: 'it returns false'. Refute it at one input. -/
def tableRemovesWrong : ChangeSpec := { name := "tableRemoves", fn := fun _ => fun
  | [d1, d2, d3] => { results := [.lit (.bool false)], args := [d1, d2, d3] }
  | _ => none }
def TableRemovesWrongFalsely : Prop := tableRemovesRow.holds Try.pinned (OpenSpec.ofChange tableRemovesWrong)

/-- 'vivariumkeep.TableEmpties': WHATEVER THE INPUT: true; the input reads as it did. -/
def tableEmptiesSpec : ChangeSpec := { name := "tableEmpties", fn := fun _ => fun
  | [d1, d2, d3] => { results := [.lit (.bool true)], args := [d1, d2, d3] }
  | _ => none }
def tableEmptiesRow : OpenClaim := { program := "ytdlbljheobkfaaa", sum := "ce15b8285eca54cf088b8b55d0c40ab86faec8e9d2b4a4ffda9dfc73e3c36ea4", func := "vivarium/vivariumkeep.TableEmpties", spec := "tableEmpties", apart := false }
def TableEmptiesSaid : Prop := tableEmptiesRow.holds Try.pinned (OpenSpec.ofChange tableEmptiesSpec)

/-- ITS FALSE NEIGHBOUR: 'it returns false'. Refute it at one input. -/
def tableEmptiesWrong : ChangeSpec := { name := "tableEmpties", fn := fun _ => fun
  | [d1, d2, d3] => { results := [.lit (.bool false)], args := [d1, d2, d3] }
  | _ => none }
def TableEmptiesWrongFalsely : Prop := tableEmptiesRow.holds Try.pinned (OpenSpec.ofChange tableEmptiesWrong)

/- THE SECOND FORM. 'bulk': how many values and letters a reading holds, each counted each time it is reached (what is shared counts as often as it is met; a slice's spare places count too). A statement '..UptoSaid' is the law's where the arguments, and the package variables that the reading takes, are together of bulk at most 1048576: NARROWER than '..Said'. Prove '..Said' where nothing that the law and all that it calls make is longer than what came in: it says more and counts as full. Else prove '..UptoSaid'. A law counts once. -/
mutual
def uptoBulk {H : Type} : DataW H → Nat
  | .lit (.string bytes) => bytes.length + 1
  | .lit _ => 1
  | .nil => 1
  | .ptr d => uptoBulk d + 1
  | .slice elems spare => uptoBulkAll elems + uptoBulkAll spare + 1
  | .agg parts => uptoBulkAll parts + 1
  | .iface _ d => uptoBulk d + 1
  | .map entries => uptoBulkEntries entries + 1
  | .held _ => 1
def uptoBulkAll {H : Type} : List (DataW H) → Nat
  | [] => 0
  | d :: r => uptoBulk d + uptoBulkAll r
def uptoBulkEntries {H : Type} : List (Lit × DataW H) → Nat
  | [] => 0
  | x :: r => uptoBulkEntry x + uptoBulkEntries r
def uptoBulkEntry {H : Type} : Lit × DataW H → Nat
  | (.string bytes, d) => bytes.length + uptoBulk d + 1
  | (_, d) => uptoBulk d + 1
 end
def uptoSmall : (H : Type) → List (DataW H) → Bool := fun _ ds => decide (uptoBulkAll ds ≤ 1048576)
def OpenSpec.upto (s : _root_.Go.ChangeSpec) : _root_.Go.OpenSpec := { _root_.Go.OpenSpec.ofChange s with cond := some uptoSmall }

/-- 'vivariumlaw.TableDoes', WHERE WHAT IT READS IS OF BULK AT MOST 1048576: true; the input reads as it did. -/
def tableDoesUptoRow : OpenClaim := { program := "ytdlbljheobkfaaa", sum := "ce15b8285eca54cf088b8b55d0c40ab86faec8e9d2b4a4ffda9dfc73e3c36ea4", func := "vivarium/vivariumlaw.TableDoes", spec := "tableDoes", apart := false, narrowed := true }
def TableDoesUptoSaid : Prop := tableDoesUptoRow.holds Try.pinned (OpenSpec.upto tableDoesSpec)

/-- 'vivariumkeep.TableColumns', WHERE WHAT IT READS IS OF BULK AT MOST 1048576: true; the input reads as it did. -/
def tableColumnsUptoRow : OpenClaim := { program := "ytdlbljheobkfaaa", sum := "ce15b8285eca54cf088b8b55d0c40ab86faec8e9d2b4a4ffda9dfc73e3c36ea4", func := "vivarium/vivariumkeep.TableColumns", spec := "tableColumns", apart := false, narrowed := true }
def TableColumnsUptoSaid : Prop := tableColumnsUptoRow.holds Try.pinned (OpenSpec.upto tableColumnsSpec)

/-- 'vivariumkeep.TableRemoves', WHERE WHAT IT READS IS OF BULK AT MOST 1048576: true; the input reads as it did. -/
def tableRemovesUptoRow : OpenClaim := { program := "ytdlbljheobkfaaa", sum := "ce15b8285eca54cf088b8b55d0c40ab86faec8e9d2b4a4ffda9dfc73e3c36ea4", func := "vivarium/vivariumkeep.TableRemoves", spec := "tableRemoves", apart := false, narrowed := true }
def TableRemovesUptoSaid : Prop := tableRemovesUptoRow.holds Try.pinned (OpenSpec.upto tableRemovesSpec)

/-- 'vivariumkeep.TableEmpties', WHERE WHAT IT READS IS OF BULK AT MOST 1048576: true; the input reads as it did. -/
def tableEmptiesUptoRow : OpenClaim := { program := "ytdlbljheobkfaaa", sum := "ce15b8285eca54cf088b8b55d0c40ab86faec8e9d2b4a4ffda9dfc73e3c36ea4", func := "vivarium/vivariumkeep.TableEmpties", spec := "tableEmpties", apart := false, narrowed := true }
def TableEmptiesUptoSaid : Prop := tableEmptiesUptoRow.holds Try.pinned (OpenSpec.upto tableEmptiesSpec)

end Rows
end Go.Proofs.Ytdlbljheobkfaaa

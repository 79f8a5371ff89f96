/-
  NARROWER THAN 'FOR EVERY INPUT', by the rows' own cells (each row's printed sentence says how): DiffBetweens: laid · DiffApplies: laid · DiffInverts: laid · DiffBack: laid · DiffNone: laid · DiffLeast: laid.
  DERIVED. THE GIVEN ROWS OF THIS SEAT. 6 by the template 'for every input the law returns true; each argument reads behind the call as it read before'; 0 by the template 'total and deterministic' (their statements: YtnmlapoiilckhaaDoorTotals.lean).
  GIVEN WITH THE SEED: the statements are not yours to turn. If you find one false, say at which input.
  Laid BY PROGRAM, IN A SANDBOX (cutbox-rows.mjs): the forced cells as the released guide's own fill.sh prints them over the translation 65da693b09714b15… (all of the seat's roots in one cut). By AI agents, Wed Nov 11 2026. No macro, syntax, notation, axiom, sorry.
-/
import Derived.Test.YtnmlapoiilckhaaDoorChecked
import GoSem.Claim
import GoSem.ClaimJoined
import GoSem.ClaimMapViews
import Derived.JoinedTies
import Derived.KernelRfl
namespace Go.Proofs.YtnmlapoiilckhaaDoor
/- THE CELL 'sum', in the pinned program and in every row, IS THE sha256 OF THE DUMP (.gsa) THAT YtnmlapoiilckhaaDoorProg.lean LOADS. Nothing in Lean hashes anything: it is a label: what it is worth is what the hold of that sum in a sandbox is worth. -/
noncomputable def Tryd.pinned : Pinned := { name := "ytnmlapoiilckhaadoor", sum := "65da693b09714b15e4aa79a3b9d62b8c212c3ee43011c4dee078373990934b61", checked := Tryd.checked }
namespace Rows
def none {H : Type} : Left H := { results := [], args := [] }

/- WHAT THE LISTED PACKAGE-LEVEL VARIABLES READ AS WHEN THE CALL BEGINS. Each datum BY PROGRAM (the guide's laid-datum.mjs) off the statement by which the dump's own 'gosem.cut.vars' lays the variable. In a bare row this is a premise. The card (YtnmlapoiilckhaaDoorCards.lean) ties it to the program's text. -/
def laid_vivarium_diff_none {H : Type} : DataW H := .agg [.lit (.int .i64 (-1)), .agg [.lit (.int .i64 0), .lit (.int .i64 0), .lit (.int .i64 0), .lit (.int .i64 0), .lit (.int .i64 0), .lit (.int .i64 0), .lit (.int .i64 0), .lit (.int .i64 0)]]

/-- 'vivariumlaw.DiffBetweens': WHATEVER THE INPUT: true; the input reads as it did. -/
def diffBetweensSpec : ChangeSpec := { name := "diffBetweens", fn := fun _ => fun
  | [d1, d2] => { results := [.lit (.bool true)], args := [d1, d2] }
  | _ => none }
def diffBetweensRow : OpenClaim := { program := "ytnmlapoiilckhaadoor", sum := "65da693b09714b15e4aa79a3b9d62b8c212c3ee43011c4dee078373990934b61", func := "vivarium/vivariumlaw.DiffBetweens", spec := "diffBetweens", inPlace := ["maps.clone"], unfollowed := true, recurses := true, named := ["vivarium/diff.none"], plainKeys := false, apart := false, laid := [("vivarium/diff.none", laid_vivarium_diff_none)] }
def DiffBetweensSaid : Prop := diffBetweensRow.holds Tryd.pinned (OpenSpec.ofChange diffBetweensSpec)

/-- ITS FALSE NEIGHBOUR: 'it returns false'. Refute it at one input. -/
def diffBetweensWrong : ChangeSpec := { name := "diffBetweens", fn := fun _ => fun
  | [d1, d2] => { results := [.lit (.bool false)], args := [d1, d2] }
  | _ => none }
def DiffBetweensWrongFalsely : Prop := diffBetweensRow.holds Tryd.pinned (OpenSpec.ofChange diffBetweensWrong)

/-- 'vivariumlaw.DiffApplies': WHATEVER THE INPUT: true; the input reads as it did. -/
def diffAppliesSpec : ChangeSpec := { name := "diffApplies", fn := fun _ => fun
  | [d1, d2] => { results := [.lit (.bool true)], args := [d1, d2] }
  | _ => none }
def diffAppliesRow : OpenClaim := { program := "ytnmlapoiilckhaadoor", sum := "65da693b09714b15e4aa79a3b9d62b8c212c3ee43011c4dee078373990934b61", func := "vivarium/vivariumlaw.DiffApplies", spec := "diffApplies", inPlace := ["maps.clone"], unfollowed := true, recurses := true, named := ["vivarium/diff.none"], plainKeys := false, apart := false, laid := [("vivarium/diff.none", laid_vivarium_diff_none)] }
def DiffAppliesSaid : Prop := diffAppliesRow.holds Tryd.pinned (OpenSpec.ofChange diffAppliesSpec)

/-- ITS FALSE NEIGHBOUR: 'it returns false'. Refute it at one input. -/
def diffAppliesWrong : ChangeSpec := { name := "diffApplies", fn := fun _ => fun
  | [d1, d2] => { results := [.lit (.bool false)], args := [d1, d2] }
  | _ => none }
def DiffAppliesWrongFalsely : Prop := diffAppliesRow.holds Tryd.pinned (OpenSpec.ofChange diffAppliesWrong)

/-- 'vivariumlaw.DiffInverts': WHATEVER THE INPUT: true; the input reads as it did. -/
def diffInvertsSpec : ChangeSpec := { name := "diffInverts", fn := fun _ => fun
  | [d] => { results := [.lit (.bool true)], args := [d] }
  | _ => none }
def diffInvertsRow : OpenClaim := { program := "ytnmlapoiilckhaadoor", sum := "65da693b09714b15e4aa79a3b9d62b8c212c3ee43011c4dee078373990934b61", func := "vivarium/vivariumlaw.DiffInverts", spec := "diffInverts", inPlace := ["maps.clone"], unfollowed := true, recurses := true, named := ["vivarium/diff.none"], plainKeys := false, apart := false, laid := [("vivarium/diff.none", laid_vivarium_diff_none)] }
def DiffInvertsSaid : Prop := diffInvertsRow.holds Tryd.pinned (OpenSpec.ofChange diffInvertsSpec)

/-- ITS FALSE NEIGHBOUR: 'it returns false'. Refute it at one input. -/
def diffInvertsWrong : ChangeSpec := { name := "diffInverts", fn := fun _ => fun
  | [d] => { results := [.lit (.bool false)], args := [d] }
  | _ => none }
def DiffInvertsWrongFalsely : Prop := diffInvertsRow.holds Tryd.pinned (OpenSpec.ofChange diffInvertsWrong)

/-- 'vivariumkeep.DiffBack': WHATEVER THE INPUT: true; the input reads as it did. -/
def diffBackSpec : ChangeSpec := { name := "diffBack", fn := fun _ => fun
  | [d1, d2] => { results := [.lit (.bool true)], args := [d1, d2] }
  | _ => none }
def diffBackRow : OpenClaim := { program := "ytnmlapoiilckhaadoor", sum := "65da693b09714b15e4aa79a3b9d62b8c212c3ee43011c4dee078373990934b61", func := "vivarium/vivariumkeep.DiffBack", spec := "diffBack", inPlace := ["maps.clone"], unfollowed := true, recurses := true, named := ["vivarium/diff.none"], plainKeys := false, apart := false, laid := [("vivarium/diff.none", laid_vivarium_diff_none)] }
def DiffBackSaid : Prop := diffBackRow.holds Tryd.pinned (OpenSpec.ofChange diffBackSpec)

/-- ITS FALSE NEIGHBOUR: 'it returns false'. Refute it at one input. -/
def diffBackWrong : ChangeSpec := { name := "diffBack", fn := fun _ => fun
  | [d1, d2] => { results := [.lit (.bool false)], args := [d1, d2] }
  | _ => none }
def DiffBackWrongFalsely : Prop := diffBackRow.holds Tryd.pinned (OpenSpec.ofChange diffBackWrong)

/-- 'vivariumkeep.DiffNone': WHATEVER THE INPUT: true; the input reads as it did. -/
def diffNoneSpec : ChangeSpec := { name := "diffNone", fn := fun _ => fun
  | [d1, d2] => { results := [.lit (.bool true)], args := [d1, d2] }
  | _ => none }
def diffNoneRow : OpenClaim := { program := "ytnmlapoiilckhaadoor", sum := "65da693b09714b15e4aa79a3b9d62b8c212c3ee43011c4dee078373990934b61", func := "vivarium/vivariumkeep.DiffNone", spec := "diffNone", inPlace := ["maps.clone"], unfollowed := true, recurses := true, named := ["vivarium/diff.none"], plainKeys := false, apart := false, laid := [("vivarium/diff.none", laid_vivarium_diff_none)] }
def DiffNoneSaid : Prop := diffNoneRow.holds Tryd.pinned (OpenSpec.ofChange diffNoneSpec)

/-- ITS FALSE NEIGHBOUR: 'it returns false'. Refute it at one input. -/
def diffNoneWrong : ChangeSpec := { name := "diffNone", fn := fun _ => fun
  | [d1, d2] => { results := [.lit (.bool false)], args := [d1, d2] }
  | _ => none }
def DiffNoneWrongFalsely : Prop := diffNoneRow.holds Tryd.pinned (OpenSpec.ofChange diffNoneWrong)

/-- 'vivariumkeep.DiffLeast': WHATEVER THE INPUT: true; the input reads as it did. -/
def diffLeastSpec : ChangeSpec := { name := "diffLeast", fn := fun _ => fun
  | [d1, d2] => { results := [.lit (.bool true)], args := [d1, d2] }
  | _ => none }
def diffLeastRow : OpenClaim := { program := "ytnmlapoiilckhaadoor", sum := "65da693b09714b15e4aa79a3b9d62b8c212c3ee43011c4dee078373990934b61", func := "vivarium/vivariumkeep.DiffLeast", spec := "diffLeast", inPlace := ["maps.clone"], unfollowed := true, recurses := true, named := ["vivarium/diff.none"], plainKeys := false, apart := false, laid := [("vivarium/diff.none", laid_vivarium_diff_none)] }
def DiffLeastSaid : Prop := diffLeastRow.holds Tryd.pinned (OpenSpec.ofChange diffLeastSpec)

/-- ITS FALSE NEIGHBOUR: 'it returns false'. Refute it at one input. -/
def diffLeastWrong : ChangeSpec := { name := "diffLeast", fn := fun _ => fun
  | [d1, d2] => { results := [.lit (.bool false)], args := [d1, d2] }
  | _ => none }
def DiffLeastWrongFalsely : Prop := diffLeastRow.holds Tryd.pinned (OpenSpec.ofChange diffLeastWrong)

/- THE SECOND FORM. 'bulk': how many values and letters a reading holds, each counted each time it is reached (what is shared counts as often as it is met; a slice's spare places count too). A statement '..UptoSaid' is the law's where the arguments, and the package variables that the reading takes, are together of bulk at most 1048576: NARROWER than '..Said'. Prove '..Said' where nothing that the law and all that it calls make is longer than what came in: it says more and counts as full. Else prove '..UptoSaid'. A law counts once. -/
mutual
def uptoBulk {H : Type} : DataW H → Nat
  | .lit (.string bytes) => bytes.length + 1
  | .lit _ => 1
  | .nil => 1
  | .ptr d => uptoBulk d + 1
  | .slice elems spare => uptoBulkAll elems + uptoBulkAll spare + 1
  | .agg parts => uptoBulkAll parts + 1
  | .iface _ d => uptoBulk d + 1
  | .map entries => uptoBulkEntries entries + 1
  | .held _ => 1
def uptoBulkAll {H : Type} : List (DataW H) → Nat
  | [] => 0
  | d :: r => uptoBulk d + uptoBulkAll r
def uptoBulkEntries {H : Type} : List (Lit × DataW H) → Nat
  | [] => 0
  | x :: r => uptoBulkEntry x + uptoBulkEntries r
def uptoBulkEntry {H : Type} : Lit × DataW H → Nat
  | (.string bytes, d) => bytes.length + uptoBulk d + 1
  | (_, d) => uptoBulk d + 1
 end
def uptoSmall : (H : Type) → List (DataW H) → Bool := fun _ ds => decide (uptoBulkAll ds ≤ 1048576)
def OpenSpec.upto (s : _root_.Go.ChangeSpec) : _root_.Go.OpenSpec := { _root_.Go.OpenSpec.ofChange s with cond := some uptoSmall }

/-- 'vivariumlaw.DiffBetweens', WHERE WHAT IT READS IS OF BULK AT MOST 1048576: true; the input reads as it did. -/
def diffBetweensUptoRow : OpenClaim := { program := "ytnmlapoiilckhaadoor", sum := "65da693b09714b15e4aa79a3b9d62b8c212c3ee43011c4dee078373990934b61", func := "vivarium/vivariumlaw.DiffBetweens", spec := "diffBetweens", inPlace := ["maps.clone"], unfollowed := true, recurses := true, named := ["vivarium/diff.none"], plainKeys := false, apart := false, laid := [("vivarium/diff.none", laid_vivarium_diff_none)], narrowed := true }
def DiffBetweensUptoSaid : Prop := diffBetweensUptoRow.holds Tryd.pinned (OpenSpec.upto diffBetweensSpec)

/-- 'vivariumlaw.DiffApplies', WHERE WHAT IT READS IS OF BULK AT MOST 1048576: true; the input reads as it did. -/
def diffAppliesUptoRow : OpenClaim := { program := "ytnmlapoiilckhaadoor", sum := "65da693b09714b15e4aa79a3b9d62b8c212c3ee43011c4dee078373990934b61", func := "vivarium/vivariumlaw.DiffApplies", spec := "diffApplies", inPlace := ["maps.clone"], unfollowed := true, recurses := true, named := ["vivarium/diff.none"], plainKeys := false, apart := false, laid := [("vivarium/diff.none", laid_vivarium_diff_none)], narrowed := true }
def DiffAppliesUptoSaid : Prop := diffAppliesUptoRow.holds Tryd.pinned (OpenSpec.upto diffAppliesSpec)

/-- 'vivariumlaw.DiffInverts', WHERE WHAT IT READS IS OF BULK AT MOST 1048576: true; the input reads as it did. -/
def diffInvertsUptoRow : OpenClaim := { program := "ytnmlapoiilckhaadoor", sum := "65da693b09714b15e4aa79a3b9d62b8c212c3ee43011c4dee078373990934b61", func := "vivarium/vivariumlaw.DiffInverts", spec := "diffInverts", inPlace := ["maps.clone"], unfollowed := true, recurses := true, named := ["vivarium/diff.none"], plainKeys := false, apart := false, laid := [("vivarium/diff.none", laid_vivarium_diff_none)], narrowed := true }
def DiffInvertsUptoSaid : Prop := diffInvertsUptoRow.holds Tryd.pinned (OpenSpec.upto diffInvertsSpec)

/-- 'vivariumkeep.DiffBack', WHERE WHAT IT READS IS OF BULK AT MOST 1048576: true; the input reads as it did. -/
def diffBackUptoRow : OpenClaim := { program := "ytnmlapoiilckhaadoor", sum := "65da693b09714b15e4aa79a3b9d62b8c212c3ee43011c4dee078373990934b61", func := "vivarium/vivariumkeep.DiffBack", spec := "diffBack", inPlace := ["maps.clone"], unfollowed := true, recurses := true, named := ["vivarium/diff.none"], plainKeys := false, apart := false, laid := [("vivarium/diff.none", laid_vivarium_diff_none)], narrowed := true }
def DiffBackUptoSaid : Prop := diffBackUptoRow.holds Tryd.pinned (OpenSpec.upto diffBackSpec)

/-- 'vivariumkeep.DiffNone', WHERE WHAT IT READS IS OF BULK AT MOST 1048576: true; the input reads as it did. -/
def diffNoneUptoRow : OpenClaim := { program := "ytnmlapoiilckhaadoor", sum := "65da693b09714b15e4aa79a3b9d62b8c212c3ee43011c4dee078373990934b61", func := "vivarium/vivariumkeep.DiffNone", spec := "diffNone", inPlace := ["maps.clone"], unfollowed := true, recurses := true, named := ["vivarium/diff.none"], plainKeys := false, apart := false, laid := [("vivarium/diff.none", laid_vivarium_diff_none)], narrowed := true }
def DiffNoneUptoSaid : Prop := diffNoneUptoRow.holds Tryd.pinned (OpenSpec.upto diffNoneSpec)

/-- 'vivariumkeep.DiffLeast', WHERE WHAT IT READS IS OF BULK AT MOST 1048576: true; the input reads as it did. -/
def diffLeastUptoRow : OpenClaim := { program := "ytnmlapoiilckhaadoor", sum := "65da693b09714b15e4aa79a3b9d62b8c212c3ee43011c4dee078373990934b61", func := "vivarium/vivariumkeep.DiffLeast", spec := "diffLeast", inPlace := ["maps.clone"], unfollowed := true, recurses := true, named := ["vivarium/diff.none"], plainKeys := false, apart := false, laid := [("vivarium/diff.none", laid_vivarium_diff_none)], narrowed := true }
def DiffLeastUptoSaid : Prop := diffLeastUptoRow.holds Tryd.pinned (OpenSpec.upto diffLeastSpec)

end Rows
end Go.Proofs.YtnmlapoiilckhaaDoor

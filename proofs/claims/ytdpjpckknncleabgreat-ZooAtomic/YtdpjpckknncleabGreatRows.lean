/-
  No cell of these rows narrows 'for every input' (looked for: loops, veiled, ifaces, maps, wideKeys, modest, calm, conditions, laid).
  DERIVED. THE GIVEN ROWS OF THIS SEAT. 3 by the template 'for every input the law returns true; each argument reads behind the call as it read before'; 0 by the template 'total and deterministic' (their statements: YtdpjpckknncleabGreatTotals.lean).
  GIVEN WITH THE SEED: the statements are not yours to turn. If you find one false, say at which input.
  Laid BY PROGRAM, IN A SANDBOX (cutbox-rows.mjs): the forced cells as the released guide's own fill.sh prints them over the translation ddfbc7e8d24aba21… (all of the seat's roots in one cut). By AI agents, Wed Nov 11 2026. No macro, syntax, notation, axiom, sorry.
-/
import Derived.Test.YtdpjpckknncleabGreatChecked
import GoSem.Claim
import GoSem.ClaimJoined
import GoSem.ClaimMapViews
import Derived.JoinedTies
import Derived.KernelRfl
namespace Go.Proofs.YtdpjpckknncleabGreat
/- THE CELL 'sum', in the pinned program and in every row, IS THE sha256 OF THE DUMP (.gsa) THAT YtdpjpckknncleabGreatProg.lean LOADS. Nothing in Lean hashes anything: it is a label: what it is worth is what the hold of that sum in a sandbox is worth. -/
noncomputable def Tryz.pinned : Pinned := { name := "ytdpjpckknncleabgreat", sum := "ddfbc7e8d24aba21cd39b026771eeaffd4ac22d3107eebb0361854fb030c0db4", checked := Tryz.checked }
namespace Rows
def none {H : Type} : Left H := { results := [], args := [] }

/-- 'vivariumkeep.ZooBonds': WHATEVER THE INPUT: true; the input reads as it did. -/
def zooBondsSpec : ChangeSpec := { name := "zooBonds", fn := fun _ => fun
  | [d1, d2] => { results := [.lit (.bool true)], args := [d1, d2] }
  | _ => none }
def zooBondsRow : OpenClaim := { program := "ytdpjpckknncleabgreat", sum := "ddfbc7e8d24aba21cd39b026771eeaffd4ac22d3107eebb0361854fb030c0db4", func := "vivarium/vivariumkeep.ZooBonds", spec := "zooBonds", unfollowed := true, recurses := true, plainKeys := false, apart := false }
def ZooBondsSaid : Prop := zooBondsRow.holds Tryz.pinned (OpenSpec.ofChange zooBondsSpec)

/-- ITS FALSE NEIGHBOUR: 'it returns false'. Refute it at one input. -/
def zooBondsWrong : ChangeSpec := { name := "zooBonds", fn := fun _ => fun
  | [d1, d2] => { results := [.lit (.bool false)], args := [d1, d2] }
  | _ => none }
def ZooBondsWrongFalsely : Prop := zooBondsRow.holds Tryz.pinned (OpenSpec.ofChange zooBondsWrong)

/-- 'vivariumkeep.ZooAtomic': WHATEVER THE INPUT: true; the input reads as it did. -/
def zooAtomicSpec : ChangeSpec := { name := "zooAtomic", fn := fun _ => fun
  | [d1, d2] => { results := [.lit (.bool true)], args := [d1, d2] }
  | _ => none }
def zooAtomicRow : OpenClaim := { program := "ytdpjpckknncleabgreat", sum := "ddfbc7e8d24aba21cd39b026771eeaffd4ac22d3107eebb0361854fb030c0db4", func := "vivarium/vivariumkeep.ZooAtomic", spec := "zooAtomic", unfollowed := true, recurses := true, plainKeys := false, apart := false }
def ZooAtomicSaid : Prop := zooAtomicRow.holds Tryz.pinned (OpenSpec.ofChange zooAtomicSpec)

/-- ITS FALSE NEIGHBOUR: 'it returns false'. Refute it at one input. -/
def zooAtomicWrong : ChangeSpec := { name := "zooAtomic", fn := fun _ => fun
  | [d1, d2] => { results := [.lit (.bool false)], args := [d1, d2] }
  | _ => none }
def ZooAtomicWrongFalsely : Prop := zooAtomicRow.holds Tryz.pinned (OpenSpec.ofChange zooAtomicWrong)

/-- 'vivariumkeep.ZooParts': WHATEVER THE INPUT: true; the input reads as it did. -/
def zooPartsSpec : ChangeSpec := { name := "zooParts", fn := fun _ => fun
  | [d1, d2] => { results := [.lit (.bool true)], args := [d1, d2] }
  | _ => none }
def zooPartsRow : OpenClaim := { program := "ytdpjpckknncleabgreat", sum := "ddfbc7e8d24aba21cd39b026771eeaffd4ac22d3107eebb0361854fb030c0db4", func := "vivarium/vivariumkeep.ZooParts", spec := "zooParts", unfollowed := true, recurses := true, plainKeys := false, apart := false }
def ZooPartsSaid : Prop := zooPartsRow.holds Tryz.pinned (OpenSpec.ofChange zooPartsSpec)

/-- ITS FALSE NEIGHBOUR: 'it returns false'. Refute it at one input. -/
def zooPartsWrong : ChangeSpec := { name := "zooParts", fn := fun _ => fun
  | [d1, d2] => { results := [.lit (.bool false)], args := [d1, d2] }
  | _ => none }
def ZooPartsWrongFalsely : Prop := zooPartsRow.holds Tryz.pinned (OpenSpec.ofChange zooPartsWrong)

/- THE SECOND FORM. 'bulk': how many values and letters a reading holds, each counted each time it is reached (what is shared counts as often as it is met; a slice's spare places count too). A statement '..UptoSaid' is the law's where the arguments, and the package variables that the reading takes, are together of bulk at most 1048576: NARROWER than '..Said'. Prove '..Said' where nothing that the law and all that it calls make is longer than what came in: it says more and counts as full. Else prove '..UptoSaid'. A law counts once. -/
mutual
def uptoBulk {H : Type} : DataW H → Nat
  | .lit (.string bytes) => bytes.length + 1
  | .lit _ => 1
  | .nil => 1
  | .ptr d => uptoBulk d + 1
  | .slice elems spare => uptoBulkAll elems + uptoBulkAll spare + 1
  | .agg parts => uptoBulkAll parts + 1
  | .iface _ d => uptoBulk d + 1
  | .map entries => uptoBulkEntries entries + 1
  | .held _ => 1
def uptoBulkAll {H : Type} : List (DataW H) → Nat
  | [] => 0
  | d :: r => uptoBulk d + uptoBulkAll r
def uptoBulkEntries {H : Type} : List (Lit × DataW H) → Nat
  | [] => 0
  | x :: r => uptoBulkEntry x + uptoBulkEntries r
def uptoBulkEntry {H : Type} : Lit × DataW H → Nat
  | (.string bytes, d) => bytes.length + uptoBulk d + 1
  | (_, d) => uptoBulk d + 1
 end
def uptoSmall : (H : Type) → List (DataW H) → Bool := fun _ ds => decide (uptoBulkAll ds ≤ 1048576)
def OpenSpec.upto (s : _root_.Go.ChangeSpec) : _root_.Go.OpenSpec := { _root_.Go.OpenSpec.ofChange s with cond := some uptoSmall }

/-- 'vivariumkeep.ZooBonds', WHERE WHAT IT READS IS OF BULK AT MOST 1048576: true; the input reads as it did. -/
def zooBondsUptoRow : OpenClaim := { program := "ytdpjpckknncleabgreat", sum := "ddfbc7e8d24aba21cd39b026771eeaffd4ac22d3107eebb0361854fb030c0db4", func := "vivarium/vivariumkeep.ZooBonds", spec := "zooBonds", unfollowed := true, recurses := true, plainKeys := false, apart := false, narrowed := true }
def ZooBondsUptoSaid : Prop := zooBondsUptoRow.holds Tryz.pinned (OpenSpec.upto zooBondsSpec)

/-- 'vivariumkeep.ZooAtomic', WHERE WHAT IT READS IS OF BULK AT MOST 1048576: true; the input reads as it did. -/
def zooAtomicUptoRow : OpenClaim := { program := "ytdpjpckknncleabgreat", sum := "ddfbc7e8d24aba21cd39b026771eeaffd4ac22d3107eebb0361854fb030c0db4", func := "vivarium/vivariumkeep.ZooAtomic", spec := "zooAtomic", unfollowed := true, recurses := true, plainKeys := false, apart := false, narrowed := true }
def ZooAtomicUptoSaid : Prop := zooAtomicUptoRow.holds Tryz.pinned (OpenSpec.upto zooAtomicSpec)

/-- 'vivariumkeep.ZooParts', WHERE WHAT IT READS IS OF BULK AT MOST 1048576: true; the input reads as it did. -/
def zooPartsUptoRow : OpenClaim := { program := "ytdpjpckknncleabgreat", sum := "ddfbc7e8d24aba21cd39b026771eeaffd4ac22d3107eebb0361854fb030c0db4", func := "vivarium/vivariumkeep.ZooParts", spec := "zooParts", unfollowed := true, recurses := true, plainKeys := false, apart := false, narrowed := true }
def ZooPartsUptoSaid : Prop := zooPartsUptoRow.holds Tryz.pinned (OpenSpec.upto zooPartsSpec)

end Rows
end Go.Proofs.YtdpjpckknncleabGreat

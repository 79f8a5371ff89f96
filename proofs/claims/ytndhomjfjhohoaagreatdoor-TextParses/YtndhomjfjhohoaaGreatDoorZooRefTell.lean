
/- State of the reference's zoo. -/
import Derived.Test.YtndhomjfjhohoaaGreatDoorZooOpsA
import Derived.Test.YtndhomjfjhohoaaGreatDoorCopyInt
import Derived.Test.YtndhomjfjhohoaaGreatDoorPZooTell
namespace Go.Proofs.YtndhomjfjhohoaaGreatDoor
set_option maxRecDepth 8000
open Go.RowKit

/-- The three slices of a zoo that its state tells. -/
theorem ZfAt.slices {w : World} {q : Nat} {G : Nat → Prop} {s : Zs} (h : ZfAt w q G s) : ∃ vg vl vL vB, w.heap[q]? = some (.cells #[vg, vl, vL, vB] 81 (0, 0)) ∧ Owns elInt w 3 vg (gensL s.l) ∧ Owns elRow w 54 vL s.rows ∧ Owns elBond w 58 vB s.bs := by
  obtain ⟨G0, G1, vB, hz, -⟩ := h
  obtain ⟨c, vL, hzi⟩ := hz.zoo
  obtain ⟨vg, vl, hb, hg, -⟩ := hzi.slots
  exact ⟨vg, vl, vL, vB, hb, hg, hzi.own, hz.own⟩

end Go.Proofs.YtndhomjfjhohoaaGreatDoor

/- A block of cells reads as a slice. -/
import Derived.Test.YtcmpaohefihijabGreatDoorGroundA
namespace Go.Proofs.YtcmpaohefihijabGreatDoor
open Go.RowKit

theorem Reads.ofBlock {α : Type} {E : El α} {w : World} {g : Nat} {T : TypeId} {xs : List α} (h : w.heap[g]? = some (.cells (xs.flatMap E.enc).toArray T (0, 0))) (hl : xs.length ≤ maxLen) : Reads E w (.slice (some ⟨g, 0, none⟩) xs.length xs.length) xs := by
  refine ⟨_, _, rfl, Nat.le_refl _, hl, fun k hk => ⟨g, 0, rfl, (Array.getElem?_eq_some_iff.1 h).1, fun j hj => ?_⟩⟩
  rw [cell_of_row _ _ _ _ _ _ h, Nat.zero_add, ← enc_at E xs k j hk hj]
  simp
end Go.Proofs.YtcmpaohefihijabGreatDoor

/- Contracts of package family with what they return as letters. -/
import Derived.Test.YtlclceiebnnpgaaFamUnder
import Derived.Test.YtlclceiebnnpgaaFamAnc
import Derived.Deep.RegionHeld3
namespace Go.Proofs.Ytlclceiebnnpgaa
set_option maxRecDepth 8000
open Go.RowKit

theorem famUnder_at (p : Nat) (F : Nat → Prop) (bs : List Bd) (a b : Int) (U : List Hd) (hU : ∃ d M, AcyBy bs d M ∧ under bs M (a, b) = U) (w : World) (h : FamAt w p F bs) (ok : FOk bs) (hab : okH (a, b)) (hn : bs.length * 32 ≤ 140737488355328) :
    Calls Try.prog 18 #[.pointer (some ⟨p, 0, none⟩), .agg #[.int .i64 a, .int .i64 b]] w (HandsPost w U) := by
  obtain ⟨d, M, ha, rfl⟩ := hU
  exact famUnder_any p F bs d M a b w h ok ha hab hn
theorem FOk.undAt {bs : List Bd} (h : FOk bs) (x : Hd) : ∃ U : List Hd, (∃ d M, AcyBy bs d M ∧ under bs M x = U) ∧ ∀ y, y ∈ U ↔ Und bs y x := by
  obtain ⟨d, M, ha⟩ := h.acy
  exact ⟨_, ⟨d, M, ha, rfl⟩, fun y => ha.in_under⟩
end Go.Proofs.Ytlclceiebnnpgaa

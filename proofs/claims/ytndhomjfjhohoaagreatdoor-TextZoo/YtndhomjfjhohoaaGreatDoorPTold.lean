/- vivariumkeep.told: a closed fact of Print. -/
import Derived.Test.YtndhomjfjhohoaaGreatDoorPPrint
namespace Go.Proofs.YtndhomjfjhohoaaGreatDoor
set_option maxRecDepth 8000
set_option maxRecDepth 8000
open Go Go.RowKit

def toldRow : Rw := ⟨0, 4, 2, fun j => [0, -3, 0, 0, 0, 0, 0, 0].getD j 0⟩
theorem told_e : prE [4] [toldRow] [] = 0 := by kernel_rfl
theorem told_t : textT [4] [toldRow] [] = [103, 101, 110, 115, 32, 52, 10, 114, 111, 119, 32, 48, 32, 52, 32, 49, 61, 45, 51, 10] := by kernel_rfl
set_option maxHeartbeats 2000000 in
theorem told_any (w : World) (hv : VarsIs w) : Calls Tryz.prog 13 #[] w fun e w' => e = .returned (.bool true) ∧ Below w.heap.size w w' := by
  have hX : Below w.heap.size w ((w.alloc (.cells #[.int .i64 4] 3)).alloc (.cells #[.int .i64 toldRow.s, .int .i64 toldRow.g, .int .i64 toldRow.m, .int .i64 (toldRow.f 0), .int .i64 (toldRow.f 1), .int .i64 (toldRow.f 2), .int .i64 (toldRow.f 3), .int .i64 (toldRow.f 4), .int .i64 (toldRow.f 5), .int .i64 (toldRow.f 6), .int .i64 (toldRow.f 7)] 54)) := nb_alloc (nb_alloc (Below.refl _ _) _) _
  have h1 : ((w.alloc (.cells #[.int .i64 4] 3)).alloc (.cells #[.int .i64 toldRow.s, .int .i64 toldRow.g, .int .i64 toldRow.m, .int .i64 (toldRow.f 0), .int .i64 (toldRow.f 1), .int .i64 (toldRow.f 2), .int .i64 (toldRow.f 3), .int .i64 (toldRow.f 4), .int .i64 (toldRow.f 5), .int .i64 (toldRow.f 6), .int .i64 (toldRow.f 7)] 54)).heap[w.heap.size]? = some (.cells ([4].map (Value.int .i64)).toArray 3) := heap_alloc2_old _ _ _
  have h2 : ((w.alloc (.cells #[.int .i64 4] 3)).alloc (.cells #[.int .i64 toldRow.s, .int .i64 toldRow.g, .int .i64 toldRow.m, .int .i64 (toldRow.f 0), .int .i64 (toldRow.f 1), .int .i64 (toldRow.f 2), .int .i64 (toldRow.f 3), .int .i64 (toldRow.f 4), .int .i64 (toldRow.f 5), .int .i64 (toldRow.f 6), .int .i64 (toldRow.f 7)] 54)).heap[w.heap.size + 1]? = some (.cells #[.int .i64 toldRow.s, .int .i64 toldRow.g, .int .i64 toldRow.m, .int .i64 (toldRow.f 0), .int .i64 (toldRow.f 1), .int .i64 (toldRow.f 2), .int .i64 (toldRow.f 3), .int .i64 (toldRow.f 4), .int .i64 (toldRow.f 5), .int .i64 (toldRow.f 6), .int .i64 (toldRow.f 7)] 54) := heap_alloc2_new _ _ _
  have hr : Reads elRow ((w.alloc (.cells #[.int .i64 4] 3)).alloc (.cells #[.int .i64 toldRow.s, .int .i64 toldRow.g, .int .i64 toldRow.m, .int .i64 (toldRow.f 0), .int .i64 (toldRow.f 1), .int .i64 (toldRow.f 2), .int .i64 (toldRow.f 3), .int .i64 (toldRow.f 4), .int .i64 (toldRow.f 5), .int .i64 (toldRow.f 6), .int .i64 (toldRow.f 7)] 54)) (.slice (some ⟨w.heap.size + 1, 0, none⟩) 1 1) [toldRow] := by
    refine ⟨_, _, rfl, Nat.le_refl _, by unfold maxLen; decide, fun k hk => ⟨w.heap.size + 1, 0, rfl, (Array.getElem?_eq_some_iff.1 h2).1, fun j hj => ?_⟩⟩
    obtain rfl : k = 0 := by simp at hk; omega
    rw [cell_of_row _ _ _ _ _ _ h2]
    simp [elRow]
  have HP := Lib.hid (print_any _ _ (.slice none 0 0) [4] [toldRow] [] _ (Ints.ofNew h1 (by decide)) hr (OwnsF.nil elBond _ 0 58).reads (hv.later hX))
  rw [show prT [4] [toldRow] [] = _ from (if_pos told_e).trans told_t, told_e] at HP
  have HX := Lib.hid hX
  clear hX h1 h2 hr hv
  go_enter Tryz.func13, Tryz.ntmps13
  go_wp2_with (go_at_call 8; refine HP.out.mono ?_; rintro e W1 ⟨rfl, hb1⟩; refine Hid.out ?_)
  refine Lib.hid ?_
  go_wp2
  go_ret
  exact ⟨rfl, nb_trans HX.out hb1⟩
end Go.Proofs.YtndhomjfjhohoaaGreatDoor

/- The closed fact lived of package vivariumkeep; what the laws ask of the rows of a world. -/
import Derived.Test.YtakoejopgdaknaaWorldPut
import Derived.Test.YtakoejopgdaknaaWorldSpawn
import Derived.Test.YtakoejopgdaknaaEq8
namespace Go.Proofs.Ytakoejopgdaknaa
set_option maxRecDepth 8000
open Go.RowKit

def lvF : Nat → Int := fun _ => 0
def lvR : Rw := ⟨0, 0, 2, lvF⟩
def lvQ : Rw := ⟨0, 0, 3, upd lvF 0 5⟩
theorem lv_bErr : bErr 2 [lvF 0, lvF 1, lvF 2, lvF 3, lvF 4, lvF 5, lvF 6, lvF 7] = 0 := by decide
theorem lv_take : takeE [] = 0 ∧ takeH [] = (0, 0) ∧ takeL [] = [(0, true)] := by decide
theorem lv_spawnE : spawnE [] 2 lvF = 0 := by rw [spawnE, if_pos lv_bErr]; exact lv_take.1
theorem lv_spawnH : spawnH [] 2 lvF = (0, 0) := by rw [spawnH, if_pos lv_bErr]; exact lv_take.2.1
theorem lv_spawnL : spawnL [] 2 lvF = [(0, true)] := by rw [spawnL, if_pos lv_bErr]; exact lv_take.2.2
theorem lv_spawnR : spawnR [] [] 2 lvF = [lvR] := by rw [spawnR, if_pos lv_spawnE, lv_take.2.1]; rfl
theorem lv_has : hasH [lvR] 0 0 = true := by decide
theorem lv_at : atN [lvR] 0 0 = 0 := by decide
theorem lv_putE : putWE [lvR] 0 0 0 5 = 0 := by decide
theorem lv_putR : putWR [lvR] 0 0 0 5 = [lvQ] := by
  rw [putWR, if_pos lv_putE, lv_at]
  have : tb lvR.m 0 = false := by decide
  simp [putK, lvQ]
  rw [this]
  exact ⟨rfl, rfl, by decide, rfl⟩
theorem lv_getE : getE [lvQ] 0 0 = 0 := by decide
theorem lv_getR : getR [lvQ] 0 0 = lvQ := by
  rw [getR, if_pos (by decide), show atN [lvQ] 0 0 = 0 by decide]; rfl
theorem lv_ok : WOk [(0, true)] [lvR] := by
  have := WOk.nil.spawn 2 lvF
  rwa [lv_spawnL, lv_spawnR] at this
theorem lv_I : I64r 0 := ⟨by decide, by decide⟩

theorem eqLv_run (w : World) : (Op.equalIn 9999 34 (.agg #[.int .i64 5, .int .i64 0, .int .i64 0, .int .i64 0, .int .i64 0, .int .i64 0, .int .i64 0, .int .i64 0]) (.agg #[.int .i64 5, .int .i64 0, .int .i64 0, .int .i64 0, .int .i64 0, .int .i64 0, .int .i64 0, .int .i64 0])).run Try.prog w = .ok true w := eq8b_run (upd lvF 0 5) w

set_option maxHeartbeats 4000000 in
theorem lived_any (w : World) : Calls Try.prog 21 #[] w fun e w' => e = .returned (.bool true) ∧ Below w.heap.size w w' := by
  go_enter Try.func21, Try.ntmps21
  go_wp2_with fail
  refine (worldNew_any _).mono ?_
  rintro e w1 ⟨rfl, hw1⟩
  have HW1 : Hid (WldAt w1 w.heap.size (fun b => b = w.heap.size) [] (· ∈ ([] : List Rw))) := Lib.hid (by rw [← hw1]; exact (WldAt.new w).congr (fun r => by simp))
  have HB1 : Hid (Below w.heap.size w w1) := Lib.hid (by rw [← hw1]; exact nb_alloc (Below.refl _ _) _)
  clear hw1
  go_wp2_with fail
  refine (worldSpawn_any w.heap.size _ [] [] 2 lvF _ HW1.out WOk.nil).mono ?_
  rintro e w2 ⟨rfl, F2, h2, hk2, hm2⟩
  rw [lv_spawnH, lv_spawnE]
  rw [lv_spawnL, lv_spawnR] at h2
  have HW2 := Lib.hid h2
  have HB2 : Hid (Below w.heap.size w w2) := Lib.hid (HB1.out.trans (hk2.below HB1.out.size (fun b e => by omega)))
  have HF2 : Hid (∀ b, F2 b → w.heap.size ≤ b) := Lib.hid (hm2.above HB1.out.size (fun b e => by omega))
  have hs2 := HB2.out.size
  clear h2 hk2 hm2
  go_wp2_with fail
  refine (worldPut_any w.heap.size F2 [(0, true)] [lvR] 0 0 0 5 _ (HW2.out.later (nb_alloc (Below.refl _ _) _)) lv_ok lv_I lv_I).mono ?_
  rintro e w3 ⟨rfl, F3, h3, hk3, hm3⟩
  rw [lv_putE]
  rw [lv_putR] at h3
  have HW3 := Lib.hid h3
  have hbx : w3.heap[w2.heap.size]? = some (.cells #[.int .i64 0, .int .i64 0] 38) := by rw [hk3.block _ (by simp) (fun f => by have := HW2.out.lt _ f; omega)]; exact heap_alloc_new _ _
  have HB3 : Hid (Below w.heap.size w w3) := Lib.hid ((nb_alloc HB2.out _).trans (hk3.below (nb_alloc HB2.out _).size HF2.out))
  have hs3 := (Array.getElem?_eq_some_iff.1 hbx).1
  have k0 : w3.cell? ⟨w2.heap.size, 0, none⟩ = some (.int .i64 0) := by rw [cell_of_row _ _ _ _ _ _ hbx]; rfl
  have k1 : w3.cell? ⟨w2.heap.size, 1, none⟩ = some (.int .i64 0) := by rw [cell_of_row _ _ _ _ _ _ hbx]; rfl
  clear h3 hk3 hm3 hbx
  go_wp2_with fail
  refine (worldGet_any w.heap.size F3 [(0, true)] [lvQ] 0 0 lvQ 0 _ HW3.out lv_I lv_I lv_getR lv_getE).mono ?_
  rintro e w4 ⟨rfl, hb4⟩
  have HB4 := Lib.hid (nb_trans HB3.out hb4)
  have heq := eqLv_run
  clear hb4 k0 k1
  simp only [show lvQ.m = 3 from rfl, show lvQ.f 0 = 5 from rfl, show lvQ.f 1 = 0 from rfl, show lvQ.f 2 = 0 from rfl, show lvQ.f 3 = 0 from rfl, show lvQ.f 4 = 0 from rfl, show lvQ.f 5 = 0 from rfl, show lvQ.f 6 = 0 from rfl, show lvQ.f 7 = 0 from rfl]
  go_wp2
  go_ret
  exact ⟨rfl, nb_alloc HB4.out _⟩
end Go.Proofs.Ytakoejopgdaknaa

/- The closed fact 'slotted' of vivariumkeep. -/
import Derived.Test.YtdaefadapkkgjaaSlotTake
namespace Go.Proofs.Ytdaefadapkkgjaa
open Go.RowKit

theorem SlotsAt.new (w : World) : SlotsAt (w.alloc (.cells #[.slice none 0 0] 53)) w.heap.size (fun k => k = w.heap.size) [] :=
  ⟨.slice none 0 0, heap_alloc_new w _, Owns.nil _ _ _, rfl, (fun k hk => by cases hk), (fun k hk => by simp; omega)⟩

set_option maxHeartbeats 1000000 in
theorem slotted_any (w : World) : Calls Try.prog 22 #[] w fun e w' => e = .returned (.bool true) ∧ Below w.heap.size w w' := by
  go_enter Try.func22, Try.ntmps22
  go_wp2_with (first | (go_at_call 8; refine (slotsNew_any _).mono ?_; rintro e w' ⟨rfl, rfl⟩))
  refine (take_any w.heap.size (fun k => k = w.heap.size) [] _ (SlotsAt.new w) SlotOk.nil).mono ?_
  rintro e w1 ⟨rfl, F1, hs1, hk1, hm1⟩
  rw [show takeH [] = (0, 0) from by decide, show takeE [] = 0 from by decide]
  rw [show takeL [] = [(0, true)] from by decide] at hs1
  have HF1 : Hid (∀ k, F1 k → w.heap.size ≤ k) := Lib.hid (hm1.above (by simp) (fun k hk => by omega))
  have HB1 : Hid (Below w.heap.size w w1) := Lib.hid ((nb_alloc (Below.refl _ _) _).trans (hk1.below (by simp) (fun k hk => by omega)))
  have HS1 := Lib.hid hs1
  clear hs1 hk1 hm1
  go_wp2_with fail
  refine (free_any w.heap.size F1 [(0, true)] 0 0 _ (HS1.out.later (nb_alloc (Below.refl _ _) _)) (SlotOk.nil.take)).mono ?_
  rintro e w2 ⟨rfl, hs2, hk2⟩
  rw [show freeE [(0, true)] 0 0 = 0 from by decide]
  rw [show freeL [(0, true)] 0 0 = [(1, false)] from by decide] at hs2
  have hn1 : ¬ F1 w1.heap.size := fun h => by have := HS1.out.lt _ h; omega
  have c0 : w2.cell? ⟨w1.heap.size, 0, none⟩ = some (.int .i64 0) := hk2.cellS (p := ⟨w1.heap.size, 0, none⟩) (by simp) hn1
  have c1 : w2.cell? ⟨w1.heap.size, 1, none⟩ = some (.int .i64 0) := hk2.cellS (p := ⟨w1.heap.size, 1, none⟩) (by simp) hn1
  have HB2 : Hid (Below w.heap.size w w2) := Lib.hid ((nb_alloc HB1.out _).trans (hk2.below (by have := HB1.out.size; simp; omega) HF1.out))
  have HS2 := Lib.hid hs2
  have HSZ : Hid (w1.heap.size < w2.heap.size) := Lib.hid (by have := hk2.size; simp at this; omega)
  have HN1 := Lib.hid hn1
  clear hs2 hk2 hn1
  go_wp2_with fail
  refine (take_any w.heap.size F1 [(1, false)] _ HS2.out ⟨by decide, (fun k hk => by simp at hk; subst hk; decide), (fun k hk => by simp at hk; subst hk; decide)⟩).mono ?_
  rintro e w3 ⟨rfl, F3, hs3, hk3, hm3⟩
  rw [show takeH [(1, false)] = (0, 1) from by decide, show takeE [(1, false)] = 0 from by decide]
  have d0 : w3.cell? ⟨w1.heap.size, 0, none⟩ = some (.int .i64 0) := hk3.cellS (p := ⟨w1.heap.size, 0, none⟩) c0 HN1.out
  have d1 : w3.cell? ⟨w1.heap.size, 1, none⟩ = some (.int .i64 0) := hk3.cellS (p := ⟨w1.heap.size, 1, none⟩) c1 HN1.out
  have d2 : w1.heap.size < w3.heap.size := by have := hk3.size; have := HSZ.out; omega
  have HB3 : Hid (Below w.heap.size w w3) := Lib.hid (HB2.out.trans (hk3.below HB2.out.size HF1.out))
  clear hs3 hk3 hm3 c0 c1
  go_wp2
  go_ret
  exact ⟨rfl, nb_alloc HB3.out _⟩
end Go.Proofs.Ytdaefadapkkgjaa

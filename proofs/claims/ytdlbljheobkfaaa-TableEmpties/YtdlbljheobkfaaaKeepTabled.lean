/- The contract of the closed fact 'tabled'. -/
import Derived.Test.YtdlbljheobkfaaaFill
namespace Go.Proofs.Ytdlbljheobkfaaa
open Go.RowKit

set_option maxHeartbeats 4000000 in
theorem tabled_any (w : World) : Calls Try.prog 21 #[] w fun e w' => e = .returned (.bool true) ∧ Below w.heap.size w w' := by
  go_enter Try.func21, Try.ntmps21
  go_wp2_with fail
  refine (tableNew_yes 1 _ (by decide) (by decide)).mono ?_
  rintro e w1 ⟨p, F0, rfl, ht, hF, hb⟩
  have HST : Hid (OwnT w w1 p F0 1 (rowsT 0)) := Lib.hid ⟨ht, hF, hb⟩
  clear ht hF hb
  go_wp2
  go_loopw [18] (fun i wr => ∃ k : Nat, k ≤ 3 ∧ i = .int .i64 k ∧ Hid (∃ F, OwnT w wr p F 1 (rowsT k))) (fun i _ => 3 - (intOf i).toNat)
  case atStart => exact ⟨0, by omega, rfl, _, HST.out⟩
  case round =>
    obtain ⟨k, hk, rfl, hT⟩ := hrel
    clear HST
    obtain ⟨F, hO⟩ := hT.out
    have HO := Lib.hid hO
    clear hO hT
    by_cases hlt : k < 3
    · go_wp2_with fail
      refine (tabAdd_any p F 1 (rowsT k) (rowT k) _ HO.out.t (by rw [rowsT_len]; omega)).mono ?_
      rintro e w2 ⟨rfl, F2, ht2, hk2, hm2⟩
      rw [addL, if_pos (rowT_ok hlt)] at ht2
      have HN : Hid (OwnT w w2 p F2 1 (rowsT (k + 1))) := Lib.hid (HO.out.moved ht2 hk2 hm2)
      clear ht2 hk2 hm2
      go_wp2
      go_roundw
      case rel => exact ⟨k + 1, by omega, by go_num, F2, HN.out⟩
      case measure => simp [intOf]; omega
    · obtain rfl : k = 3 := by omega
      go_wp2_with fail
      refine (tabRemove_any p F 1 (rowsT 3) 0 (rowT 0) 0 _ HO.out.t (rowsT_ok 3 (by omega)) rfl (by decide)).mono ?_
      rintro e w2 ⟨rfl, F2, ht2, hk2, hm2⟩
      have HO2 := Lib.hid ((HO.out.moved ht2 hk2 hm2).later (nb_alloc (Below.refl _ _) (.cells #[.int .i64 (rowT 0).s, .int .i64 (rowT 0).g, .int .i64 (rowT 0).m, .int .i64 ((rowT 0).f 0), .int .i64 ((rowT 0).f 1), .int .i64 ((rowT 0).f 2), .int .i64 ((rowT 0).f 3), .int .i64 ((rowT 0).f 4), .int .i64 ((rowT 0).f 5), .int .i64 ((rowT 0).f 6), .int .i64 ((rowT 0).f 7)] 41)))
      have HC : Hid (colE 1 0 = 0 ∧ colL 1 (remL (rowsT 3) 0) 0 = [2, 1] ∧ (remL (rowsT 3) 0).length ≤ 3) := Lib.hid ⟨by decide, by decide, by decide⟩
      clear ht2 hk2 hm2
      go_wp2_with fail
      refine (tabColumn_any p F2 1 _ 0 _ HO2.out.t (by have := HC.out.2.2; omega)).mono ?_
      rintro e w3 ⟨v3, rfl, ho3, hb3⟩
      rw [HC.out.1]
      rw [HC.out.2.1] at ho3
      have hr3 : w3.heap[w2.heap.size]? = some (.cells #[.int .i64 (rowT 0).s, .int .i64 (rowT 0).g, .int .i64 (rowT 0).m, .int .i64 ((rowT 0).f 0), .int .i64 ((rowT 0).f 1), .int .i64 ((rowT 0).f 2), .int .i64 ((rowT 0).f 3), .int .i64 ((rowT 0).f 4), .int .i64 ((rowT 0).f 5), .int .i64 ((rowT 0).f 6), .int .i64 ((rowT 0).f 7)] 41) := by rw [hb3.block _ (by simp)]; exact heap_alloc_new w2 _
      have c0 : w3.cell? ⟨w2.heap.size, 0, none⟩ = some (.int .i64 0) := by rw [cell_of_row _ _ _ _ _ _ hr3]; rfl
      have hl3 := (Array.getElem?_eq_some_iff.1 hr3).1
      have HO3 := Lib.hid (Ints.ofReads (ho3.reads.later (nb_alloc (Below.refl _ _) (.cells #[.int .i64 2, .int .i64 1] 3))))
      have HB3 := Lib.hid (nb_alloc (HO2.out.later hb3).below (.cells #[.int .i64 2, .int .i64 1] 3))
      clear ho3 hb3 hr3
      go_wp2_with fail
      refine (eqInt_any _ _ _ _ _ HO3.out (Ints.two w3 2 1 3)).mono ?_
      rintro e w4 ⟨rfl, rfl⟩
      rw [decide_eq_true rfl]
      go_wp2
      go_ret
      exact ⟨rfl, HB3.out⟩
end Go.Proofs.Ytdlbljheobkfaaa

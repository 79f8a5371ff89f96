/- RowsMay, less, None of the reference of package diff. -/
import Derived.Test.YtnmlapoiilckhaaDoorDiffProg
import Derived.Test.YtnmlapoiilckhaaDoorGroundA
namespace Go.Proofs.YtnmlapoiilckhaaDoor
set_option maxRecDepth 8000
open Go.RowKit
set_option linter.unusedSimpArgs false
set_option linter.unusedVariables false

theorem may_out {n lo hi : Int} {b : Bool} (h : (!inB n lo hi) = b) (w : World) : Calls Tryd.prog 41 #[.int .i64 n, .int .i64 lo, .int .i64 hi] w fun e w' => e = .returned (.bool b) ∧ Below w.heap.size w w' :=
  (outside_any n lo hi w).mono fun _ _ ⟨he, hw⟩ => ⟨by rw [← h]; exact he, by subst hw; exact Below.refl _ _⟩
theorem may_beast {m v0 v1 v2 v3 v4 v5 v6 v7 r : Int} (w : World) (h : bErr m [v0, v1, v2, v3, v4, v5, v6, v7] = r) :
    Calls Tryd.prog 42 #[.agg #[.int .i64 m, .int .i64 v0, .int .i64 v1, .int .i64 v2, .int .i64 v3, .int .i64 v4, .int .i64 v5, .int .i64 v6, .int .i64 v7]] w fun e w' => e = .returned (.int .i64 r) ∧ Below w.heap.size w w' :=
  (refBeastCheck_any m v0 v1 v2 v3 v4 v5 v6 v7 w).mono fun _ _ ⟨he, hw⟩ => ⟨by rw [← h]; exact he, by subst hw; exact nb_alloc (Below.refl _ _) _⟩
set_option maxHeartbeats 8000000 in
theorem rowsMay_any (u : Value) (l : List Ro) (w : World) (h : Reads elRo w u l) : Calls Tryd.prog 25 #[u] w fun e w' => e = .returned (.bool (valid l)) ∧ Below w.heap.size w w' := by
  obtain ⟨a, cap, rfl, hlc, hm, hc⟩ := h
  unfold maxLen at hm
  obtain ⟨n, hn⟩ : ∃ n, l.length = n := ⟨_, rfl⟩
  have HN := Lib.hid hn
  rw [hn] at hlc hc ⊢
  have HC := Lib.hid hc
  clear hn hc
  go_enter Tryd.func25, Tryd.ntmps25
  go_wp2
  go_loopw [7] (fun i wr => ∃ (k : Nat) (s : Int), k ≤ n ∧ i = .int .i64 k ∧ Hid (k = 0 → s = -1) ∧ Hid (0 < k → (l.getD (k - 1) roZ).1.1 = s) ∧ Hid (valid l = valT s (l.drop k)) ∧ Hid (Below w.heap.size w wr)) (fun i _ => n - (intOf i).toNat)
  case atStart => exact ⟨0, -1, by omega, rfl, fun _ => rfl, fun h => absurd h (by omega), Lib.hid rfl, Below.refl _ _⟩
  case round =>
    obtain ⟨k, s, hk, rfl, hs0, hs1, hv, hB⟩ := hrel
    by_cases hlt : k < n
    · obtain ⟨bb, off, rfl, hbb, hck⟩ := HC.out k hlt
      have HPV : Hid (0 < k → w.cell? ⟨bb, off + (k - 1) * 11, none⟩ = some (.int .i64 s)) := Lib.hid (fun h0 => by
        obtain ⟨b2, o2, e2, _, h2⟩ := HC.out (k - 1) (by omega)
        cases e2
        rw [← hs1.out h0]
        exact h2 0 (by decide))
      have hcr : ∀ j, j < 11 → wr.cell? ⟨bb, off + k * 11 + j, none⟩ = (elRo.enc (l.getD k roZ))[j]? := fun j hj => by rw [hB.out.cell (p := ⟨bb, _, none⟩) hbb]; exact hck j hj
      have hdr := drop_at (l := l) (k := k) (by rw [HN.out]; exact hlt)
      obtain ⟨y, hy⟩ : ∃ y, l.getD k roZ = y := ⟨_, rfl⟩
      have HYS : Hid ((l.getD k roZ).1.1 = y.1.1) := Lib.hid (by rw [hy])
      rw [hy] at hcr hdr
      have HX := Lib.hid (nb_alloc hB.out (.cells (elRo.enc y).toArray 33))
      have HXB := Lib.hid (heap_alloc_new wr (.cells (elRo.enc y).toArray 33))
      obtain ⟨⟨ys, yg⟩, ym, y0, y1, y2, y3, y4, y5, y6, y7⟩ := y
      have HYS' : Hid ((l.getD k roZ).1.1 = ys) := HYS
      have HV : Hid (valid l = valT s (((ys, yg), ym, y0, y1, y2, y3, y4, y5, y6, y7) :: l.drop (k + 1))) := Lib.hid (by rw [hv.out, hdr])
      have hbw : bb < wr.heap.size := Nat.lt_of_lt_of_le hbb hB.out.size
      obtain ⟨c0, c1, c2, c3, c4, c5, c6, c7, c8, c9, c10⟩ := cRo (O := off + k * 11) hcr
      clear hck hcr hdr hy hv HYS
      go_wp2_with fail
      replace HX : Hid (Below w.heap.size w (wr.alloc (.cells #[.int .i64 ys, .int .i64 yg, .int .i64 ym, .int .i64 y0, .int .i64 y1, .int .i64 y2, .int .i64 y3, .int .i64 y4, .int .i64 y5, .int .i64 y6, .int .i64 y7] 33))) := HX
      replace HXB : Hid ((wr.alloc (.cells #[.int .i64 ys, .int .i64 yg, .int .i64 ym, .int .i64 y0, .int .i64 y1, .int .i64 y2, .int .i64 y3, .int .i64 y4, .int .i64 y5, .int .i64 y6, .int .i64 y7] 33)).heap[wr.heap.size]? = some (.cells #[.int .i64 ys, .int .i64 yg, .int .i64 ym, .int .i64 y0, .int .i64 y1, .int .i64 y2, .int .i64 y3, .int .i64 y4, .int .i64 y5, .int .i64 y6, .int .i64 y7] 33)) := HXB
      clear c0 c1 c2 c3 c4 c5 c6 c7 c8 c9 c10
      generalize wr.alloc (.cells #[.int .i64 ys, .int .i64 yg, .int .i64 ym, .int .i64 y0, .int .i64 y1, .int .i64 y2, .int .i64 y3, .int .i64 y4, .int .i64 y5, .int .i64 y6, .int .i64 y7] 33) = X at *
      have hxl := (Array.getElem?_eq_some_iff.1 HXB.out).1
      have c0 : ∀ n : Later X, n.w.cell? ⟨wr.heap.size, 0, none⟩ = some (.int .i64 ys) := fun n => n.cell (by rw [cell_of_row _ _ _ _ _ _ HXB.out]; rfl)
      have c1 : ∀ n : Later X, n.w.cell? ⟨wr.heap.size, 1, none⟩ = some (.int .i64 yg) := fun n => n.cell (by rw [cell_of_row _ _ _ _ _ _ HXB.out]; rfl)
      have c2 : ∀ n : Later X, n.w.cell? ⟨wr.heap.size, 2, none⟩ = some (.int .i64 ym) := fun n => n.cell (by rw [cell_of_row _ _ _ _ _ _ HXB.out]; rfl)
      have c3 : ∀ n : Later X, n.w.cell? ⟨wr.heap.size, 3, none⟩ = some (.int .i64 y0) := fun n => n.cell (by rw [cell_of_row _ _ _ _ _ _ HXB.out]; rfl)
      have c4 : ∀ n : Later X, n.w.cell? ⟨wr.heap.size, 4, none⟩ = some (.int .i64 y1) := fun n => n.cell (by rw [cell_of_row _ _ _ _ _ _ HXB.out]; rfl)
      have c5 : ∀ n : Later X, n.w.cell? ⟨wr.heap.size, 5, none⟩ = some (.int .i64 y2) := fun n => n.cell (by rw [cell_of_row _ _ _ _ _ _ HXB.out]; rfl)
      have c6 : ∀ n : Later X, n.w.cell? ⟨wr.heap.size, 6, none⟩ = some (.int .i64 y3) := fun n => n.cell (by rw [cell_of_row _ _ _ _ _ _ HXB.out]; rfl)
      have c7 : ∀ n : Later X, n.w.cell? ⟨wr.heap.size, 7, none⟩ = some (.int .i64 y4) := fun n => n.cell (by rw [cell_of_row _ _ _ _ _ _ HXB.out]; rfl)
      have c8 : ∀ n : Later X, n.w.cell? ⟨wr.heap.size, 8, none⟩ = some (.int .i64 y5) := fun n => n.cell (by rw [cell_of_row _ _ _ _ _ _ HXB.out]; rfl)
      have c9 : ∀ n : Later X, n.w.cell? ⟨wr.heap.size, 9, none⟩ = some (.int .i64 y6) := fun n => n.cell (by rw [cell_of_row _ _ _ _ _ _ HXB.out]; rfl)
      have c10 : ∀ n : Later X, n.w.cell? ⟨wr.heap.size, 10, none⟩ = some (.int .i64 y7) := fun n => n.cell (by rw [cell_of_row _ _ _ _ _ _ HXB.out]; rfl)
      obtain ⟨i1, hi1⟩ : ∃ b, (!inB ys 0 59) = b := ⟨_, rfl⟩
      obtain ⟨i2, hi2⟩ : ∃ b, (!inB yg 0 1000000) = b := ⟨_, rfl⟩
      obtain ⟨z, hz⟩ : ∃ z, bErr ym [y0, y1, y2, y3, y4, y5, y6, y7] = z := ⟨_, rfl⟩
      have HO1 := Lib.hid (fun W => may_out hi1 W)
      have HO2 := Lib.hid (fun W => may_out hi2 W)
      have HCB := Lib.hid (fun W => may_beast W hz)
      have HVV : Hid (valid l = (decide (s < ys) && (!i1 && !i2 && decide (z = 0)) && valT ys (l.drop (k + 1)))) := Lib.hid (by rw [HV.out, valT, roOk, ← hi1, ← hi2, ← hz, Bool.not_not, Bool.not_not]; rfl)
      have HI1 := Lib.hid hi1
      clear hi1 hi2 hz HV
      cases i1
      rotate_left
      · have HF : Hid (valid l = false) := Lib.hid (by rw [HVV.out]; simp)
        as_aux_lemma =>
          refine wp_region_later (by kernel_rfl) (by kernel_rfl) ?_
          repeat (go_big_quiet_step ((first | (go_at_call 41; first | with_reducible exact Calls.later (HO1.out _) | with_reducible exact Calls.later (HO2.out _)) | (go_at_call 42; exact Calls.later (HCB.out _)))))
          refine wpQuiet_nil ?_
          rintro _ ⟨nq, rfl⟩
          have HNQ := Lib.hid (nb_trans HX.out nq.below)
          generalize nq.w = V at *
          clear c0 c1 c2 c3 c4 c5 c6 c7 c8 c9 c10
          go_wp2
          go_ret
          exact ⟨ret_bool HF.out.symm, HNQ.out⟩
      cases i2
      rotate_left
      · have HF : Hid (valid l = false) := Lib.hid (by rw [HVV.out]; simp)
        as_aux_lemma =>
          refine wp_region_later (by kernel_rfl) (by kernel_rfl) ?_
          repeat (go_big_quiet_step ((first | (go_at_call 41; first | with_reducible exact Calls.later (HO1.out _) | with_reducible exact Calls.later (HO2.out _)) | (go_at_call 42; exact Calls.later (HCB.out _)))))
          refine wpQuiet_nil ?_
          rintro _ ⟨nq, rfl⟩
          have HNQ := Lib.hid (nb_trans HX.out nq.below)
          generalize nq.w = V at *
          clear c0 c1 c2 c3 c4 c5 c6 c7 c8 c9 c10
          go_wp2
          go_ret
          exact ⟨ret_bool HF.out.symm, HNQ.out⟩
      by_cases hz0 : z = 0
      · subst hz0
        have HVW : Hid (valid l = (decide (s < ys) && valT ys (l.drop (k + 1)))) := Lib.hid (by rw [HVV.out]; simp)
        have hy0 : 0 ≤ ys := by have := HI1.out; unfold inB at this; simp at this; omega
        by_cases hk0 : 0 < k
        · have hkk : ((k : Int) - 1) = ((k - 1 : Nat) : Int) := by omega
          have hkp : (0 : Int) < (k : Int) := by omega
          have hbX : bb < X.heap.size := Nat.lt_of_lt_of_le hbb HX.out.size
          have kp : ∀ n : Later X, n.w.cell? ⟨bb, off + (k - 1) * 11, none⟩ = some (.int .i64 s) := fun n => n.cell ((HX.out.cell (p := ⟨bb, _, none⟩) hbb).trans (HPV.out hk0))
          by_cases hsy : s < ys
          · have HF : Hid (valid l = valT ys (l.drop (k + 1))) := Lib.hid (by rw [HVW.out, decide_eq_true hsy, Bool.true_and])
            have hsy' : ¬ ys ≤ s := by omega
            as_aux_lemma =>
              refine wp_region_later (by kernel_rfl) (by kernel_rfl) ?_
              repeat (go_big_quiet_step ((first | (go_at_call 41; first | with_reducible exact Calls.later (HO1.out _) | with_reducible exact Calls.later (HO2.out _)) | (go_at_call 42; exact Calls.later (HCB.out _)))))
              refine wpQuiet_nil ?_
              rintro _ ⟨nq, rfl⟩
              have HNQ := Lib.hid (nb_trans HX.out nq.below)
              generalize nq.w = V at *
              clear c0 c1 c2 c3 c4 c5 c6 c7 c8 c9 c10
              go_wp2
              go_roundw
              case rel => exact ⟨k + 1, ys, by omega, by go_num, fun h => absurd h (by omega), fun _ => by rw [Nat.add_sub_cancel]; exact HYS'.out, HF, HNQ⟩
              case measure => simp [intOf]; omega
          · have HF : Hid (valid l = false) := Lib.hid (by rw [HVW.out, decide_eq_false hsy, Bool.false_and])
            have hsy' : ys ≤ s := by omega
            as_aux_lemma =>
              refine wp_region_later (by kernel_rfl) (by kernel_rfl) ?_
              repeat (go_big_quiet_step ((first | (go_at_call 41; first | with_reducible exact Calls.later (HO1.out _) | with_reducible exact Calls.later (HO2.out _)) | (go_at_call 42; exact Calls.later (HCB.out _)))))
              refine wpQuiet_nil ?_
              rintro _ ⟨nq, rfl⟩
              have HNQ := Lib.hid (nb_trans HX.out nq.below)
              generalize nq.w = V at *
              clear c0 c1 c2 c3 c4 c5 c6 c7 c8 c9 c10
              go_wp2
              go_ret
              exact ⟨ret_bool HF.out.symm, HNQ.out⟩
        · obtain rfl : k = 0 := by omega
          have HF : Hid (valid l = valT ys (l.drop (0 + 1))) := Lib.hid (by rw [HVW.out, decide_eq_true (by rw [hs0.out rfl]; omega), Bool.true_and])
          as_aux_lemma =>
            refine wp_region_later (by kernel_rfl) (by kernel_rfl) ?_
            repeat (go_big_quiet_step ((first | (go_at_call 41; first | with_reducible exact Calls.later (HO1.out _) | with_reducible exact Calls.later (HO2.out _)) | (go_at_call 42; exact Calls.later (HCB.out _)))))
            refine wpQuiet_nil ?_
            rintro _ ⟨nq, rfl⟩
            have HNQ := Lib.hid (nb_trans HX.out nq.below)
            generalize nq.w = V at *
            clear c0 c1 c2 c3 c4 c5 c6 c7 c8 c9 c10
            go_wp2
            go_roundw
            case rel => exact ⟨0 + 1, ys, by omega, by go_num, fun h => absurd h (by omega), fun _ => by rw [Nat.add_sub_cancel]; exact HYS'.out, HF, HNQ⟩
            case measure => simp [intOf]; omega
      · have HF : Hid (valid l = false) := Lib.hid (by rw [HVV.out, decide_eq_false hz0]; simp)
        have hz1 : (z != 0) = true := by simpa using hz0
        as_aux_lemma =>
          refine wp_region_later (by kernel_rfl) (by kernel_rfl) ?_
          repeat (go_big_quiet_step ((first | (go_at_call 41; first | with_reducible exact Calls.later (HO1.out _) | with_reducible exact Calls.later (HO2.out _)) | (go_at_call 42; exact Calls.later (HCB.out _)))))
          refine wpQuiet_nil ?_
          rintro _ ⟨nq, rfl⟩
          have HNQ := Lib.hid (nb_trans HX.out nq.below)
          generalize nq.w = V at *
          clear c0 c1 c2 c3 c4 c5 c6 c7 c8 c9 c10
          go_wp2
          go_ret
          exact ⟨ret_bool HF.out.symm, HNQ.out⟩
    · obtain rfl : k = n := by omega
      have HT : Hid (valid l = true) := Lib.hid (by rw [hv.out, List.drop_of_length_le (by rw [HN.out]; exact Nat.le_refl _)]; rfl)
      have hk60 : (k : Int) ≤ 60 := by have := valid_len HT.out; rw [HN.out] at this; omega
      go_wp2
      go_ret
      exact ⟨ret_bool HT.out.symm, hB.out⟩
end Go.Proofs.YtnmlapoiilckhaaDoor

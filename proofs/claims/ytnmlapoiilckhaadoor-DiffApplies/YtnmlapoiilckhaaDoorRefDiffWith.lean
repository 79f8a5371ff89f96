/- The function without of the reference, with the literal of Apply. -/
import Derived.Test.YtnmlapoiilckhaaDoorRefDiffKit
namespace Go.Proofs.YtnmlapoiilckhaaDoor
set_option maxRecDepth 8000
open Go.RowKit
set_option linter.unusedSimpArgs false
set_option linter.unusedVariables false

theorem filterR_t {p : Ro → Bool} {xs : List Ro} {r : Ro} (h : p r = true) : (xs ++ [r]).filter p = xs.filter p ++ [r] := by simp [List.filter_append, h]
theorem filterR_f {p : Ro → Bool} {xs : List Ro} {r : Ro} (h : p r = false) : (xs ++ [r]).filter p = xs.filter p := by simp [List.filter_append, h]
set_option maxHeartbeats 1000000 in
theorem applyLit_any (ys yg ym y0 y1 y2 y3 y4 y5 y6 y7 : Int) (bx : Nat) (a b : Int) (o n9 : Be) (w : World) (hbx : w.heap[bx]? = some (.cells (elCh.enc ((a, b), o, n9)).toArray 36)) :
    Calls Tryd.prog 32 #[.agg #[.int .i64 ys, .int .i64 yg, .int .i64 ym, .int .i64 y0, .int .i64 y1, .int .i64 y2, .int .i64 y3, .int .i64 y4, .int .i64 y5, .int .i64 y6, .int .i64 y7], .pointer (some ⟨bx, 0, none⟩)] w fun e w' => e = .returned (.bool (decide ((ys, yg) = (a, b)))) ∧ Below w.heap.size w w' := by
  have hbl := (Array.getElem?_eq_some_iff.1 hbx).1
  have k0 : w.cell? ⟨bx, 0, none⟩ = some (.int .i64 a) := by rw [cell_of_row _ _ _ _ _ _ hbx]; rfl
  have k1 : w.cell? ⟨bx, 1, none⟩ = some (.int .i64 b) := by rw [cell_of_row _ _ _ _ _ _ hbx]; rfl
  have HX : Hid (Below w.heap.size w (w.alloc (.cells #[.int .i64 ys, .int .i64 yg, .int .i64 ym, .int .i64 y0, .int .i64 y1, .int .i64 y2, .int .i64 y3, .int .i64 y4, .int .i64 y5, .int .i64 y6, .int .i64 y7] 33))) := Lib.hid (nb_alloc (Below.refl _ _) _)
  clear hbx
  cases h1 : (ys == a) <;> cases h2 : (yg == b)
  all_goals
    have HP : Hid (decide ((ys, yg) = (a, b)) = _) := Lib.hid (show decide ((ys, yg) = (a, b)) = ((ys == a) && (yg == b)) by rw [Bool.eq_iff_iff]; simp)
    rw [h1, h2] at HP
    go_enter Tryd.func32, Tryd.ntmps32
    go_wp2
    go_ret
    exact ⟨by rw [HP.out]; rfl, HX.out⟩
set_option maxHeartbeats 4000000 in
theorem withoutCh_any (v : Value) (rows : List Ro) (bx : Nat) (a b : Int) (o n9 : Be) (w : World) (h : Reads elRo w v rows) (h60 : rows.length ≤ 1000) (hbx : w.heap[bx]? = some (.cells (elCh.enc ((a, b), o, n9)).toArray 36)) :
    Calls Tryd.prog 31 #[v, .func (.func 32) #[] #[.pointer (some ⟨bx, 0, none⟩)]] w fun e w' => ∃ v', e = .returned v' ∧ OwnsF elRo w' w.heap.size 33 v' (rows.filter (fun r => !decide (r.1 = (a, b)))) ∧ Below w.heap.size w w' := by
  obtain ⟨i0, hi, hz0, hz1, hz2⟩ := info_parts infoRo
  obtain ⟨hm, hop⟩ := h.open
  generalize hn : rows.length = n at *
  have HN := Lib.hid hn
  have HBX := Lib.hid hbx
  clear hn h hbx
  unfold maxLen at hm
  rcases hop with ⟨ad, cap, rfl, hz⟩ | ⟨bl, off, cap, rfl, hb, hlc, hcm, hc⟩
  all_goals
    go_enter Tryd.func31, Tryd.ntmps31
    go_wp2
    go_loopw [5, 10] (fun u i wr => ∃ k : Nat, k ≤ n ∧ i = .int .i64 k ∧ Hid (OwnsF elRo wr w.heap.size 33 u ((rows.take k).filter (fun r => !decide (r.1 = (a, b))))) ∧ Hid (Below w.heap.size w wr)) (fun _ i _ => n - (intOf i).toNat)
    case atStart => exact ⟨0, by omega, rfl, OwnsF.nil _ _ _ _, Below.refl _ _⟩
    case round =>
      obtain ⟨k, hk, rfl, hO, hB⟩ := hrel
      by_cases hlt : k < n
      · first
          | omega
          | (have hcr : ∀ jj, jj < 11 → wr.cell? ⟨bl, off + k * 11 + jj, none⟩ = (elRo.enc (rows.getD k roZ))[jj]? := fun jj hjj => by rw [hB.out.cell (p := ⟨bl, _, none⟩) hb]; exact hc k hlt jj hjj
             have HTK : Hid (rows.take (k + 1) = rows.take k ++ [rows.getD k roZ]) := Lib.hid (by
               have hkl : k < rows.length := by rw [HN.out]; exact hlt
               rw [List.take_add_one, List.getElem?_eq_getElem hkl, List.getD_eq_getElem?_getD, List.getElem?_eq_getElem hkl]; rfl)
             have HLN : Hid (((rows.take k).filter (fun r => !decide (r.1 = (a, b)))).length ≤ k) := Lib.hid (by
               have h1 := List.length_filter_le (fun r => !decide (r.1 = (a, b))) (rows.take k)
               rw [List.length_take] at h1
               have := Nat.min_le_left k rows.length
               omega)
             clear hc
             generalize rows.getD k roZ = r at *
             obtain ⟨⟨ys, yg⟩, ym, y0, y1, y2, y3, y4, y5, y6, y7⟩ := r
             have hbw : bl < wr.heap.size := Nat.lt_of_lt_of_le hb hB.out.size
             obtain ⟨c0, c1, c2, c3, c4, c5, c6, c7, c8, c9, c10⟩ := cRo (O := off + k * 11) hcr
             clear hcr
             have HAR : Hid ((wr.alloc (.cells #[.int .i64 ys, .int .i64 yg, .int .i64 ym, .int .i64 y0, .int .i64 y1, .int .i64 y2, .int .i64 y3, .int .i64 y4, .int .i64 y5, .int .i64 y6, .int .i64 y7] 33)).heap[wr.heap.size]? = some (.cells #[.int .i64 ys, .int .i64 yg, .int .i64 ym, .int .i64 y0, .int .i64 y1, .int .i64 y2, .int .i64 y3, .int .i64 y4, .int .i64 y5, .int .i64 y6, .int .i64 y7] 33)) := Lib.hid (heap_alloc_new _ _)
             have HBA := Lib.hid (nb_alloc hB.out (.cells #[.int .i64 ys, .int .i64 yg, .int .i64 ym, .int .i64 y0, .int .i64 y1, .int .i64 y2, .int .i64 y3, .int .i64 y4, .int .i64 y5, .int .i64 y6, .int .i64 y7] 33))
             have HOA : Hid (OwnsF elRo (wr.alloc (.cells #[.int .i64 ys, .int .i64 yg, .int .i64 ym, .int .i64 y0, .int .i64 y1, .int .i64 y2, .int .i64 y3, .int .i64 y4, .int .i64 y5, .int .i64 y6, .int .i64 y7] 33)) w.heap.size 33 u5 ((rows.take k).filter (fun r => !decide (r.1 = (a, b))))) := Lib.hid (hO.out.later (nb_alloc (Below.refl _ _) _))
             obtain ⟨L, hL⟩ : ∃ L, (rows.take k).filter (fun r => !decide (r.1 = (a, b))) = L := ⟨_, rfl⟩
             rw [hL] at HLN HOA
             have HL := Lib.hid hL
             clear hL hO
             have hAl := (Array.getElem?_eq_some_iff.1 HAR.out).1
             go_wp2_with fail
             generalize wr.alloc (.cells #[.int .i64 ys, .int .i64 yg, .int .i64 ym, .int .i64 y0, .int .i64 y1, .int .i64 y2, .int .i64 y3, .int .i64 y4, .int .i64 y5, .int .i64 y6, .int .i64 y7] 33) = A at *
             clear c0 c1 c2 c3 c4 c5 c6 c7 c8 c9 c10
             refine (applyLit_any ys yg ym y0 y1 y2 y3 y4 y5 y6 y7 bx a b o n9 _ (by rw [HBA.out.block _ (Array.getElem?_eq_some_iff.1 HBX.out).1]; exact HBX.out)).mono ?_
             rintro e w6 ⟨rfl, hb6⟩
             have hr6 : w6.heap[wr.heap.size]? = some (.cells #[.int .i64 ys, .int .i64 yg, .int .i64 ym, .int .i64 y0, .int .i64 y1, .int .i64 y2, .int .i64 y3, .int .i64 y4, .int .i64 y5, .int .i64 y6, .int .i64 y7] 33) := by rw [hb6.block _ hAl]; exact HAR.out
             have HO6 := Lib.hid (HOA.out.later hb6)
             have HB6 := Lib.hid (nb_trans HBA.out hb6)
             have hr6l := (Array.getElem?_eq_some_iff.1 hr6).1
             have hs6 := HB6.out.size
             have k0 : w6.cell? ⟨wr.heap.size, 0, none⟩ = some (.int .i64 ys) := by rw [cell_of_row _ _ _ _ _ _ hr6]; rfl
             have k1 : w6.cell? ⟨wr.heap.size, 1, none⟩ = some (.int .i64 yg) := by rw [cell_of_row _ _ _ _ _ _ hr6]; rfl
             have k2 : w6.cell? ⟨wr.heap.size, 2, none⟩ = some (.int .i64 ym) := by rw [cell_of_row _ _ _ _ _ _ hr6]; rfl
             have k3 : w6.cell? ⟨wr.heap.size, 3, none⟩ = some (.int .i64 y0) := by rw [cell_of_row _ _ _ _ _ _ hr6]; rfl
             have k4 : w6.cell? ⟨wr.heap.size, 4, none⟩ = some (.int .i64 y1) := by rw [cell_of_row _ _ _ _ _ _ hr6]; rfl
             have k5 : w6.cell? ⟨wr.heap.size, 5, none⟩ = some (.int .i64 y2) := by rw [cell_of_row _ _ _ _ _ _ hr6]; rfl
             have k6 : w6.cell? ⟨wr.heap.size, 6, none⟩ = some (.int .i64 y3) := by rw [cell_of_row _ _ _ _ _ _ hr6]; rfl
             have k7 : w6.cell? ⟨wr.heap.size, 7, none⟩ = some (.int .i64 y4) := by rw [cell_of_row _ _ _ _ _ _ hr6]; rfl
             have k8 : w6.cell? ⟨wr.heap.size, 8, none⟩ = some (.int .i64 y5) := by rw [cell_of_row _ _ _ _ _ _ hr6]; rfl
             have k9 : w6.cell? ⟨wr.heap.size, 9, none⟩ = some (.int .i64 y6) := by rw [cell_of_row _ _ _ _ _ _ hr6]; rfl
             have k10 : w6.cell? ⟨wr.heap.size, 10, none⟩ = some (.int .i64 y7) := by rw [cell_of_row _ _ _ _ _ _ hr6]; rfl
             clear hb6 hr6
             obtain ⟨p, hp⟩ : ∃ p, decide ((ys, yg) = (a, b)) = p := ⟨_, rfl⟩
             rw [hp]
             cases p
             · have HNX : Hid ((rows.take (k + 1)).filter (fun r => !decide (r.1 = (a, b))) = L ++ [((ys, yg), ym, y0, y1, y2, y3, y4, y5, y6, y7)]) := Lib.hid (by rw [HTK.out, filterR_t (show (!decide ((ys, yg) = (a, b))) = true by rw [hp]; rfl), HL.out])
               clear hp
               go_wp2_with (first | (at_builtin; refine wpList_append_own _ rfl _ _ 22 rfl w.heap.size 33 i0 _ 11 88 Tryd.underlying22 hi hz0 hz1 hz2 rfl (by decide) _ L.length (L.flatMap elRo.enc) rfl (World.ownsRow.alloc HO6.out _) ⟨w6.heap.size, 0, none⟩ 1 1 [.int .i64 ys, .int .i64 yg, .int .i64 ym, .int .i64 y0, .int .i64 y1, .int .i64 y2, .int .i64 y3, .int .i64 y4, .int .i64 y5, .int .i64 y6, .int .i64 y7] rfl rfl ?d1 ?d2 ?d3 ?d4 ?d5 ?_))
               case d1 => exact World.news_of_block (heap_alloc_new _ _)
               case d2 => exact elRo.one ((ys, yg), ym, y0, y1, y2, y3, y4, y5, y6, y7)
               case d3 => have := HLN.out; unfold maxLen; omega
               case d4 => have := HLN.out; omega
               case d5 => simp; omega
               intro v' w2 hown hgr _
               have HO2 : Hid (OwnsF elRo w2 w.heap.size 33 v' (L ++ [((ys, yg), ym, y0, y1, y2, y3, y4, y5, y6, y7)])) := Lib.hid (OwnsF.snoc (x := ((ys, yg), ym, y0, y1, y2, y3, y4, y5, y6, y7)) hown)
               have HB2 : Hid (Below w.heap.size w w2) := Lib.hid ((nb_alloc HB6.out _).grown hgr (by simp; omega) (fun j hj => HO6.out.ge hj))
               clear hown hgr k0 k1 k2 k3 k4 k5 k6 k7 k8 k9 k10
               go_wp2
               go_roundw
               case rel => exact ⟨k + 1, by omega, by go_num, by rw [HNX.out]; exact HO2, HB2⟩
               case measure => simp [intOf]; omega
             · have HNX : Hid ((rows.take (k + 1)).filter (fun r => !decide (r.1 = (a, b))) = L) := Lib.hid (by rw [HTK.out, filterR_f (show (!decide ((ys, yg) = (a, b))) = false by rw [hp]; rfl), HL.out])
               clear hp k0 k1 k2 k3 k4 k5 k6 k7 k8 k9 k10
               go_wp2
               go_roundw
               case rel => exact ⟨k + 1, by omega, by go_num, by rw [HNX.out]; exact HO6, HB6⟩
               case measure => simp [intOf]; omega)
      · obtain rfl : k = n := by omega
        have HALL : Hid (rows.take k = rows) := Lib.hid (by rw [List.take_of_length_le (by rw [HN.out]; exact Nat.le_refl _)])
        rw [HALL.out] at hO
        go_wp2
        go_ret
        exact ⟨_, rfl, hO.out, hB.out⟩
end Go.Proofs.YtnmlapoiilckhaaDoor

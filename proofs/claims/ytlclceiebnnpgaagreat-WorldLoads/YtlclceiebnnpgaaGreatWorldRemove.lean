/- The contract of remove of package world. -/
import Derived.Test.YtlclceiebnnpgaaGreatWorldKit
namespace Go.Proofs.YtlclceiebnnpgaaGreat
set_option maxRecDepth 8000
open Go.RowKit

def RemWPost (w : World) (p : Nat) (F : Nat → Prop) (l : List (Int × Bool)) (R : Rw → Prop) (a b : Int) (e : Ending) (w' : World) : Prop :=
  e = .returned (.tuple #[]) ∧ ∃ F', WldAt w' p F' l (fun r => R r ∧ hd r ≠ (a, b)) ∧ Kept F w w' ∧ Moves w F F'
theorem remL_in {rows : List Rw} {i : Nat} (h : i < rows.length) : remL rows i = rmL rows i rowZ := by
  have : inB (i : Int) 0 (rows.length - 1) = true := by simp [inB]; omega
  rw [remL, this, if_pos rfl, Int.toNat_natCast]
theorem rowR_last {rows : List Rw} {i : Nat} (h : i < rows.length - 1) : rowR (rmL rows i rowZ) i = rows.getD (rows.length - 1) rowZ ∧ rowE (rmL rows i rowZ) i = 0 := by
  have h1 : i < (rmL rows i rowZ).length := by rw [rmL_len]; exact h
  obtain ⟨e1, e2⟩ := rowR_in h1
  exact ⟨by rw [e1, rmL_at _ _ _ _ h, if_pos rfl], e2⟩
theorem rowR_end {rows : List Rw} {i : Nat} (h : ¬ i < rows.length - 1) : rowR (rmL rows i rowZ) i = rowZ ∧ rowE (rmL rows i rowZ) i = 5 := by
  refine rowR_out ?_
  rw [rmL_len]
  cases hh : inB (i : Int) 0 ((rows.length - 1 : Nat) - 1)
  · rfl
  · have := inB_t hh; omega

set_option maxHeartbeats 4000000 in
theorem worldRemove_any (p : Nat) (F : Nat → Prop) (l : List (Int × Bool)) (R : Rw → Prop) (a b : Int) (w : World) (h : WldAt w p F l R) (ha : I64r a) (hb : I64r b) (hin : ∃ x, R x ∧ hd x = (a, b)) (hfew : Few R) :
    Calls Tryz.prog 47 #[.pointer (some ⟨p, 0, none⟩), .agg #[.int .i64 a, .int .i64 b]] w (RemWPost w p F l R a b) := by
  obtain ⟨c, tm, pm, ks, tb, tr, hk, pl, h⟩ := h
  have hm : (a, b) ∈ hk := by obtain ⟨x, hx, e⟩ := hin; rw [← e]; exact (h.laid.is hx).1
  obtain ⟨mp, rfl⟩ : ∃ mp, pm = .map (some mp) := by
    rcases h.maps with ⟨_, _, _, rfl⟩ | ⟨mt, mp, _, e, _⟩
    · simp at hm
    · exact ⟨mp, e⟩
  obtain ⟨hkk, hil, hdx⟩ := h.laid.at_ _ hm
  obtain ⟨k, hkq⟩ : ∃ k, (pl (a, b)).1 = k := ⟨_, rfl⟩
  obtain ⟨i, hiq⟩ : ∃ i, (pl (a, b)).2 = i := ⟨_, rfl⟩
  obtain ⟨q, hqq⟩ : ∃ q, tb k = q := ⟨_, rfl⟩
  rw [hkq] at hkk
  rw [hkq, hiq] at hil hdx
  have HP : Hid (pl (a, b) = (k, i)) := Lib.hid (by rw [← hkq, ← hiq])
  have HQ := Lib.hid hqq
  have HKK := Lib.hid hkk
  have HM := Lib.hid hm
  have HIL := Lib.hid hil
  have HDX := Lib.hid hdx
  have HTOK := Lib.hid (h.laid.tab hkk)
  obtain ⟨hr1, hr2⟩ := rowR_in hil
  have HR1 := Lib.hid hr1
  have HR2 := Lib.hid hr2
  have h0k := (h.laid.key k hkk).1
  have H0K := Lib.hid h0k
  have HAB : Hid (I64r a ∧ I64r b) := Lib.hid ⟨ha, hb⟩
  obtain ⟨rws, hr60, hrin⟩ := hfew
  have HTL : Hid ((tr k).length ≤ 60) := Lib.hid (Nat.le_trans (h.laid.trLen hrin hkk) hr60)
  have HHL : Hid (hk.length ≤ 60) := Lib.hid (Nat.le_trans (h.laid.hkLen h.mapP.1.nodup hrin) hr60)
  have hi60 : i < 60 := Nat.lt_of_lt_of_le hil HTL.out
  have hlt := h.lt
  have hX : Below w.heap.size w (w.alloc (.cells #[.int .i64 a, .int .i64 b] 28)) := nb_alloc (Below.refl _ _) _
  have hhb : (w.alloc (.cells #[.int .i64 a, .int .i64 b] 28)).heap[w.heap.size]? = some (.cells #[.int .i64 a, .int .i64 b] 28) := heap_alloc_new _ _
  have hsz : (w.alloc (.cells #[.int .i64 a, .int .i64 b] 28)).heap.size = w.heap.size + 1 := by simp
  have HW := Lib.hid (h.later hX)
  have HX := Lib.hid hX
  have HLT := Lib.hid hlt
  clear h hX hr60 hrin hil hdx hkk hr1 hr2 h0k hlt hin
  go_enter Tryz.func47, Tryz.ntmps47
  go_wp2_with fail
  generalize (w.alloc (.cells #[.int .i64 a, .int .i64 b] 28)) = X at *
  have c2 := HW.out.cell2
  have hpl := HW.out.plt
  have kh0 : X.cell? ⟨w.heap.size, 0, none⟩ = some (.int .i64 a) := by rw [cell_of_row _ _ _ _ _ _ hhb]; rfl
  have kh1 : X.cell? ⟨w.heap.size, 1, none⟩ = some (.int .i64 b) := by rw [cell_of_row _ _ _ _ _ _ hhb]; rfl
  have hlk : (Instr.lookup 63 (.map (some mp)) (.agg #[.int .i64 a, .int .i64 b]) false).run Tryz.prog X.drew = .ok (.agg #[.pointer (some ⟨q, 0, none⟩), .int .i64 i]) X.drew := by
    have := (HW.out.later (Below.refl _ _).drew).look1i a b ha hb hm
    rw [plV, hkq, hiq, hqq] at this; exact this
  have hlk1 : (Instr.lookup 63 (.map (some mp)) (.agg #[.int .i64 a, .int .i64 b]) false).run Tryz.prog (X.alloc (.cells #[.pointer none, .int .i64 0] 97)).drew = .ok (.agg #[.pointer (some ⟨q, 0, none⟩), .int .i64 i]) (X.alloc (.cells #[.pointer none, .int .i64 0] 97)).drew := by
    have := (HW.out.later (nb_alloc (Below.refl _ _) (.cells #[.pointer none, .int .i64 0] 97)).drew).look1i a b ha hb hm
    rw [plV, hkq, hiq, hqq] at this; exact this
  have hhl : w.heap.size < X.heap.size := by omega
  have HHB := Lib.hid hhb
  clear hhb hm hkq hiq hqq hsz
  go_region
  all_goals
    clear hlk hlk1 kh0 kh1 c2
    have HWV : Hid (WldIs (X.alloc (.cells #[.pointer (some ⟨q, 0, none⟩), .int .i64 i] 97)).drew p F c l tm (.map (some mp)) ks tb tr hk pl R) := Lib.hid (HW.out.later (nb_alloc (Below.refl _ _) _).drew)
    have HVX : Hid (Below w.heap.size w (X.alloc (.cells #[.pointer (some ⟨q, 0, none⟩), .int .i64 i] 97)).drew) := Lib.hid (nb_alloc HX.out _).drew
    have HB1 : Hid ((X.alloc (.cells #[.pointer (some ⟨q, 0, none⟩), .int .i64 i] 97)).drew.heap[w.heap.size]? = some (.cells #[.int .i64 a, .int .i64 b] 28)) := Lib.hid ((Below.heap_alloc X _ _ hhl).trans HHB.out)
    have HB2 : Hid ((X.alloc (.cells #[.pointer (some ⟨q, 0, none⟩), .int .i64 i] 97)).drew.heap[X.heap.size]? = some (.cells #[.pointer (some ⟨q, 0, none⟩), .int .i64 i] 97)) := Lib.hid (heap_alloc_new X _)
    have hxs : X.heap.size < (X.alloc (.cells #[.pointer (some ⟨q, 0, none⟩), .int .i64 i] 97)).drew.heap.size := (Array.getElem?_eq_some_iff.1 HB2.out).1
    replace hpl : p < (X.alloc (.cells #[.pointer (some ⟨q, 0, none⟩), .int .i64 i] 97)).drew.heap.size := HWV.out.plt
    clear HW HX HHB
    generalize hV : (X.alloc (.cells #[.pointer (some ⟨q, 0, none⟩), .int .i64 i] 97)).drew = V at *
    clear hV
    have HBOX : Hid (∀ Y, Kept F V Y → Y.heap[w.heap.size]? = some (.cells #[.int .i64 a, .int .i64 b] 28) ∧ Y.heap[X.heap.size]? = some (.cells #[.pointer (some ⟨q, 0, none⟩), .int .i64 i] 97)) := Lib.hid (fun Y hY => ⟨by rw [hY.block _ (by omega) (fun e => by have := HLT.out _ e; omega)]; exact HB1.out, by rw [hY.block _ hxs (fun e => by have := HLT.out _ e; omega)]; exact HB2.out⟩)
    have pv0 : V.cell? ⟨X.heap.size, 0, none⟩ = some (.pointer (some ⟨q, 0, none⟩)) := by rw [cell_of_row _ _ _ _ _ _ HB2.out]; rfl
    have pv1 : V.cell? ⟨X.heap.size, 1, none⟩ = some (.int .i64 i) := by rw [cell_of_row _ _ _ _ _ _ HB2.out]; rfl
    go_wp2_with fail
    refine (tabRemove_any q _ k (tr k) i _ 0 _ (by rw [← HQ.out]; exact HWV.out.tabs k HKK.out) HTOK.out HR1.out HR2.out).mono ?_
    rintro e w2 ⟨rfl, F2, ht2, hk2, hm2⟩
    rw [remL_in HIL.out] at ht2
    have hkF2 : Kept F V w2 := hk2.mono (fun b e => .inl e.1)
    obtain ⟨hb1, hb2⟩ := HBOX.out w2 hkF2
    have lh0 : w2.cell? ⟨w.heap.size, 0, none⟩ = some (.int .i64 a) := by rw [cell_of_row _ _ _ _ _ _ hb1]; rfl
    have lh1 : w2.cell? ⟨w.heap.size, 1, none⟩ = some (.int .i64 b) := by rw [cell_of_row _ _ _ _ _ _ hb1]; rfl
    have c22 := (HWV.out.slots.kept hk2 (fun b hb hb' => by rw [hb.2] at hb'; have := H0K.out; omega)).cell.2
    have hpl2 : p < w2.heap.size := Nat.lt_of_lt_of_le hpl hk2.size
    have hhl2 : w.heap.size < w2.heap.size := (Array.getElem?_eq_some_iff.1 hb1).1
    have hmpc := HWV.out.mapP.2
    have HMP : Hid (MapIs kHand w2.drew mp hk.length hk (plV tb pl)) := Lib.hid ((HWV.out.mapP.1.kept hk2 (fun e => by rw [hmpc.2] at e; have := H0K.out; omega)).kept (Kept.drew (fun _ => False) _) id)
    have HT2 := Lib.hid ht2
    have HK2 := Lib.hid hk2
    have HM2 := Lib.hid hm2
    have HKF2 := Lib.hid hkF2
    clear ht2 hk2 hm2 hkF2 hb1 hb2 pv0 pv1 hmpc
    go_wp2_with fail
    go_still_tail 5, (by kernel_rfl)
    change wpList _ _ _ _ _ w2.drew
    clear lh0 lh1 c22
    go_wp2_with (first | (at_delete; refine wpList_del_is (K := kHand) _ rfl _ _ 63 rfl 97 Tryz.underlying63 rfl HMP.out (a, b) HAB.out rfl ?_))
    intro w3 hmap3 hk3
    have hk23 : Kept (fun b => b = mp) w2 w3 := (Kept.drew (fun b => b = mp) w2).trans hk3 (fun _ h => .inl h)
    have hkF3 : Kept F V w3 := HKF2.out.trans hk23 (fun b e => .inl (by rw [e]; exact HWV.out.mapP.2.1))
    obtain ⟨hb1, hb2⟩ := HBOX.out w3 hkF3
    have pv0 : w3.cell? ⟨X.heap.size, 0, none⟩ = some (.pointer (some ⟨q, 0, none⟩)) := by rw [cell_of_row _ _ _ _ _ _ hb2]; rfl
    have pv1 : w3.cell? ⟨X.heap.size, 1, none⟩ = some (.int .i64 i) := by rw [cell_of_row _ _ _ _ _ _ hb2]; rfl
    have hxl3 := (Array.getElem?_eq_some_iff.1 hb2).1
    have hT3 : TableAt w3 q F2 k (rmL (tr k) i rowZ) := HT2.out.kept hk23 (fun b hb e => by
      rcases HM2.out b hb with h1 | h1
      · rw [e, HWV.out.mapP.2.2] at h1; have := H0K.out; omega
      · have := HWV.out.lt b (by rw [e]; exact HWV.out.mapP.2.1); omega)
    have HMAP3 := Lib.hid hmap3.tight
    have HK23 := Lib.hid hk23
    have HKF3 := Lib.hid hkF3
    have HT3 := Lib.hid hT3
    have hpl3 : p < w3.heap.size := Nat.lt_of_lt_of_le hpl hkF3.size
    have c23 := (((HWV.out.slots.kept HK2.out (fun b hb hb' => by rw [hb.2] at hb'; have := H0K.out; omega)).kept hk23 (fun b hb e => by rw [e, HWV.out.mapP.2.2] at hb; exact absurd hb.2 (by decide))).cell.2)
    clear hmap3 hk3 hk23 hkF3 hT3 hb1 hb2 HMP
    by_cases hlast : i < (tr k).length - 1
    · as_aux_lemma =>
      obtain ⟨hl1, hl2⟩ := rowR_last hlast
      obtain ⟨rl, hrl⟩ : ∃ rl, (tr k).getD ((tr k).length - 1) rowZ = rl := ⟨_, rfl⟩
      rw [hrl] at hl1
      go_wp2_with fail
      refine (tabRow_any q F2 k _ i rl 0 _ HT3.out (HTOK.out.rm i) hl1 hl2).mono ?_
      rintro e w4 ⟨rfl, hb4⟩
      have HB4 := Lib.hid hb4
      have HRL := Lib.hid hrl
      have HLAST := Lib.hid hlast
      clear hb4 hl1 hl2 hrl hlast pv0 pv1
      have hcells : ∀ Y, Kept F V Y → Y.cell? ⟨X.heap.size, 0, none⟩ = some (.pointer (some ⟨q, 0, none⟩)) ∧ Y.cell? ⟨X.heap.size, 1, none⟩ = some (.int .i64 i) ∧ X.heap.size < Y.heap.size := fun Y hY => by
        obtain ⟨_, hb2⟩ := HBOX.out Y hY
        exact ⟨by rw [cell_of_row _ _ _ _ _ _ hb2]; rfl, by rw [cell_of_row _ _ _ _ _ _ hb2]; rfl, (Array.getElem?_eq_some_iff.1 hb2).1⟩
      obtain ⟨pv0, pv1, hxl4⟩ := hcells w4 (HKF3.out.trans (Kept.ofBelow (F := F) HB4.out) (fun _ h => .inl h))
      have c24 : w4.cell? ⟨p, 2, none⟩ = some (.map (some mp)) := by rw [HB4.out.cell (p := ⟨p, 2, none⟩) hpl3]; exact c23
      have hpl4 : p < w4.heap.size := Nat.lt_of_lt_of_le hpl3 HB4.out.size
      clear hcells c23 hpl3 hxl3
      go_wp2_with fail
      have hy0 : (w4.alloc (.cells #[.int .i64 rl.s, .int .i64 rl.g, .int .i64 rl.m, .int .i64 (rl.f 0), .int .i64 (rl.f 1), .int .i64 (rl.f 2), .int .i64 (rl.f 3), .int .i64 (rl.f 4), .int .i64 (rl.f 5), .int .i64 (rl.f 6), .int .i64 (rl.f 7)] 45)).cell? ⟨w4.heap.size, 0, none⟩ = some (.int .i64 rl.s) := by rw [cell_of_row _ _ _ _ _ _ (heap_alloc_new w4 _)]; rfl
      have hy1 : (w4.alloc (.cells #[.int .i64 rl.s, .int .i64 rl.g, .int .i64 rl.m, .int .i64 (rl.f 0), .int .i64 (rl.f 1), .int .i64 (rl.f 2), .int .i64 (rl.f 3), .int .i64 (rl.f 4), .int .i64 (rl.f 5), .int .i64 (rl.f 6), .int .i64 (rl.f 7)] 45)).cell? ⟨w4.heap.size, 1, none⟩ = some (.int .i64 rl.g) := by rw [cell_of_row _ _ _ _ _ _ (heap_alloc_new w4 _)]; rfl
      have hyl : w4.heap.size < (w4.alloc (.cells #[.int .i64 rl.s, .int .i64 rl.g, .int .i64 rl.m, .int .i64 (rl.f 0), .int .i64 (rl.f 1), .int .i64 (rl.f 2), .int .i64 (rl.f 3), .int .i64 (rl.f 4), .int .i64 (rl.f 5), .int .i64 (rl.f 6), .int .i64 (rl.f 7)] 45)).heap.size := by simp
      have HBY : Hid (Below w4.heap.size w4 (w4.alloc (.cells #[.int .i64 rl.s, .int .i64 rl.g, .int .i64 rl.m, .int .i64 (rl.f 0), .int .i64 (rl.f 1), .int .i64 (rl.f 2), .int .i64 (rl.f 3), .int .i64 (rl.f 4), .int .i64 (rl.f 5), .int .i64 (rl.f 6), .int .i64 (rl.f 7)] 45))) := Lib.hid (nb_alloc (Below.refl _ _) _)
      have hcells : ∀ Y, Below w4.heap.size w4 Y → Y.cell? ⟨X.heap.size, 0, none⟩ = some (.pointer (some ⟨q, 0, none⟩)) ∧ Y.cell? ⟨X.heap.size, 1, none⟩ = some (.int .i64 i) ∧ Y.cell? ⟨p, 2, none⟩ = some (.map (some mp)) ∧ X.heap.size < Y.heap.size ∧ p < Y.heap.size := fun Y hY => ⟨by rw [hY.cell (p := ⟨X.heap.size, 0, none⟩) hxl4]; exact pv0, by rw [hY.cell (p := ⟨X.heap.size, 1, none⟩) hxl4]; exact pv1, by rw [hY.cell (p := ⟨p, 2, none⟩) hpl4]; exact c24, Nat.lt_of_lt_of_le hxl4 hY.size, Nat.lt_of_lt_of_le hpl4 hY.size⟩
      obtain ⟨pw0, pw1, c25, hxl5, hpl5⟩ := hcells _ HBY.out
      clear hcells pv0 pv1 c24
      generalize (w4.alloc (.cells #[.int .i64 rl.s, .int .i64 rl.g, .int .i64 rl.m, .int .i64 (rl.f 0), .int .i64 (rl.f 1), .int .i64 (rl.f 2), .int .i64 (rl.f 3), .int .i64 (rl.f 4), .int .i64 (rl.f 5), .int .i64 (rl.f 6), .int .i64 (rl.f 7)] 45)) = Y at *
      go_still_tail 7, (by kernel_rfl)
      change wpList _ _ _ _ _ Y.drew
      clear hy0 hy1 pw0 pw1 c25
      have hrlm : hd rl ∈ hk ∧ hd rl ≠ (a, b) := by
        obtain ⟨h1, h2⟩ := HWV.out.laid.back k HKK.out ((tr k).length - 1) (by have := HIL.out; omega)
        rw [HRL.out] at h1 h2
        refine ⟨h1, fun e => ?_⟩
        rw [e, HP.out] at h2
        have := congrArg Prod.snd h2
        have h3 := HLAST.out
        simp at this
        omega
      have HRLM := Lib.hid hrlm
      have HOKL : Hid (kHand.ok (rl.s, rl.g)) := Lib.hid (HWV.out.mapP.1.okAt hrlm.1)
      have HMAP5 : Hid (MapIs kHand Y.drew mp (hk.filter (fun y => !decide (y = (a, b)))).length (hk.filter (fun y => !decide (y = (a, b)))) (plV tb pl)) := Lib.hid (((HMAP3.out.later HB4.out).later HBY.out).kept (Kept.drew (fun _ => False) _) id)
      have HFL : Hid ((hk.filter (fun y => !decide (y = (a, b)))).length < maxLen) := Lib.hid (by have := List.length_filter_le (fun y => !decide (y = (a, b))) hk; have := HHL.out; unfold maxLen; omega)
      have HINF : Hid ((rl.s, rl.g) ∈ hk.filter (fun y => !decide (y = (a, b)))) := Lib.hid (List.mem_filter.2 ⟨HRLM.out.1, by rw [Bool.not_eq_true', decide_eq_false_iff_not]; exact HRLM.out.2⟩)
      clear hrlm
      go_wp2_with (first | (at_mapUpdate; refine wpList_put_in (K := kHand) _ rfl _ _ _ 63 rfl 97 Tryz.underlying63 rfl HMAP5.out HFL.out (rl.s, rl.g) HOKL.out (.agg #[.pointer (some ⟨q, 0, none⟩), .int .i64 i]) rfl rfl HINF.out ?_))
      intro w6 hmap6 hk6
      have HEND : Hid (RemWPost w p F l R a b (.returned (.tuple #[])) w6) := Lib.hid (by
        have hk26 : Kept (fun b => b = mp) w2 w6 := (HK23.out.trans (Kept.ofBelow (F := fun b => b = mp) HB4.out) (fun _ h => .inl h)).trans (((Kept.ofBelow (F := fun b => b = mp) HBY.out).trans (Kept.drew (fun b => b = mp) _) (fun _ h => .inl h)).trans hk6 (fun _ h => .inl h)) (fun _ h => .inl h)
        obtain ⟨F6, c6, hw6, hkk6, hmm6⟩ := HWV.out.delRow (pl' := fun y => if y = hd rl then (k, i) else pl y) HM.out HP.out (fun y _ => by simp only [HRL.out, HLAST.out, true_and]) (by rw [HQ.out]; exact HT2.out) HK2.out HM2.out hk26 (hmap6.tight.congr (fun y _ => by
          by_cases e : y = (rl.s, rl.g)
          · rw [if_pos e]; simp [plV, hd, e, ← HQ.out]
          · rw [if_neg e]; simp [plV, hd, e]))
        have hXs := HVX.out.size
        exact ⟨rfl, F6, ⟨c6, _, _, _, _, _, _, _, hw6⟩, (Kept.ofBelow HVX.out).trans hkk6 (fun _ h => .inl h), fun b hb => (hmm6 b hb).imp id (fun h => by omega)⟩)
      clear hmap6 hk6
      go_wp2
      go_end0
      exact HEND.out
    · as_aux_lemma =>
      obtain ⟨hl1, hl2⟩ := rowR_end hlast
      go_wp2_with fail
      refine (tabRow_any q F2 k _ i rowZ 5 _ HT3.out (HTOK.out.rm i) hl1 hl2).mono ?_
      rintro e w4 ⟨rfl, hb4⟩
      have HEND : Hid (∀ w6, Below w4.heap.size w4 w6 → RemWPost w p F l R a b (.returned (.tuple #[])) w6) := Lib.hid (fun w6 h6 => by
        obtain ⟨F6, c6, hw6, hkk6, hmm6⟩ := HWV.out.delRow (pl' := pl) HM.out HP.out (fun y _ => by rw [if_neg (fun e => hlast e.1)]) (by rw [HQ.out]; exact HT2.out) HK2.out HM2.out HK23.out HMAP3.out
        have hXs := HVX.out.size
        have hb36 : Below w3.heap.size w3 w6 := nb_trans hb4 h6
        exact ⟨rfl, F6, ⟨c6, _, _, _, _, _, _, _, hw6.later hb36⟩, ((Kept.ofBelow HVX.out).trans hkk6 (fun _ h => .inl h)).trans (Kept.ofBelow (F := F) hb36) (fun _ h => .inl h), fun b hb => (hmm6 b hb).imp id (fun h => by omega)⟩)
      clear hb4 hl1 hl2 hlast pv0 pv1
      go_wp2
      go_end0
      exact HEND.out _ (nb_alloc (Below.refl _ _) _)
end Go.Proofs.YtlclceiebnnpgaaGreat

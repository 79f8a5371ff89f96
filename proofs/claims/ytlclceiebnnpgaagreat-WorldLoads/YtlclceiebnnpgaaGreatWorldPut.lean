/- The contract of Put of package world. -/
import Derived.Test.YtlclceiebnnpgaaGreatWorldDrop
namespace Go.Proofs.YtlclceiebnnpgaaGreat
set_option maxRecDepth 8000
open Go.RowKit

theorem len_pred' {α : Type} {xs : List α} {i : Nat} (h : i < xs.length) : inB (i : Int) 0 (xs.length - 1) = true := by simp [inB]; omega
def PutPost (w : World) (p : Nat) (F : Nat → Prop) (l : List (Int × Bool)) (rows : List Rw) (a b k n : Int) (e : Ending) (w' : World) : Prop :=
  e = .returned (.int .i64 (putWE rows a b k n)) ∧ ∃ F', WldAt w' p F' l (· ∈ putWR rows a b k n) ∧ Kept F w w' ∧ Moves w F F'

set_option maxHeartbeats 4000000 in
theorem worldPut_any (p : Nat) (F : Nat → Prop) (l : List (Int × Bool)) (rows : List Rw) (a b k n : Int) (w : World) (h : WldAt w p F l (· ∈ rows)) (ok : WOk l rows) (ha : I64r a) (hb : I64r b) :
    Calls Tryz.prog 22 #[.pointer (some ⟨p, 0, none⟩), .agg #[.int .i64 a, .int .i64 b], .int .i64 k, .int .i64 n] w (PutPost w p F l rows a b k n) := by
  have H0 := Lib.hid h
  have HOK := Lib.hid ok
  have HAB : Hid (I64r a ∧ I64r b) := Lib.hid ⟨ha, hb⟩
  have HLT := Lib.hid h.lt
  have hX : Below w.heap.size w (w.alloc (.cells #[.int .i64 a, .int .i64 b] 28)) := nb_alloc (Below.refl _ _) _
  have hhb : (w.alloc (.cells #[.int .i64 a, .int .i64 b] 28)).heap[w.heap.size]? = some (.cells #[.int .i64 a, .int .i64 b] 28) := heap_alloc_new _ _
  have HW := Lib.hid (h.later hX)
  have HX := Lib.hid hX
  have HHB := Lib.hid hhb
  have hhl := (Array.getElem?_eq_some_iff.1 hhb).1
  clear h hX ok hhb
  go_enter Tryz.func22, Tryz.ntmps22
  go_wp2_with fail
  generalize (w.alloc (.cells #[.int .i64 a, .int .i64 b] 28)) = X at *
  refine (worldFind_any p F l rows a b k _ HW.out HAB.out.1 HAB.out.2).mono ?_
  rintro e w1 ⟨rfl, hb1⟩
  have HB1 := Lib.hid hb1
  have hXs := HX.out.size
  have hs1 := hb1.size
  have h1b : w1.heap[w.heap.size]? = some (.cells #[.int .i64 a, .int .i64 b] 28) := by rw [hb1.block _ hhl]; exact HHB.out
  have H1B := Lib.hid h1b
  have h1l := (Array.getElem?_eq_some_iff.1 h1b).1
  clear hb1 h1b
  obtain ⟨x, hx⟩ : ∃ x, findE rows a b k = x := ⟨_, rfl⟩
  by_cases h0 : x = 0
  · subst h0
    have hf := findE_zero hx
    obtain ⟨r, hr⟩ : ∃ r, getR rows a b = r := ⟨_, rfl⟩
    have hi : atN rows a b < rows.length := of_decide_eq_true hf.1
    have hrg : rows.getD (atN rows a b) rowZ = r := by rw [← hr, (getE_yes hf.1).2]
    obtain ⟨r1, r2⟩ := atN_is hi
    rw [hrg] at r1 r2
    have hrok := HOK.out.ok r (by rw [← hrg]; exact mem_getD hi)
    have hrm := (bErr_zero hrok).1
    obtain ⟨j, hj, rfl⟩ : ∃ j : Nat, j < 8 ∧ k = (j : Int) := by
      have := inB_t hf.2
      exact ⟨k.toNat, by omega, by omega⟩
    obtain ⟨s, hs⟩ : ∃ s : Int, 2 ^ j = s := ⟨_, rfl⟩
    have hs0 : 0 < s := by rw [← hs]; exact pow_pos2 j
    have hsr : findS rows a b j = s := by rw [findS, hx, if_pos rfl, Int.toNat_natCast, hs]
    have hrr : findR rows a b j = r := by rw [findR, hx, if_pos rfl, hr]
    rw [hsr, hrr, hx]
    have HX0 := Lib.hid hx
    have HS := Lib.hid hs
    have HRG := Lib.hid hrg
    have HRI := Lib.hid hi
    have HR12 : Hid (r.s = a ∧ r.g = b) := Lib.hid ⟨r1, r2⟩
    have HRM := Lib.hid hrm
    have HROK := Lib.hid hrok
    have HHAS := Lib.hid hf.1
    clear hf hr hi hrg r1 r2 hrok hsr hrr hx
    cases hn : inB n (-1000000000) 1000000000
    · have HEND : Hid (∀ w', Below w1.heap.size w1 w' → PutPost w p F l rows a b j n (.returned (.int .i64 1)) w') := Lib.hid (fun w' h' => by
        have hb' : Below w.heap.size w w' := nb_trans (nb_trans HX.out HB1.out) h'
        have he : putWE rows a b j n = 1 := by
          have h1 := findE_zero HX0.out
          rw [putWE, h1.1, h1.2, hn]; rfl
        refine ⟨by rw [he], F, ?_, Kept.ofBelow hb', Moves.refl _ _⟩
        rw [putWR, he]; exact H0.out.later hb')
      clear hrm
      rcases inB_f hn with b1 | b1
      all_goals
        clear hn
        go_wp2
        go_ret
        exact HEND.out _ (nb_alloc (Below.refl _ _) _)
    obtain ⟨b1, b2⟩ := inB_t hn
    have HE0 : Hid (putWE rows a b j n = 0) := Lib.hid (by
      have h1 := findE_zero HX0.out
      rw [putWE, h1.1, h1.2, hn]; rfl)
    have HN := Lib.hid hn
    clear hn
    cases ht : tb r.m j
    · have hand : bits .and .i64 r.m s = 0 := by rw [← HS.out, bit_and _ _ hrm.1 hrm.2 hj, ht]; rfl
      have hor : bits .or .i64 r.m s = r.m + s := by rw [← HS.out, bit_or _ _ hrm.1 hrm.2 hj ht]
      have HPK : Hid (putK r (j : Int).toNat n = ⟨a, b, r.m + s, upd r.f j n⟩) := Lib.hid (by rw [putK, Int.toNat_natCast, HS.out, HR12.out.1, HR12.out.2, ht]; rfl)
      have HBE : Hid (bErr (r.m + s) [(upd r.f j n) 0, (upd r.f j n) 1, (upd r.f j n) 2, (upd r.f j n) 3, (upd r.f j n) 4, (upd r.f j n) 5, (upd r.f j n) 6, (upd r.f j n) 7] = 0) := Lib.hid (by
        have := putK_ok (n := n) HROK.out hj HN.out
        rw [putK, ht] at this
        rw [← HS.out]; exact this)
      clear ht hrm
      have hold : (w1.alloc (.cells #[.int .i64 (r.m + s), .int .i64 (r.f 0), .int .i64 (r.f 1), .int .i64 (r.f 2), .int .i64 (r.f 3), .int .i64 (r.f 4), .int .i64 (r.f 5), .int .i64 (r.f 6), .int .i64 (r.f 7)] 26)).cell? ⟨w1.heap.size, 1 + j, none⟩ = some (.int .i64 (r.f j)) := by rw [cell_of_row _ _ _ _ _ _ (heap_alloc_new w1 _)]; exact vals_at (r.m + s) r.f j hj
      have fzo : (w1.alloc (.cells #[.int .i64 (r.m + s), .int .i64 (r.f 0), .int .i64 (r.f 1), .int .i64 (r.f 2), .int .i64 (r.f 3), .int .i64 (r.f 4), .int .i64 (r.f 5), .int .i64 (r.f 6), .int .i64 (r.f 7)] 26)).frozen? ⟨w1.heap.size, 1 + j, none⟩ = false := frozen_of_row _ _ _ _ _ (heap_alloc_new w1 _)
      have hls : ([.int .i64 (r.m + s), .int .i64 (r.f 0), .int .i64 (r.f 1), .int .i64 (r.f 2), .int .i64 (r.f 3), .int .i64 (r.f 4), .int .i64 (r.f 5), .int .i64 (r.f 6), .int .i64 (r.f 7)] : List Value).set (1 + j) (.int .i64 n) = [.int .i64 (r.m + s), .int .i64 ((upd r.f j n) 0), .int .i64 ((upd r.f j n) 1), .int .i64 ((upd r.f j n) 2), .int .i64 ((upd r.f j n) 3), .int .i64 ((upd r.f j n) 4), .int .i64 ((upd r.f j n) 5), .int .i64 ((upd r.f j n) 6), .int .i64 ((upd r.f j n) 7)] := by
        have := congrArg Array.toList (vals_set (r.m + s) r.f j n hj)
        simpa using this
      have kw0 : w1.cell? ⟨w.heap.size, 0, none⟩ = some (.int .i64 a) := by rw [cell_of_row _ _ _ _ _ _ H1B.out]; rfl
      have kw1 : w1.cell? ⟨w.heap.size, 1, none⟩ = some (.int .i64 b) := by rw [cell_of_row _ _ _ _ _ _ H1B.out]; rfl
      have HZW : Hid (Below w1.heap.size w1 (w1.alloc (.cells #[.int .i64 (r.m + s), .int .i64 ((upd r.f j n) 0), .int .i64 ((upd r.f j n) 1), .int .i64 ((upd r.f j n) 2), .int .i64 ((upd r.f j n) 3), .int .i64 ((upd r.f j n) 4), .int .i64 ((upd r.f j n) 5), .int .i64 ((upd r.f j n) 6), .int .i64 ((upd r.f j n) 7)] 26))) := Lib.hid (nb_alloc (Below.refl _ _) _)
      have hj0 : (0 : Int) ≤ (j : Int) := by omega
      have hj8 : (j : Int) < 8 := by omega
      go_wp2_with fail
      refine (worldMove_any p F l _ ⟨a, b, r.m + s, upd r.f j n⟩ _ (HW.out.later (nb_trans HB1.out HZW.out)) (mem_of_hasH HHAS.out) HBE.out HAB.out HOK.out.few).mono ?_
      rintro e w5 ⟨rfl, F5, h5, hk5, hm5⟩
      have HEND : Hid (PutPost w p F l rows a b j n (.returned (.int .i64 0)) w5) := Lib.hid (by
        have hbz : Below w.heap.size w (w1.alloc (.cells #[.int .i64 (r.m + s), .int .i64 ((upd r.f j n) 0), .int .i64 ((upd r.f j n) 1), .int .i64 ((upd r.f j n) 2), .int .i64 ((upd r.f j n) 3), .int .i64 ((upd r.f j n) 4), .int .i64 ((upd r.f j n) 5), .int .i64 ((upd r.f j n) 6), .int .i64 ((upd r.f j n) 7)] 26)) := nb_trans (nb_trans HX.out HB1.out) HZW.out
        have hsz := hbz.size
        refine ⟨by rw [HE0.out], F5, h5.congr (fun y => ?_), (Kept.ofBelow hbz).trans hk5 (fun _ h => .inl h), fun b hb => (hm5 b hb).imp id (fun h => by omega)⟩
        rw [putWR, if_pos HE0.out, mem_set_at HOK.out.up HRI.out, HRG.out, HPK.out]
        exact Iff.rfl)
      clear h5 hk5 hm5
      go_wp2
      go_ret
      exact HEND.out
    · have hand : bits .and .i64 r.m s = s := by rw [← HS.out, bit_and _ _ hrm.1 hrm.2 hj, ht]; rfl
      have hse : (s != 0) = true := by simp; omega
      have hw1 := HW.out.later HB1.out
      obtain ⟨c, tm, pm, ks, tb, tr, hk, pl, hwi⟩ := hw1
      have hm : (a, b) ∈ hk := of_decide_eq_true ((hwi.laid.hasH a b).trans HHAS.out)
      have hg := hwi.laid.get hm
      rw [HRG.out] at hg
      obtain ⟨hkk, hil, -⟩ := hwi.laid.at_ _ hm
      obtain ⟨kk, hkq⟩ : ∃ kk, (pl (a, b)).1 = kk := ⟨_, rfl⟩
      obtain ⟨i, hiq⟩ : ∃ i, (pl (a, b)).2 = i := ⟨_, rfl⟩
      obtain ⟨q, hqq⟩ : ∃ q, tb kk = q := ⟨_, rfl⟩
      rw [hkq] at hkk
      rw [hkq, hiq] at hg hil
      have HPL : Hid (pl (a, b) = (kk, i)) := Lib.hid (by rw [← hkq, ← hiq])
      have hi60 : i < 60 := Nat.lt_of_lt_of_le hil (Nat.le_trans (hwi.laid.trLen (fun _ h => h) hkk) HOK.out.len60)
      have hmk : r.m = kk := (hwi.laid.row kk hkk r (by rw [hg]; exact mem_getD hil)).1
      have hWX : Below w1.heap.size w1 (w1.alloc (.cells #[.int .i64 r.m, .int .i64 (r.f 0), .int .i64 (r.f 1), .int .i64 (r.f 2), .int .i64 (r.f 3), .int .i64 (r.f 4), .int .i64 (r.f 5), .int .i64 (r.f 6), .int .i64 (r.f 7)] 26)) := nb_alloc (Below.refl _ _) _
      have HWX := Lib.hid hWX
      have HWI := Lib.hid (hwi.later hWX)
      have hxh : (w1.alloc (.cells #[.int .i64 r.m, .int .i64 (r.f 0), .int .i64 (r.f 1), .int .i64 (r.f 2), .int .i64 (r.f 3), .int .i64 (r.f 4), .int .i64 (r.f 5), .int .i64 (r.f 6), .int .i64 (r.f 7)] 26)).heap[w.heap.size]? = some (.cells #[.int .i64 a, .int .i64 b] 28) := by rw [Below.heap_alloc _ _ _ h1l]; exact H1B.out
      have hxb : (w1.alloc (.cells #[.int .i64 r.m, .int .i64 (r.f 0), .int .i64 (r.f 1), .int .i64 (r.f 2), .int .i64 (r.f 3), .int .i64 (r.f 4), .int .i64 (r.f 5), .int .i64 (r.f 6), .int .i64 (r.f 7)] 26)).cell? ⟨w1.heap.size, 0, none⟩ = some (.int .i64 r.m) := by rw [cell_of_row _ _ _ _ _ _ (heap_alloc_new w1 _)]; rfl
      have HG := Lib.hid hg
      have HKK := Lib.hid hkk
      have HIL := Lib.hid hil
      have HQ := Lib.hid hqq
      have HMK := Lib.hid hmk
      have HT := Lib.hid ht
      have HMM := Lib.hid hm
      clear hwi hWX hg hkk hil hmk ht hrm
      go_wp2_with fail
      generalize (w1.alloc (.cells #[.int .i64 r.m, .int .i64 (r.f 0), .int .i64 (r.f 1), .int .i64 (r.f 2), .int .i64 (r.f 3), .int .i64 (r.f 4), .int .i64 (r.f 5), .int .i64 (r.f 6), .int .i64 (r.f 7)] 26)) = Z at *
      have c2 := HWI.out.cell2
      have hplz := HWI.out.plt
      have y0 : Z.cell? ⟨w.heap.size, 0, none⟩ = some (.int .i64 a) := by rw [cell_of_row _ _ _ _ _ _ hxh]; rfl
      have y1 : Z.cell? ⟨w.heap.size, 1, none⟩ = some (.int .i64 b) := by rw [cell_of_row _ _ _ _ _ _ hxh]; rfl
      have hlk : (Instr.lookup 63 pm (.agg #[.int .i64 a, .int .i64 b]) false).run Tryz.prog Z.drew = .ok (.agg #[.pointer (some ⟨q, 0, none⟩), .int .i64 i]) Z.drew := by
        have := (HWI.out.later (Below.refl _ _).drew).look1i a b ha hb hm
        rw [plV, hkq, hiq, hqq] at this; exact this
      have hlk1 : (Instr.lookup 63 pm (.agg #[.int .i64 a, .int .i64 b]) false).run Tryz.prog (Z.alloc (.cells #[.pointer none, .int .i64 0] 97)).drew = .ok (.agg #[.pointer (some ⟨q, 0, none⟩), .int .i64 i]) (Z.alloc (.cells #[.pointer none, .int .i64 0] 97)).drew := by
        have := (HWI.out.later (nb_alloc (Below.refl _ _) (.cells #[.pointer none, .int .i64 0] 97)).drew).look1i a b ha hb hm
        rw [plV, hkq, hiq, hqq] at this; exact this
      have hzl : w.heap.size < Z.heap.size := (Array.getElem?_eq_some_iff.1 hxh).1
      clear hm hkq hiq hqq hxh hxb
      go_region
      all_goals
        clear hlk hlk1 y0 y1 c2
        have HV : Hid (Below Z.heap.size Z (Z.alloc (.cells #[.pointer (some ⟨q, 0, none⟩), .int .i64 i] 97)).drew) := Lib.hid (nb_alloc (Below.refl _ _) _).drew
        go_wp2_with fail
        refine (tabSet_any q _ kk (tr kk) i j n _ (by have := (HWI.out.later HV.out).tabs kk HKK.out; rw [HQ.out] at this; exact this)).mono ?_
        rintro e w5 ⟨rfl, F5, ht5, hk5, hm5⟩
        have HEND : Hid (PutPost w p F l rows a b j n (.returned (.int .i64 (setE kk (tr kk) i j n))) w5) := Lib.hid (by
          have h1 := findE_zero HX0.out
          have hse : setE kk (tr kk) i j n = 0 := by
            have hi1 : inB (i : Int) 0 ((tr kk).length - 1) = true := len_pred' HIL.out
            have hc : colE kk j = 0 := by rw [colE, h1.2, Int.toNat_natCast, ← HMK.out, HT.out]; rfl
            rw [setE, hi1, hc, HN.out]; rfl
          have hsl : setL kk (tr kk) i j n = (tr kk).set i (putK r j n) := by
            rw [setL, hse, if_pos rfl, Int.toNat_natCast, Int.toNat_natCast, ← HG.out, putK, HT.out]; rfl
          rw [hsl] at ht5
          have hpm : (putK r j n).m = kk := by rw [putK, HT.out, ← HMK.out]; rfl
          obtain ⟨F6, c6, hw6, hkk6, hmm6⟩ := (HWI.out.later HV.out).setRow (r' := putK r j n) HMM.out HPL.out (by rw [hd, putK, HR12.out.1, HR12.out.2]) hpm (putK_ok HROK.out hj HN.out) (by rw [HQ.out]; exact ht5) hk5 hm5
          have hbz : Below w.heap.size w (Z.alloc (.cells #[.pointer (some ⟨q, 0, none⟩), .int .i64 i] 97)).drew := nb_trans (nb_trans (nb_trans HX.out HB1.out) HWX.out) HV.out
          have hsz := hbz.size
          refine ⟨by rw [hse, HE0.out], F6, WldAt.congr ⟨c6, _, _, _, _, _, _, _, hw6⟩ (fun y => ?_), (Kept.ofBelow hbz).trans hkk6 (fun _ h => .inl h), fun b hb => (hmm6 b hb).imp id (fun h => by omega)⟩
          rw [putWR, if_pos HE0.out, mem_set_at HOK.out.up HRI.out, HRG.out, Int.toNat_natCast])
        clear ht5 hk5 hm5
        go_wp2
        go_ret
        exact HEND.out
  · have hs : findS rows a b k = 0 := by rw [findS, hx, if_neg h0]
    have hr : findR rows a b k = rowZ := by rw [findR, hx, if_neg h0]
    rw [hs, hr, hx]
    have HEND : Hid (∀ w', Below w1.heap.size w1 w' → PutPost w p F l rows a b k n (.returned (.int .i64 x)) w') := Lib.hid (fun w' h' => by
      have hb' : Below w.heap.size w w' := nb_trans (nb_trans HX.out HB1.out) h'
      have he : putWE rows a b k n = x := (by
        unfold findE at hx
        unfold putWE
        cases h1 : hasH rows a b
        · rw [h1] at hx; exact hx
        · rw [h1, if_pos rfl] at hx
          cases h2 : inB k 0 7
          · rw [h2] at hx; rw [if_pos rfl]; exact hx
          · rw [h2] at hx; simp at hx; exact absurd hx.symm h0)
      refine ⟨by rw [he], F, ?_, Kept.ofBelow hb', Moves.refl _ _⟩
      rw [putWR, he, if_neg h0]; exact H0.out.later hb')
    have hne : (x != 0) = true := by simpa using h0
    clear h0 hx hs hr
    go_wp2
    go_ret
    exact HEND.out _ (nb_alloc (Below.refl _ _) _)
end Go.Proofs.YtlclceiebnnpgaaGreat

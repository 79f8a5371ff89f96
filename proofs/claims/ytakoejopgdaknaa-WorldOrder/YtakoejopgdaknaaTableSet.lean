/- The contracts of Set, Column and Handles of package table. -/
import Derived.Test.YtakoejopgdaknaaTableRemove
namespace Go.Proofs.Ytakoejopgdaknaa
set_option maxRecDepth 8000
open Go.RowKit

def SetPost (w : World) (p : Nat) (F : Nat → Prop) (m : Int) (rows : List Rw) (i k n : Int) (e : Ending) (w' : World) : Prop :=
  e = .returned (.int .i64 (setE m rows i k n)) ∧ ∃ F', TableAt w' p F' m (setL m rows i k n) ∧ Kept F w w' ∧ Moves w F F'
theorem SetPost.no {w : World} {p : Nat} {F : Nat → Prop} {m : Int} {rows : List Rw} {i k n x : Int} (h : TableAt w p F m rows) (hx : setE m rows i k n = x) (h0 : x ≠ 0) : SetPost w p F m rows i k n (.returned (.int .i64 x)) w := by
  subst hx
  refine ⟨rfl, F, ?_, Kept.refl _ _, Moves.refl _ _⟩
  rw [setL, if_neg h0]; exact h
theorem hsOf_put (rows : List Rw) (i k : Nat) (n : Int) : hsOf (rows.set i (putV (rows.getD i rowZ) k n)) = hsOf rows := by
  unfold hsOf
  rw [List.map_set]
  apply List.ext_getElem?
  intro j
  by_cases e : i = j
  · subst e
    by_cases hi : i < rows.length
    · rw [List.getElem?_set_self (by simpa using hi)]
      simp [putV, List.getElem?_eq_getElem hi, List.getD_eq_getElem?_getD]
    · rw [List.getElem?_eq_none (by simp; omega), List.getElem?_eq_none (by simp; omega)]
  · rw [List.getElem?_set_ne e]
theorem colOf_put (rows : List Rw) (i k j : Nat) (n : Int) : colOf (rows.set i (putV (rows.getD i rowZ) k n)) j = if j = k then (colOf rows j).set i n else colOf rows j := by
  unfold colOf
  rw [List.map_set]
  by_cases e : j = k
  · subst e; rw [if_pos rfl]; simp [putV]
  · rw [if_neg e]
    apply List.ext_getElem?
    intro q
    by_cases e2 : i = q
    · subst e2
      by_cases hi : i < rows.length
      · rw [List.getElem?_set_self (by simpa using hi)]
        simp [putV, List.getElem?_eq_getElem hi, List.getD_eq_getElem?_getD, e]
      · rw [List.getElem?_eq_none (by simp; omega), List.getElem?_eq_none (by simp; omega)]
    · rw [List.getElem?_set_ne e2]

set_option maxHeartbeats 1000000 in
theorem tabSet_any (p : Nat) (F : Nat → Prop) (m : Int) (rows : List Rw) (i k n : Int) (w : World) (h : TableAt w p F m rows) :
    Calls Try.prog 51 #[.pointer (some ⟨p, 0, none⟩), .int .i64 i, .int .i64 k, .int .i64 n] w (SetPost w p F m rows i k n) := by
  have HT := Lib.hid h
  cases hi : inB i 0 (rows.length - 1)
  · have HP := Lib.hid (SetPost.no (i := i) (k := k) (n := n) h (by rw [setE, hi]; rfl) (show (5 : Int) ≠ 0 by decide))
    have HI := Lib.hid hi
    clear h hi
    go_enter Try.func51, Try.ntmps51
    go_wp2_with fail
    refine (hasRow_any p F m rows i _ HT.out).mono ?_
    rintro e w' ⟨rfl, rfl⟩
    rw [HI.out]
    go_wp2
    go_ret
    exact HP.out
  · by_cases hk : colE m k = 0
    · cases hn : inB n (-1000000000) 1000000000
      · have HP := Lib.hid (SetPost.no (i := i) (k := k) (n := n) h (by rw [setE, hi, if_pos rfl, if_pos hk, hn]; rfl) (show (1 : Int) ≠ 0 by decide))
        have HI := Lib.hid hi
        have HK := Lib.hid hk
        obtain ⟨v, mb, nn, cb, c, h⟩ := h
        have HTI := Lib.hid h
        clear h hi hk
        rcases inB_f hn with b1 | b1
        all_goals
          clear hn
          go_enter Try.func51, Try.ntmps51
          go_wp2_with fail
          refine (hasRow_any p F m rows i _ HT.out).mono ?_
          rintro e w' ⟨rfl, rfl⟩
          rw [HI.out]
          go_wp2_with fail
          refine (column_any k _ HTI.out).mono ?_
          rintro e w' ⟨rfl, rfl⟩
          rw [HK.out, if_pos rfl]
          simp only [ptrOf]
          go_wp2
          go_ret
          exact HP.out
      · have HI := Lib.hid hi
        have HK := Lib.hid hk
        obtain ⟨v, mb, nn, cb, c, h⟩ := h
        have HTI := Lib.hid h
        obtain ⟨b1, b2⟩ := inB_t hn
        obtain ⟨i1, i2⟩ := inB_t hi
        obtain ⟨a, rfl⟩ := Int.eq_ofNat_of_zero_le i1
        have ha : a < rows.length := by omega
        have hkk : inB k 0 7 = true ∧ tb m k.toNat = true := by
          unfold colE at hk
          cases h1 : inB k 0 7 <;> cases h2 : tb m k.toNat <;> simp [h1, h2] at hk ⊢
        obtain ⟨k1, k2⟩ := inB_t hkk.1
        obtain ⟨j, rfl⟩ := Int.eq_ofNat_of_zero_le k1
        rw [Int.toNat_natCast] at hkk
        have hjm : (j : Int) ∈ kinds m := (kinds_iff (by omega)).2 hkk.2
        obtain ⟨u, hc, hu⟩ := h.colIs hjm
        have cc := hc.cell
        have hcb := hc.lt
        rw [Int.toNat_natCast] at hc
        obtain ⟨gg, cap, rfl, hgl, hlc, hcm, hcc⟩ := hc.own.at1 rfl (by rw [colOf_len]; omega)
        obtain ⟨cv, fz⟩ := hcc a (by rw [colOf_len]; exact ha)
        replace cv : w.cell? ⟨gg, a, none⟩ = some (.int .i64 ((colOf rows j).getD a 0)) := cv
        have hks : Kept (fun q => q = gg) w (w.setCell ⟨gg, a, none⟩ (.int .i64 n)) := Kept.setCell (F := fun q => q = gg) _ (p := ⟨gg, a, none⟩) rfl _
        have hpost := col_store hc hks (hc.own.stored1 rfl a n (.int .i64 n) (by rw [colOf_len]; exact ha) rfl)
        obtain ⟨hT', hK'⟩ := h.cstep hjm hu hpost
        have hE : setE m rows a j n = 0 := by rw [setE, hi, if_pos rfl, if_pos hk, hn]; rfl
        have hcg : ∀ q ∈ kinds m, (if q = (j : Int) then (colOf rows j).set a n else colOf rows q.toNat) = colOf (rows.set a (putV (rows.getD a rowZ) j n)) q.toNat := fun q hq => by
          have hq0 := kinds_ge hq
          obtain ⟨q, rfl⟩ := Int.eq_ofNat_of_zero_le hq0.1
          rw [Int.toNat_natCast, colOf_put]
          by_cases e : q = j
          · subst e; rw [if_pos rfl, if_pos rfl]
          · rw [if_neg e, if_neg (by omega)]
        have HEND : Hid (SetPost w p F m rows a j n (.returned (.int .i64 0)) (w.setCell ⟨gg, a, none⟩ (.int .i64 n))) := Lib.hid (by
          refine ⟨by rw [hE], growF F w (w.setCell ⟨gg, a, none⟩ (.int .i64 n)), ⟨v, mb, nn, cb, growC c w j, ?_⟩, hK', growF_moves _ _ _⟩
          rw [setL, if_pos hE, Int.toNat_natCast, Int.toNat_natCast, hsOf_put]
          exact hT'.congr hcg)
        rw [colOf_len] at cc hlc
        clear h hi hk hn hc hcc hks hpost hT' hK' hu hjm hkk hE hcg
        unfold maxLen at hcm
        generalize (colOf rows j).getD a 0 = old at *
        go_enter Try.func51, Try.ntmps51
        go_wp2_with fail
        refine (hasRow_any p F m rows a _ HT.out).mono ?_
        rintro e w' ⟨rfl, rfl⟩
        rw [HI.out]
        go_wp2_with fail
        refine (column_any j _ HTI.out).mono ?_
        rintro e w' ⟨rfl, rfl⟩
        rw [HK.out, if_pos rfl]
        simp only [ptrOf]
        go_wp2
        go_ret
        exact HEND.out
    · have HP := Lib.hid (SetPost.no (i := i) (k := k) (n := n) h (by rw [setE, hi, if_pos rfl, if_neg hk]) hk)
      have HI := Lib.hid hi
      have hne : (colE m k != 0) = true := by simpa using hk
      obtain ⟨v, mb, nn, cb, c, h⟩ := h
      have HTI := Lib.hid h
      have HK := Lib.hid hk
      clear h hi hk
      go_enter Try.func51, Try.ntmps51
      go_wp2_with fail
      refine (hasRow_any p F m rows i _ HT.out).mono ?_
      rintro e w' ⟨rfl, rfl⟩
      rw [HI.out]
      go_wp2_with fail
      refine (column_any k _ HTI.out).mono ?_
      rintro e w' ⟨rfl, rfl⟩
      rw [if_neg HK.out]
      go_wp2
      go_ret
      exact HP.out

set_option maxHeartbeats 1000000 in
theorem tabHandles_any (p : Nat) (F : Nat → Prop) (m : Int) (rows : List Rw) (w : World) (h : TableAt w p F m rows) (hl : rows.length * 16 ≤ 140737488355328) :
    Calls Try.prog 69 #[.pointer (some ⟨p, 0, none⟩)] w fun e w' => ∃ v, e = .returned v ∧ OwnsF elHand w' w.heap.size 38 v (hsOf rows) ∧ Below w.heap.size w w' := by
  obtain ⟨v, mb, nn, cb, c, h⟩ := h
  have HC := Lib.hid h.hcol
  have hpl := h.hcol.lt
  clear h
  go_enter Try.func69, Try.ntmps69
  go_wp2_with fail
  refine (hcolList_any 1 _ HC.out (by rw [hsOf_len]; exact hl)).mono ?_
  rintro e w1 ⟨v1, rfl, ho, hb⟩
  have HO := Lib.hid ho
  have HB := Lib.hid hb
  clear ho hb
  go_wp2
  go_ret
  exact ⟨_, rfl, HO.out, HB.out⟩
end Go.Proofs.Ytakoejopgdaknaa

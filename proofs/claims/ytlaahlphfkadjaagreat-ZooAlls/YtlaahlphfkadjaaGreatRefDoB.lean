
/- Do of the reference's zoo: what acts on bonds, and Kill. -/
import Derived.Test.YtlaahlphfkadjaaGreatRefDoA
namespace Go.Proofs.YtlaahlphfkadjaaGreat
set_option maxRecDepth 8000
set_option maxRecDepth 8000
open Go.RowKit
set_option maxHeartbeats 4000000 in
theorem refDo_5 (q : Nat) (G : Nat → Prop) (s : Zs) (o : Opm) (w : World) (h : ZfAt w q G s) (ok : ZOk s) (h1 : ¬ o.d = 1) (h2 : ¬ o.d = 2) (h3 : ¬ o.d = 3) (h4 : ¬ o.d = 4) (h5 : o.d = 5) :
    Calls Tryz.prog 20 #[.pointer (some ⟨q, 0, none⟩), .agg #[.int .i64 o.d, .int .i64 o.m, .int .i64 (o.f 0), .int .i64 (o.f 1), .int .i64 (o.f 2), .int .i64 (o.f 3), .int .i64 (o.f 4), .int .i64 (o.f 5), .int .i64 (o.f 6), .int .i64 (o.f 7), .int .i64 o.a, .int .i64 o.b, .int .i64 o.ta, .int .i64 o.tb, .int .i64 o.k, .int .i64 o.n]] w (ZfPost w q G (.tuple #[.agg #[.int .i64 (doH s o).1, .int .i64 (doH s o).2], .int .i64 (doE s o)]) (doZ s o)) := by
  have HE : Hid (doE s o = (if liveH s.l (o.a, o.b) && liveH s.l (o.ta, o.tb) then adoptE s.bs (o.a, o.b) (o.ta, o.tb) else 7) ∧ doH s o = (0, 0) ∧ doZ s o = (if liveH s.l (o.a, o.b) && liveH s.l (o.ta, o.tb) then ⟨s.l, s.rows, adoptB s.bs (o.a, o.b) (o.ta, o.tb)⟩ else s)) := Lib.hid ⟨by rw [doE, if_neg h1, if_neg h2, if_neg h3, if_neg h4, if_pos h5], by rw [doH, if_neg h1], by rw [doZ, if_neg h1, if_neg h2, if_neg h3, if_neg h4, if_pos h5]⟩
  have hd1 : (o.d == 1) = false := by simpa using h1
  have hd2 : (o.d == 2) = false := by simpa using h2
  have hd3 : (o.d == 3) = false := by simpa using h3
  have hd4 : (o.d == 4) = false := by simpa using h4
  have hd5 : (o.d == 5) = true := by simpa using h5
  have hd6 : (o.d == 6) = false := by rw [h5]; rfl
  clear h1 h2 h3 h4 h5
  obtain ⟨X, HXE, hX, hxa, hxb, hxc⟩ := rdoStart w o
  have HX := Lib.hid hX
  have HZ : Hid (ZfAt X q G s) := Lib.hid (h.later hX)
  have HXB := Lib.hid hxb
  have HOK := Lib.hid ok
  have HLT := Lib.hid h.lt
  have HZB := Lib.hid (rdoKept h.lt hxa hxb hxc)
  have hplw := h.lt q h.at_
  obtain ⟨c0, c1, c2, c3, c4, c5, c6, c7, c8, c9, c10, c11, c12, c13, c14, c15⟩ := opCells hxa
  have n0 : X.cell? ⟨w.heap.size + 1 + 1, 0, none⟩ = some (.int .i64 0) := by rw [cell_of_row _ _ _ _ _ _ hxc]; rfl
  have n1 : X.cell? ⟨w.heap.size + 1 + 1, 1, none⟩ = some (.int .i64 0) := by rw [cell_of_row _ _ _ _ _ _ hxc]; rfl
  have hla := (Array.getElem?_eq_some_iff.1 hxa).1
  have hlb := (Array.getElem?_eq_some_iff.1 hxb).1
  have hlc := (Array.getElem?_eq_some_iff.1 hxc).1
  have hpl : q < X.heap.size := Nat.lt_of_lt_of_le hplw hX.size
  clear hxa hxb hxc h ok hX
  go_enter Tryz.func20, Tryz.ntmps20
  go_wp2_with fail
  rw [HXE.out]
  go_wp2_with fail
  refine (zfAtI q G s o.a o.b _ (HZ.out)).mono ?_
  rintro e x1 ⟨rfl, hx⟩
  obtain ⟨i1, hi1⟩ : ∃ i, atI s.rows o.a o.b = i := ⟨_, rfl⟩
  rw [hi1]
  have HX1 : Hid (Below X.heap.size X x1) := Lib.hid (hx)
  clear hx
  clear c0 c1 c2 c3 c4 c5 c6 c7 c8 c9 c10 c11 c12 c13 c14 c15 n0 n1 hla hlc
  have hqa := (HZB.out x1 (Kept.ofBelow HX1.out)).1
  obtain ⟨c0, -, -, -, -, -, -, -, -, -, c10, c11, c12, c13, c14, c15⟩ := opCells hqa
  have hqn := (HZB.out x1 (Kept.ofBelow HX1.out)).2.2
  have n0 : x1.cell? ⟨w.heap.size + 1 + 1, 0, none⟩ = some (.int .i64 0) := (cell_of_row _ _ _ _ _ _ hqn).trans rfl
  have n1 : x1.cell? ⟨w.heap.size + 1 + 1, 1, none⟩ = some (.int .i64 0) := (cell_of_row _ _ _ _ _ _ hqn).trans rfl
  have hla := (Array.getElem?_eq_some_iff.1 hqa).1
  have hlc := (Array.getElem?_eq_some_iff.1 hqn).1
  have hqz := (HZB.out x1 (Kept.ofBelow HX1.out)).2.1
  have z0 : x1.cell? ⟨w.heap.size + 1, 0, none⟩ = some (.int .i64 0) := (cell_of_row _ _ _ _ _ _ hqz).trans rfl
  have z1 : x1.cell? ⟨w.heap.size + 1, 1, none⟩ = some (.int .i64 0) := (cell_of_row _ _ _ _ _ _ hqz).trans rfl
  have fz : ∀ j, x1.frozen? ⟨w.heap.size + 1, j, none⟩ = false := fun j => frozen_of_row _ _ _ _ _ hqz
  have hlz := (Array.getElem?_eq_some_iff.1 hqz).1
  clear hqa hqn hqz
  cases hl1 : liveH s.l (o.a, o.b)
  · as_aux_lemma =>
    obtain rfl : i1 = -1 := by rw [← hi1]; exact atI_dead HOK.out hl1
    clear hi1
    have HEE : Hid (doE s o = 7 ∧ doZ s o = s) := Lib.hid ⟨by rw [HE.out.1]; simp [hl1], by rw [HE.out.2.2]; simp [hl1]⟩
    go_wp2
    rw [HEE.out.1, HE.out.2.1, HEE.out.2]
    refine bodyPost_ret (v := .tuple #[.agg #[.int .i64 0, .int .i64 0], .int .i64 7]) (by simp [results, Tryz.results20, go_sem, z0, z1]) rfl (ZfPost.fin (B := w.heap.size + 1) (ZfPost.same (x := .int .i64 0) HZ.out HX1.out) HX.out (by first | exact Kept.refl _ _ | exact rkept2 _ _ _ _) (by omega) hlb HLT.out)

  · have h10 : (0 : Int) ≤ i1 := by rw [← hi1]; exact atI_live HOK.out hl1
    have h11 : decide (i1 < 0) = false := by rw [decide_eq_false_iff_not]; omega
    clear hi1
    go_wp2_with fail
    refine (zfAtI q G s o.ta o.tb _ (HZ.out.later HX1.out)).mono ?_
    rintro e x2 ⟨rfl, hx⟩
    obtain ⟨i2, hi2⟩ : ∃ i, atI s.rows o.ta o.tb = i := ⟨_, rfl⟩
    rw [hi2]
    have HX2 : Hid (Below X.heap.size X x2) := Lib.hid (nb_trans HX1.out hx)
    clear hx
    clear c0 c10 c11 c12 c13 c14 c15 n0 n1 hla hlc z0 z1 fz hlz
    have hqa := (HZB.out x2 (Kept.ofBelow HX2.out)).1
    obtain ⟨c0, -, -, -, -, -, -, -, -, -, c10, c11, c12, c13, c14, c15⟩ := opCells hqa
    have hqn := (HZB.out x2 (Kept.ofBelow HX2.out)).2.2
    have n0 : x2.cell? ⟨w.heap.size + 1 + 1, 0, none⟩ = some (.int .i64 0) := (cell_of_row _ _ _ _ _ _ hqn).trans rfl
    have n1 : x2.cell? ⟨w.heap.size + 1 + 1, 1, none⟩ = some (.int .i64 0) := (cell_of_row _ _ _ _ _ _ hqn).trans rfl
    have hla := (Array.getElem?_eq_some_iff.1 hqa).1
    have hlc := (Array.getElem?_eq_some_iff.1 hqn).1
    have hqz := (HZB.out x2 (Kept.ofBelow HX2.out)).2.1
    have z0 : x2.cell? ⟨w.heap.size + 1, 0, none⟩ = some (.int .i64 0) := (cell_of_row _ _ _ _ _ _ hqz).trans rfl
    have z1 : x2.cell? ⟨w.heap.size + 1, 1, none⟩ = some (.int .i64 0) := (cell_of_row _ _ _ _ _ _ hqz).trans rfl
    have fz : ∀ j, x2.frozen? ⟨w.heap.size + 1, j, none⟩ = false := fun j => frozen_of_row _ _ _ _ _ hqz
    have hlz := (Array.getElem?_eq_some_iff.1 hqz).1
    clear hqa hqn hqz
    cases hl2 : liveH s.l (o.ta, o.tb)
    · as_aux_lemma =>
      obtain rfl : i2 = -1 := by rw [← hi2]; exact atI_dead HOK.out hl2
      clear hi2
      have HEE : Hid (doE s o = 7 ∧ doZ s o = s) := Lib.hid ⟨by rw [HE.out.1]; simp [hl1, hl2], by rw [HE.out.2.2]; simp [hl1, hl2]⟩
      go_wp2
      rw [HEE.out.1, HE.out.2.1, HEE.out.2]
      refine bodyPost_ret (v := .tuple #[.agg #[.int .i64 0, .int .i64 0], .int .i64 7]) (by simp [results, Tryz.results20, go_sem, z0, z1]) rfl (ZfPost.fin (B := w.heap.size + 1) (ZfPost.same (x := .int .i64 0) HZ.out HX2.out) HX.out (by first | exact Kept.refl _ _ | exact rkept2 _ _ _ _) (by omega) hlb HLT.out)

    · have h20 : (0 : Int) ≤ i2 := by rw [← hi2]; exact atI_live HOK.out hl2
      have h21 : decide (i2 < 0) = false := by rw [decide_eq_false_iff_not]; omega
      clear hi2
      have HEE : Hid (doE s o = adoptE s.bs (o.a, o.b) (o.ta, o.tb) ∧ doZ s o = ⟨s.l, s.rows, adoptB s.bs (o.a, o.b) (o.ta, o.tb)⟩) := Lib.hid ⟨by rw [HE.out.1]; simp [hl1, hl2], by rw [HE.out.2.2]; simp [hl1, hl2]⟩
      go_wp2_with fail
      clear c0 c14 c15
      have HC0 : Hid (x2.cell? ⟨w.heap.size + 1 + 1, 0, none⟩ = some (.int .i64 0) ∧ x2.cell? ⟨w.heap.size + 1 + 1, 1, none⟩ = some (.int .i64 0) ∧ x2.cell? ⟨w.heap.size, 10, none⟩ = some (.int .i64 o.a) ∧ x2.cell? ⟨w.heap.size, 11, none⟩ = some (.int .i64 o.b) ∧ x2.cell? ⟨w.heap.size, 12, none⟩ = some (.int .i64 o.ta) ∧ x2.cell? ⟨w.heap.size, 13, none⟩ = some (.int .i64 o.tb)) := Lib.hid ⟨n0, n1, c10, c11, c12, c13⟩
      have HNF : Hid (∀ b, w.heap.size ≤ b → ¬ G b) := Lib.hid (fun b hb e => by have := HLT.out _ e; omega)
      clear z0 z1 fz hlz
      go_region_held3 (fun x => (x.cell? ⟨w.heap.size + 1 + 1, 0, none⟩ = some (.int .i64 0) ∧ x.cell? ⟨w.heap.size + 1 + 1, 1, none⟩ = some (.int .i64 0) ∧ x.cell? ⟨w.heap.size, 10, none⟩ = some (.int .i64 o.a) ∧ x.cell? ⟨w.heap.size, 11, none⟩ = some (.int .i64 o.b) ∧ x.cell? ⟨w.heap.size, 12, none⟩ = some (.int .i64 o.ta) ∧ x.cell? ⟨w.heap.size, 13, none⟩ = some (.int .i64 o.tb))) (first | go_keep | exact HKA.out) (first
        | ((go_at_call 44; refine (zfAdopt q G s o.a o.b o.ta o.tb _ (HZ.out.later HX2.out.drew) HOK.out).mono ?_; rintro e y1 hp; have hkx0 : Kept G x2.drew y1 := hp.2.choose_spec.2.1; have hkx : Kept G X y1 := ((Kept.ofBelow HX2.out).trans (Kept.drew G x2) (fun _ h => .inl h)).trans hkx0 (fun _ h => .inl h); have HKA : Hid (y1.cell? ⟨w.heap.size + 1 + 1, 0, none⟩ = some (.int .i64 0) ∧ y1.cell? ⟨w.heap.size + 1 + 1, 1, none⟩ = some (.int .i64 0) ∧ y1.cell? ⟨w.heap.size, 10, none⟩ = some (.int .i64 o.a) ∧ y1.cell? ⟨w.heap.size, 11, none⟩ = some (.int .i64 o.b) ∧ y1.cell? ⟨w.heap.size, 12, none⟩ = some (.int .i64 o.ta) ∧ y1.cell? ⟨w.heap.size, 13, none⟩ = some (.int .i64 o.tb)) := Lib.hid ⟨hkx0.cellS HC0.out.1 (HNF.out (w.heap.size + 1 + 1) (by omega)), hkx0.cellS HC0.out.2.1 (HNF.out (w.heap.size + 1 + 1) (by omega)), hkx0.cellS HC0.out.2.2.1 (HNF.out (w.heap.size) (by omega)), hkx0.cellS HC0.out.2.2.2.1 (HNF.out (w.heap.size) (by omega)), hkx0.cellS HC0.out.2.2.2.2.1 (HNF.out (w.heap.size) (by omega)), hkx0.cellS HC0.out.2.2.2.2.2 (HNF.out (w.heap.size) (by omega))⟩; have hq := (HZB.out y1 hkx).2.1; have z0 : y1.cell? ⟨w.heap.size + 1, 0, none⟩ = some (.int .i64 0) := (cell_of_row _ _ _ _ _ _ hq).trans rfl; have z1 : y1.cell? ⟨w.heap.size + 1, 1, none⟩ = some (.int .i64 0) := (cell_of_row _ _ _ _ _ _ hq).trans rfl; have fz : ∀ j, y1.frozen? ⟨w.heap.size + 1, j, none⟩ = false := fun j => frozen_of_row _ _ _ _ _ hq; have hl2 := (Array.getElem?_eq_some_iff.1 hq).1; have HP := Lib.hid hp; obtain ⟨rfl, -⟩ := hp; clear hq hkx hkx0)) | fail "none")
      go_wp2
      rw [HEE.out.1, HE.out.2.1, HEE.out.2]
      refine bodyPost_ret (v := .tuple #[.agg #[.int .i64 0, .int .i64 0], .int .i64 (adoptE s.bs (o.a, o.b) (o.ta, o.tb))]) (by simp [results, Tryz.results20, go_sem, z0, z1]) rfl (HP.out.fin (B := w.heap.size + 1) (nb_trans HX.out HX2.out.drew) (by first | exact Kept.refl _ _ | exact rkept2 _ _ _ _) (by omega) (Nat.lt_of_lt_of_le hlb HX2.out.size) HLT.out)

set_option maxHeartbeats 4000000 in
theorem refDo_6 (q : Nat) (G : Nat → Prop) (s : Zs) (o : Opm) (w : World) (h : ZfAt w q G s) (ok : ZOk s) (h1 : ¬ o.d = 1) (h2 : ¬ o.d = 2) (h3 : ¬ o.d = 3) (h4 : ¬ o.d = 4) (h5 : ¬ o.d = 5) (h6 : o.d = 6) :
    Calls Tryz.prog 20 #[.pointer (some ⟨q, 0, none⟩), .agg #[.int .i64 o.d, .int .i64 o.m, .int .i64 (o.f 0), .int .i64 (o.f 1), .int .i64 (o.f 2), .int .i64 (o.f 3), .int .i64 (o.f 4), .int .i64 (o.f 5), .int .i64 (o.f 6), .int .i64 (o.f 7), .int .i64 o.a, .int .i64 o.b, .int .i64 o.ta, .int .i64 o.tb, .int .i64 o.k, .int .i64 o.n]] w (ZfPost w q G (.tuple #[.agg #[.int .i64 (doH s o).1, .int .i64 (doH s o).2], .int .i64 (doE s o)]) (doZ s o)) := by
  have HE : Hid (doE s o = (if liveH s.l (o.a, o.b) then looseE s.bs (o.a, o.b) else 7) ∧ doH s o = (0, 0) ∧ doZ s o = (if liveH s.l (o.a, o.b) then ⟨s.l, s.rows, rmB s.bs (o.a, o.b)⟩ else s)) := Lib.hid ⟨by rw [doE, if_neg h1, if_neg h2, if_neg h3, if_neg h4, if_neg h5, if_pos h6], by rw [doH, if_neg h1], by rw [doZ, if_neg h1, if_neg h2, if_neg h3, if_neg h4, if_neg h5, if_pos h6]⟩
  have hd1 : (o.d == 1) = false := by simpa using h1
  have hd2 : (o.d == 2) = false := by simpa using h2
  have hd3 : (o.d == 3) = false := by simpa using h3
  have hd4 : (o.d == 4) = false := by simpa using h4
  have hd5 : (o.d == 5) = false := by simpa using h5
  have hd6 : (o.d == 6) = true := by simpa using h6
  clear h1 h2 h3 h4 h5 h6
  obtain ⟨X, HXE, hX, hxa, hxb, hxc⟩ := rdoStart w o
  have HX := Lib.hid hX
  have HZ : Hid (ZfAt X q G s) := Lib.hid (h.later hX)
  have HXB := Lib.hid hxb
  have HOK := Lib.hid ok
  have HLT := Lib.hid h.lt
  have HZB := Lib.hid (rdoKept h.lt hxa hxb hxc)
  have hplw := h.lt q h.at_
  obtain ⟨c0, c1, c2, c3, c4, c5, c6, c7, c8, c9, c10, c11, c12, c13, c14, c15⟩ := opCells hxa
  have n0 : X.cell? ⟨w.heap.size + 1 + 1, 0, none⟩ = some (.int .i64 0) := by rw [cell_of_row _ _ _ _ _ _ hxc]; rfl
  have n1 : X.cell? ⟨w.heap.size + 1 + 1, 1, none⟩ = some (.int .i64 0) := by rw [cell_of_row _ _ _ _ _ _ hxc]; rfl
  have hla := (Array.getElem?_eq_some_iff.1 hxa).1
  have hlb := (Array.getElem?_eq_some_iff.1 hxb).1
  have hlc := (Array.getElem?_eq_some_iff.1 hxc).1
  have hpl : q < X.heap.size := Nat.lt_of_lt_of_le hplw hX.size
  clear hxa hxb hxc h ok hX
  go_enter Tryz.func20, Tryz.ntmps20
  go_wp2_with fail
  rw [HXE.out]
  go_wp2_with fail
  refine (zfAtI q G s o.a o.b _ (HZ.out)).mono ?_
  rintro e x1 ⟨rfl, hx⟩
  obtain ⟨i1, hi1⟩ : ∃ i, atI s.rows o.a o.b = i := ⟨_, rfl⟩
  rw [hi1]
  have HX1 : Hid (Below X.heap.size X x1) := Lib.hid (hx)
  clear hx
  clear c0 c1 c2 c3 c4 c5 c6 c7 c8 c9 c10 c11 c12 c13 c14 c15 n0 n1 hla hlc
  have hqa := (HZB.out x1 (Kept.ofBelow HX1.out)).1
  obtain ⟨c0, -, -, -, -, -, -, -, -, -, c10, c11, c12, c13, c14, c15⟩ := opCells hqa
  have hqn := (HZB.out x1 (Kept.ofBelow HX1.out)).2.2
  have n0 : x1.cell? ⟨w.heap.size + 1 + 1, 0, none⟩ = some (.int .i64 0) := (cell_of_row _ _ _ _ _ _ hqn).trans rfl
  have n1 : x1.cell? ⟨w.heap.size + 1 + 1, 1, none⟩ = some (.int .i64 0) := (cell_of_row _ _ _ _ _ _ hqn).trans rfl
  have hla := (Array.getElem?_eq_some_iff.1 hqa).1
  have hlc := (Array.getElem?_eq_some_iff.1 hqn).1
  have hqz := (HZB.out x1 (Kept.ofBelow HX1.out)).2.1
  have z0 : x1.cell? ⟨w.heap.size + 1, 0, none⟩ = some (.int .i64 0) := (cell_of_row _ _ _ _ _ _ hqz).trans rfl
  have z1 : x1.cell? ⟨w.heap.size + 1, 1, none⟩ = some (.int .i64 0) := (cell_of_row _ _ _ _ _ _ hqz).trans rfl
  have fz : ∀ j, x1.frozen? ⟨w.heap.size + 1, j, none⟩ = false := fun j => frozen_of_row _ _ _ _ _ hqz
  have hlz := (Array.getElem?_eq_some_iff.1 hqz).1
  clear hqa hqn hqz
  cases hl1 : liveH s.l (o.a, o.b)
  · as_aux_lemma =>
    obtain rfl : i1 = -1 := by rw [← hi1]; exact atI_dead HOK.out hl1
    clear hi1
    have HEE : Hid (doE s o = 7 ∧ doZ s o = s) := Lib.hid ⟨by rw [HE.out.1]; simp [hl1], by rw [HE.out.2.2]; simp [hl1]⟩
    go_wp2
    rw [HEE.out.1, HE.out.2.1, HEE.out.2]
    refine bodyPost_ret (v := .tuple #[.agg #[.int .i64 0, .int .i64 0], .int .i64 7]) (by simp [results, Tryz.results20, go_sem, z0, z1]) rfl (ZfPost.fin (B := w.heap.size + 1) (ZfPost.same (x := .int .i64 0) HZ.out HX1.out) HX.out (by first | exact Kept.refl _ _ | exact rkept2 _ _ _ _) (by omega) hlb HLT.out)

  · have h10 : (0 : Int) ≤ i1 := by rw [← hi1]; exact atI_live HOK.out hl1
    have h11 : decide (i1 < 0) = false := by rw [decide_eq_false_iff_not]; omega
    clear hi1
    have HEE : Hid (doE s o = looseE s.bs (o.a, o.b) ∧ doZ s o = ⟨s.l, s.rows, rmB s.bs (o.a, o.b)⟩) := Lib.hid ⟨by rw [HE.out.1]; simp [hl1], by rw [HE.out.2.2]; simp [hl1]⟩
    go_wp2_with fail
    clear c0 c12 c13 c14 c15
    have HC0 : Hid (x1.cell? ⟨w.heap.size + 1 + 1, 0, none⟩ = some (.int .i64 0) ∧ x1.cell? ⟨w.heap.size + 1 + 1, 1, none⟩ = some (.int .i64 0) ∧ x1.cell? ⟨w.heap.size, 10, none⟩ = some (.int .i64 o.a) ∧ x1.cell? ⟨w.heap.size, 11, none⟩ = some (.int .i64 o.b)) := Lib.hid ⟨n0, n1, c10, c11⟩
    have HNF : Hid (∀ b, w.heap.size ≤ b → ¬ G b) := Lib.hid (fun b hb e => by have := HLT.out _ e; omega)
    clear z0 z1 fz hlz
    go_region_held3 (fun x => (x.cell? ⟨w.heap.size + 1 + 1, 0, none⟩ = some (.int .i64 0) ∧ x.cell? ⟨w.heap.size + 1 + 1, 1, none⟩ = some (.int .i64 0) ∧ x.cell? ⟨w.heap.size, 10, none⟩ = some (.int .i64 o.a) ∧ x.cell? ⟨w.heap.size, 11, none⟩ = some (.int .i64 o.b))) (first | go_keep | exact HKA.out) (first
      | ((go_at_call 45; refine (zfLoosen q G s o.a o.b _ (HZ.out.later HX1.out.drew) HOK.out).mono ?_; rintro e y1 hp; have hkx0 : Kept G x1.drew y1 := hp.2.choose_spec.2.1; have hkx : Kept G X y1 := ((Kept.ofBelow HX1.out).trans (Kept.drew G x1) (fun _ h => .inl h)).trans hkx0 (fun _ h => .inl h); have HKA : Hid (y1.cell? ⟨w.heap.size + 1 + 1, 0, none⟩ = some (.int .i64 0) ∧ y1.cell? ⟨w.heap.size + 1 + 1, 1, none⟩ = some (.int .i64 0) ∧ y1.cell? ⟨w.heap.size, 10, none⟩ = some (.int .i64 o.a) ∧ y1.cell? ⟨w.heap.size, 11, none⟩ = some (.int .i64 o.b)) := Lib.hid ⟨hkx0.cellS HC0.out.1 (HNF.out (w.heap.size + 1 + 1) (by omega)), hkx0.cellS HC0.out.2.1 (HNF.out (w.heap.size + 1 + 1) (by omega)), hkx0.cellS HC0.out.2.2.1 (HNF.out (w.heap.size) (by omega)), hkx0.cellS HC0.out.2.2.2 (HNF.out (w.heap.size) (by omega))⟩; have hq := (HZB.out y1 hkx).2.1; have z0 : y1.cell? ⟨w.heap.size + 1, 0, none⟩ = some (.int .i64 0) := (cell_of_row _ _ _ _ _ _ hq).trans rfl; have z1 : y1.cell? ⟨w.heap.size + 1, 1, none⟩ = some (.int .i64 0) := (cell_of_row _ _ _ _ _ _ hq).trans rfl; have fz : ∀ j, y1.frozen? ⟨w.heap.size + 1, j, none⟩ = false := fun j => frozen_of_row _ _ _ _ _ hq; have hl2 := (Array.getElem?_eq_some_iff.1 hq).1; have HP := Lib.hid hp; obtain ⟨rfl, -⟩ := hp; clear hq hkx hkx0)) | fail "none")
    go_wp2
    rw [HEE.out.1, HE.out.2.1, HEE.out.2]
    refine bodyPost_ret (v := .tuple #[.agg #[.int .i64 0, .int .i64 0], .int .i64 (looseE s.bs (o.a, o.b))]) (by simp [results, Tryz.results20, go_sem, z0, z1]) rfl (HP.out.fin (B := w.heap.size + 1) (nb_trans HX.out HX1.out.drew) (by first | exact Kept.refl _ _ | exact rkept2 _ _ _ _) (by omega) (Nat.lt_of_lt_of_le hlb HX1.out.size) HLT.out)

end Go.Proofs.YtlaahlphfkadjaaGreat

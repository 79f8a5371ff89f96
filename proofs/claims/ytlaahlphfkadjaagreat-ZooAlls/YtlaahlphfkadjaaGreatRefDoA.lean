
/- Do of the reference's zoo. -/
import Derived.Test.YtlaahlphfkadjaaGreatZooOps
import Derived.Test.YtlaahlphfkadjaaGreatOpCells
namespace Go.Proofs.YtlaahlphfkadjaaGreat
set_option maxRecDepth 8000
set_option maxRecDepth 8000
open Go.RowKit

theorem ZfPost.fin {w X w1 w2 : World} {q B : Nat} {G : Nat → Prop} {s' : Zs} {x0 x : Value} {e : Ending} (h : ZfPost X q G x0 s' e w1) (hX : Below w.heap.size w X) (hk : Kept (fun b => b = B) w1 w2) (hB : w.heap.size ≤ B) (hBX : B < X.heap.size) (hG : ∀ b, G b → b < w.heap.size) : ZfPost w q G x s' (.returned x) w2 := by
  obtain ⟨-, G', h2, h3, h4⟩ := h
  refine ⟨rfl, G', h2.kept hk (fun b hb e => ?_), ((Kept.ofBelow hX).trans h3 (fun _ h => .inl h)).trans hk (fun b e => .inr (by omega)), fun b hb => (h4 b hb).imp id (fun e => Nat.le_trans hX.size e)⟩
  rcases h4 b hb with e2 | e2
  · have := hG b e2; omega
  · omega
theorem rkept2 (w1 : World) (B : Nat) (x y : Value) : Kept (fun b => b = B) w1 ((w1.setCell ⟨B, 0, none⟩ x).setCell ⟨B, 1, none⟩ y) := (Kept.setCell (F := fun b => b = B) w1 (p := ⟨B, 0, none⟩) rfl _).trans (Kept.setCell (F := fun b => b = B) _ (p := ⟨B, 1, none⟩) rfl _) (fun _ h => .inl h)
theorem zfGone_len (q : Nat) (G : Nat → Prop) (s : Zs) (a b : Int) (w : World) (h : ZfAt w q G s) (hn : s.bs.length ≤ 60) :
    Calls Tryz.prog 48 #[.pointer (some ⟨q, 0, none⟩), .agg #[.int .i64 a, .int .i64 b]] w (ZfPost w q G (.tuple #[]) ⟨s.l, s.rows, goneB s.bs (a, b)⟩) := by
  obtain ⟨G0, G1, vB, hz, rfl⟩ := h.open
  exact (refGone_any q _ s.bs a b w hz.bon (by omega)).mono fun e w' ⟨he, _, h1, h2, h3, h4⟩ => ⟨he, hz.bonStep h1 h2 h3 h4⟩
/-- The cells of a handle in an own slice. -/
theorem OwnsF.handCells {w : World} {B : Nat} {T : TypeId} {a : Option Addr} {n c : Nat} {K : List Hd} (h : OwnsF elHand w B T (.slice a n c) K) {t : Nat} (ht : t < K.length) :
    ∃ bb, a = some ⟨bb, 0, none⟩ ∧ w.cell? ⟨bb, t * 2, none⟩ = some (.int .i64 (K.getD t (0, 0)).1) ∧ w.cell? ⟨bb, t * 2 + 1, none⟩ = some (.int .i64 (K.getD t (0, 0)).2) ∧ bb < w.heap.size := by
  obtain ⟨g, cap, e, hb, hg⟩ := h.form (by omega)
  obtain ⟨a', c', e2, hl, hm, hc⟩ := h.reads
  simp only [Value.slice.injEq] at e e2
  obtain ⟨rfl, -, -⟩ := e
  obtain ⟨rfl, -, -⟩ := e2
  obtain ⟨b', off, e3, hb3, hc3⟩ := hc t ht
  simp only [Option.some.injEq, Addr.mk.injEq, and_true] at e3
  obtain ⟨rfl, rfl⟩ := e3
  have q0 := hc3 0 (by decide)
  have q1 := hc3 1 (by decide)
  refine ⟨g, rfl, ?_, ?_, hb3⟩
  · rw [← show 0 + t * elHand.size + 0 = t * 2 by show 0 + t * 2 + 0 = _; omega, q0]; rfl
  · rw [← show 0 + t * elHand.size + 1 = t * 2 + 1 by show 0 + t * 2 + 1 = _; omega, q1]; rfl
theorem killN_next (s : Zs) {K : List Hd} {t : Nat} (h : t < K.length) : killN s (K.take (t + 1)) = kill1 (killN s (K.take t)) (K.getD t (0, 0)) := by
  rw [take_snocD K t (0, 0) h]; simp [killN]

set_option maxHeartbeats 4000000 in
theorem refDo_1 (q : Nat) (G : Nat → Prop) (s : Zs) (o : Opm) (w : World) (h : ZfAt w q G s) (ok : ZOk s)  (h1 : o.d = 1) :
    Calls Tryz.prog 20 #[.pointer (some ⟨q, 0, none⟩), .agg #[.int .i64 o.d, .int .i64 o.m, .int .i64 (o.f 0), .int .i64 (o.f 1), .int .i64 (o.f 2), .int .i64 (o.f 3), .int .i64 (o.f 4), .int .i64 (o.f 5), .int .i64 (o.f 6), .int .i64 (o.f 7), .int .i64 o.a, .int .i64 o.b, .int .i64 o.ta, .int .i64 o.tb, .int .i64 o.k, .int .i64 o.n]] w (ZfPost w q G (.tuple #[.agg #[.int .i64 (doH s o).1, .int .i64 (doH s o).2], .int .i64 (doE s o)]) (doZ s o)) := by
  have HE : Hid (doE s o = spawnE s.l o.m o.f ∧ doH s o = spawnH s.l o.m o.f ∧ doZ s o = ⟨spawnL s.l o.m o.f, spawnR s.l s.rows o.m o.f, s.bs⟩) := Lib.hid ⟨by rw [doE, if_pos h1], by rw [doH, if_pos h1], by rw [doZ, if_pos h1]⟩
  have hd1 : (o.d == 1) = true := by simpa using h1
  have hd2 : (o.d == 2) = false := by rw [h1]; rfl
  have hd3 : (o.d == 3) = false := by rw [h1]; rfl
  have hd4 : (o.d == 4) = false := by rw [h1]; rfl
  have hd5 : (o.d == 5) = false := by rw [h1]; rfl
  have hd6 : (o.d == 6) = false := by rw [h1]; rfl
  clear h1
  obtain ⟨X, HXE, hX, hxa, hxb, hxc⟩ := rdoStart w o
  have HX := Lib.hid hX
  have HZ : Hid (ZfAt X q G s) := Lib.hid (h.later hX)
  have HXB := Lib.hid hxb
  have HOK := Lib.hid ok
  have HLT := Lib.hid h.lt
  have HZB := Lib.hid (rdoKept h.lt hxa hxb hxc)
  have hplw := h.lt q h.at_
  obtain ⟨c0, c1, c2, c3, c4, c5, c6, c7, c8, c9, c10, c11, c12, c13, c14, c15⟩ := opCells hxa
  have n0 : X.cell? ⟨w.heap.size + 1 + 1, 0, none⟩ = some (.int .i64 0) := by rw [cell_of_row _ _ _ _ _ _ hxc]; rfl
  have n1 : X.cell? ⟨w.heap.size + 1 + 1, 1, none⟩ = some (.int .i64 0) := by rw [cell_of_row _ _ _ _ _ _ hxc]; rfl
  have hla := (Array.getElem?_eq_some_iff.1 hxa).1
  have hlb := (Array.getElem?_eq_some_iff.1 hxb).1
  have hlc := (Array.getElem?_eq_some_iff.1 hxc).1
  have hpl : q < X.heap.size := Nat.lt_of_lt_of_le hplw hX.size
  clear hxa hxb hxc h ok hX
  go_enter Tryz.func20, Tryz.ntmps20
  go_wp2_with fail
  rw [HXE.out]
  go_wp2_with fail
  refine (zfSpawn q G s o.m o.f _ HZ.out HOK.out).mono ?_
  rintro e x1 hp
  have hkx : Kept G X x1 := hp.2.choose_spec.2.1
  have hq := (HZB.out x1 hkx).2.1
  have z0 : x1.cell? ⟨w.heap.size + 1, 0, none⟩ = some (.int .i64 0) := (cell_of_row _ _ _ _ _ _ hq).trans rfl
  have z1 : x1.cell? ⟨w.heap.size + 1, 1, none⟩ = some (.int .i64 0) := (cell_of_row _ _ _ _ _ _ hq).trans rfl
  have fz : ∀ j, x1.frozen? ⟨w.heap.size + 1, j, none⟩ = false := fun j => frozen_of_row _ _ _ _ _ hq
  have hl2 := (Array.getElem?_eq_some_iff.1 hq).1
  clear hq
  have HP := Lib.hid hp
  obtain ⟨rfl, -⟩ := hp
  clear hkx
  go_wp2
  rw [HE.out.1, HE.out.2.1, HE.out.2.2]
  refine bodyPost_ret (v := .tuple #[.agg #[.int .i64 (spawnH s.l o.m o.f).1, .int .i64 (spawnH s.l o.m o.f).2], .int .i64 (spawnE s.l o.m o.f)]) (by simp [results, Tryz.results20, go_sem, z0, z1]) rfl (HP.out.fin (B := w.heap.size + 1) HX.out (by first | exact Kept.refl _ _ | exact rkept2 _ _ _ _) (by omega) hlb HLT.out)

set_option maxHeartbeats 4000000 in
theorem refDo_3 (q : Nat) (G : Nat → Prop) (s : Zs) (o : Opm) (w : World) (h : ZfAt w q G s) (ok : ZOk s) (h1 : ¬ o.d = 1) (h2 : ¬ o.d = 2) (h3 : o.d = 3) :
    Calls Tryz.prog 20 #[.pointer (some ⟨q, 0, none⟩), .agg #[.int .i64 o.d, .int .i64 o.m, .int .i64 (o.f 0), .int .i64 (o.f 1), .int .i64 (o.f 2), .int .i64 (o.f 3), .int .i64 (o.f 4), .int .i64 (o.f 5), .int .i64 (o.f 6), .int .i64 (o.f 7), .int .i64 o.a, .int .i64 o.b, .int .i64 o.ta, .int .i64 o.tb, .int .i64 o.k, .int .i64 o.n]] w (ZfPost w q G (.tuple #[.agg #[.int .i64 (doH s o).1, .int .i64 (doH s o).2], .int .i64 (doE s o)]) (doZ s o)) := by
  have HE : Hid (doE s o = putWE s.rows o.a o.b o.k o.n ∧ doH s o = (0, 0) ∧ doZ s o = ⟨s.l, putWR s.rows o.a o.b o.k o.n, s.bs⟩) := Lib.hid ⟨by rw [doE, if_neg h1, if_neg h2, if_pos h3], by rw [doH, if_neg h1], by rw [doZ, if_neg h1, if_neg h2, if_pos h3]⟩
  have hd1 : (o.d == 1) = false := by simpa using h1
  have hd2 : (o.d == 2) = false := by simpa using h2
  have hd3 : (o.d == 3) = true := by simpa using h3
  have hd4 : (o.d == 4) = false := by rw [h3]; rfl
  have hd5 : (o.d == 5) = false := by rw [h3]; rfl
  have hd6 : (o.d == 6) = false := by rw [h3]; rfl
  clear h1 h2 h3
  obtain ⟨X, HXE, hX, hxa, hxb, hxc⟩ := rdoStart w o
  have HX := Lib.hid hX
  have HZ : Hid (ZfAt X q G s) := Lib.hid (h.later hX)
  have HXB := Lib.hid hxb
  have HOK := Lib.hid ok
  have HLT := Lib.hid h.lt
  have HZB := Lib.hid (rdoKept h.lt hxa hxb hxc)
  have hplw := h.lt q h.at_
  obtain ⟨c0, c1, c2, c3, c4, c5, c6, c7, c8, c9, c10, c11, c12, c13, c14, c15⟩ := opCells hxa
  have n0 : X.cell? ⟨w.heap.size + 1 + 1, 0, none⟩ = some (.int .i64 0) := by rw [cell_of_row _ _ _ _ _ _ hxc]; rfl
  have n1 : X.cell? ⟨w.heap.size + 1 + 1, 1, none⟩ = some (.int .i64 0) := by rw [cell_of_row _ _ _ _ _ _ hxc]; rfl
  have hla := (Array.getElem?_eq_some_iff.1 hxa).1
  have hlb := (Array.getElem?_eq_some_iff.1 hxb).1
  have hlc := (Array.getElem?_eq_some_iff.1 hxc).1
  have hpl : q < X.heap.size := Nat.lt_of_lt_of_le hplw hX.size
  clear hxa hxb hxc h ok hX
  go_enter Tryz.func20, Tryz.ntmps20
  go_wp2_with fail
  rw [HXE.out]
  clear c0 c1 c2 c3 c4 c5 c6 c7 c8 c9 c12 c13
  have HC0 : Hid (X.cell? ⟨w.heap.size + 1 + 1, 0, none⟩ = some (.int .i64 0) ∧ X.cell? ⟨w.heap.size + 1 + 1, 1, none⟩ = some (.int .i64 0) ∧ X.cell? ⟨w.heap.size, 10, none⟩ = some (.int .i64 o.a) ∧ X.cell? ⟨w.heap.size, 11, none⟩ = some (.int .i64 o.b) ∧ X.cell? ⟨w.heap.size, 14, none⟩ = some (.int .i64 o.k) ∧ X.cell? ⟨w.heap.size, 15, none⟩ = some (.int .i64 o.n)) := Lib.hid ⟨n0, n1, c10, c11, c14, c15⟩
  have HNF : Hid (∀ b, w.heap.size ≤ b → ¬ G b) := Lib.hid (fun b hb e => by have := HLT.out _ e; omega)
  go_region_held3 (fun x => (x.cell? ⟨w.heap.size + 1 + 1, 0, none⟩ = some (.int .i64 0) ∧ x.cell? ⟨w.heap.size + 1 + 1, 1, none⟩ = some (.int .i64 0) ∧ x.cell? ⟨w.heap.size, 10, none⟩ = some (.int .i64 o.a) ∧ x.cell? ⟨w.heap.size, 11, none⟩ = some (.int .i64 o.b) ∧ x.cell? ⟨w.heap.size, 14, none⟩ = some (.int .i64 o.k) ∧ x.cell? ⟨w.heap.size, 15, none⟩ = some (.int .i64 o.n))) (first | go_keep | exact HKA.out) (first
    | ((go_at_call 41; refine (zfPut q G s o.a o.b o.k o.n _ (HZ.out.later (Below.refl _ _).drew) HOK.out).mono ?_; rintro e x1 hp; have hkx0 : Kept G X.drew x1 := hp.2.choose_spec.2.1; have hkx : Kept G X x1 := (Kept.drew G X).trans hkx0 (fun _ h => .inl h); have HKA : Hid (x1.cell? ⟨w.heap.size + 1 + 1, 0, none⟩ = some (.int .i64 0) ∧ x1.cell? ⟨w.heap.size + 1 + 1, 1, none⟩ = some (.int .i64 0) ∧ x1.cell? ⟨w.heap.size, 10, none⟩ = some (.int .i64 o.a) ∧ x1.cell? ⟨w.heap.size, 11, none⟩ = some (.int .i64 o.b) ∧ x1.cell? ⟨w.heap.size, 14, none⟩ = some (.int .i64 o.k) ∧ x1.cell? ⟨w.heap.size, 15, none⟩ = some (.int .i64 o.n)) := Lib.hid ⟨hkx0.cellS HC0.out.1 (HNF.out (w.heap.size + 1 + 1) (by omega)), hkx0.cellS HC0.out.2.1 (HNF.out (w.heap.size + 1 + 1) (by omega)), hkx0.cellS HC0.out.2.2.1 (HNF.out (w.heap.size) (by omega)), hkx0.cellS HC0.out.2.2.2.1 (HNF.out (w.heap.size) (by omega)), hkx0.cellS HC0.out.2.2.2.2.1 (HNF.out (w.heap.size) (by omega)), hkx0.cellS HC0.out.2.2.2.2.2 (HNF.out (w.heap.size) (by omega))⟩; have hq := (HZB.out x1 hkx).2.1; have z0 : x1.cell? ⟨w.heap.size + 1, 0, none⟩ = some (.int .i64 0) := (cell_of_row _ _ _ _ _ _ hq).trans rfl; have z1 : x1.cell? ⟨w.heap.size + 1, 1, none⟩ = some (.int .i64 0) := (cell_of_row _ _ _ _ _ _ hq).trans rfl; have fz : ∀ j, x1.frozen? ⟨w.heap.size + 1, j, none⟩ = false := fun j => frozen_of_row _ _ _ _ _ hq; have hl2 := (Array.getElem?_eq_some_iff.1 hq).1; have HP := Lib.hid hp; obtain ⟨rfl, -⟩ := hp; clear hq hkx hkx0)) | fail "none")
  go_wp2
  rw [HE.out.1, HE.out.2.1, HE.out.2.2]
  refine bodyPost_ret (v := .tuple #[.agg #[.int .i64 0, .int .i64 0], .int .i64 (putWE s.rows o.a o.b o.k o.n)]) (by simp [results, Tryz.results20, go_sem, z0, z1]) rfl (HP.out.fin (B := w.heap.size + 1) HX.out.drew (by first | exact Kept.refl _ _ | exact rkept2 _ _ _ _) (by omega) hlb HLT.out)

set_option maxHeartbeats 4000000 in
theorem refDo_4 (q : Nat) (G : Nat → Prop) (s : Zs) (o : Opm) (w : World) (h : ZfAt w q G s) (ok : ZOk s) (h1 : ¬ o.d = 1) (h2 : ¬ o.d = 2) (h3 : ¬ o.d = 3) (h4 : o.d = 4) :
    Calls Tryz.prog 20 #[.pointer (some ⟨q, 0, none⟩), .agg #[.int .i64 o.d, .int .i64 o.m, .int .i64 (o.f 0), .int .i64 (o.f 1), .int .i64 (o.f 2), .int .i64 (o.f 3), .int .i64 (o.f 4), .int .i64 (o.f 5), .int .i64 (o.f 6), .int .i64 (o.f 7), .int .i64 o.a, .int .i64 o.b, .int .i64 o.ta, .int .i64 o.tb, .int .i64 o.k, .int .i64 o.n]] w (ZfPost w q G (.tuple #[.agg #[.int .i64 (doH s o).1, .int .i64 (doH s o).2], .int .i64 (doE s o)]) (doZ s o)) := by
  have HE : Hid (doE s o = dropE s.rows o.a o.b o.k ∧ doH s o = (0, 0) ∧ doZ s o = ⟨s.l, dropR s.rows o.a o.b o.k, s.bs⟩) := Lib.hid ⟨by rw [doE, if_neg h1, if_neg h2, if_neg h3, if_pos h4], by rw [doH, if_neg h1], by rw [doZ, if_neg h1, if_neg h2, if_neg h3, if_pos h4]⟩
  have hd1 : (o.d == 1) = false := by simpa using h1
  have hd2 : (o.d == 2) = false := by simpa using h2
  have hd3 : (o.d == 3) = false := by simpa using h3
  have hd4 : (o.d == 4) = true := by simpa using h4
  have hd5 : (o.d == 5) = false := by rw [h4]; rfl
  have hd6 : (o.d == 6) = false := by rw [h4]; rfl
  clear h1 h2 h3 h4
  obtain ⟨X, HXE, hX, hxa, hxb, hxc⟩ := rdoStart w o
  have HX := Lib.hid hX
  have HZ : Hid (ZfAt X q G s) := Lib.hid (h.later hX)
  have HXB := Lib.hid hxb
  have HOK := Lib.hid ok
  have HLT := Lib.hid h.lt
  have HZB := Lib.hid (rdoKept h.lt hxa hxb hxc)
  have hplw := h.lt q h.at_
  obtain ⟨c0, c1, c2, c3, c4, c5, c6, c7, c8, c9, c10, c11, c12, c13, c14, c15⟩ := opCells hxa
  have n0 : X.cell? ⟨w.heap.size + 1 + 1, 0, none⟩ = some (.int .i64 0) := by rw [cell_of_row _ _ _ _ _ _ hxc]; rfl
  have n1 : X.cell? ⟨w.heap.size + 1 + 1, 1, none⟩ = some (.int .i64 0) := by rw [cell_of_row _ _ _ _ _ _ hxc]; rfl
  have hla := (Array.getElem?_eq_some_iff.1 hxa).1
  have hlb := (Array.getElem?_eq_some_iff.1 hxb).1
  have hlc := (Array.getElem?_eq_some_iff.1 hxc).1
  have hpl : q < X.heap.size := Nat.lt_of_lt_of_le hplw hX.size
  clear hxa hxb hxc h ok hX
  go_enter Tryz.func20, Tryz.ntmps20
  go_wp2_with fail
  rw [HXE.out]
  clear c0 c1 c2 c3 c4 c5 c6 c7 c8 c9 c12 c13 c15
  have HC0 : Hid (X.cell? ⟨w.heap.size + 1 + 1, 0, none⟩ = some (.int .i64 0) ∧ X.cell? ⟨w.heap.size + 1 + 1, 1, none⟩ = some (.int .i64 0) ∧ X.cell? ⟨w.heap.size, 10, none⟩ = some (.int .i64 o.a) ∧ X.cell? ⟨w.heap.size, 11, none⟩ = some (.int .i64 o.b) ∧ X.cell? ⟨w.heap.size, 14, none⟩ = some (.int .i64 o.k)) := Lib.hid ⟨n0, n1, c10, c11, c14⟩
  have HNF : Hid (∀ b, w.heap.size ≤ b → ¬ G b) := Lib.hid (fun b hb e => by have := HLT.out _ e; omega)
  go_region_held3 (fun x => (x.cell? ⟨w.heap.size + 1 + 1, 0, none⟩ = some (.int .i64 0) ∧ x.cell? ⟨w.heap.size + 1 + 1, 1, none⟩ = some (.int .i64 0) ∧ x.cell? ⟨w.heap.size, 10, none⟩ = some (.int .i64 o.a) ∧ x.cell? ⟨w.heap.size, 11, none⟩ = some (.int .i64 o.b) ∧ x.cell? ⟨w.heap.size, 14, none⟩ = some (.int .i64 o.k))) (first | go_keep | exact HKA.out) (first
    | ((go_at_call 42; refine (zfDrop q G s o.a o.b o.k _ (HZ.out.later (Below.refl _ _).drew) HOK.out).mono ?_; rintro e x1 hp; have hkx0 : Kept G X.drew x1 := hp.2.choose_spec.2.1; have hkx : Kept G X x1 := (Kept.drew G X).trans hkx0 (fun _ h => .inl h); have HKA : Hid (x1.cell? ⟨w.heap.size + 1 + 1, 0, none⟩ = some (.int .i64 0) ∧ x1.cell? ⟨w.heap.size + 1 + 1, 1, none⟩ = some (.int .i64 0) ∧ x1.cell? ⟨w.heap.size, 10, none⟩ = some (.int .i64 o.a) ∧ x1.cell? ⟨w.heap.size, 11, none⟩ = some (.int .i64 o.b) ∧ x1.cell? ⟨w.heap.size, 14, none⟩ = some (.int .i64 o.k)) := Lib.hid ⟨hkx0.cellS HC0.out.1 (HNF.out (w.heap.size + 1 + 1) (by omega)), hkx0.cellS HC0.out.2.1 (HNF.out (w.heap.size + 1 + 1) (by omega)), hkx0.cellS HC0.out.2.2.1 (HNF.out (w.heap.size) (by omega)), hkx0.cellS HC0.out.2.2.2.1 (HNF.out (w.heap.size) (by omega)), hkx0.cellS HC0.out.2.2.2.2 (HNF.out (w.heap.size) (by omega))⟩; have hq := (HZB.out x1 hkx).2.1; have z0 : x1.cell? ⟨w.heap.size + 1, 0, none⟩ = some (.int .i64 0) := (cell_of_row _ _ _ _ _ _ hq).trans rfl; have z1 : x1.cell? ⟨w.heap.size + 1, 1, none⟩ = some (.int .i64 0) := (cell_of_row _ _ _ _ _ _ hq).trans rfl; have fz : ∀ j, x1.frozen? ⟨w.heap.size + 1, j, none⟩ = false := fun j => frozen_of_row _ _ _ _ _ hq; have hl2 := (Array.getElem?_eq_some_iff.1 hq).1; have HP := Lib.hid hp; obtain ⟨rfl, -⟩ := hp; clear hq hkx hkx0)) | fail "none")
  go_wp2
  rw [HE.out.1, HE.out.2.1, HE.out.2.2]
  refine bodyPost_ret (v := .tuple #[.agg #[.int .i64 0, .int .i64 0], .int .i64 (dropE s.rows o.a o.b o.k)]) (by simp [results, Tryz.results20, go_sem, z0, z1]) rfl (HP.out.fin (B := w.heap.size + 1) HX.out.drew (by first | exact Kept.refl _ _ | exact rkept2 _ _ _ _) (by omega) hlb HLT.out)

set_option maxHeartbeats 4000000 in
theorem refDo_no (q : Nat) (G : Nat → Prop) (s : Zs) (o : Opm) (w : World) (h : ZfAt w q G s) (ok : ZOk s) (h1 : ¬ o.d = 1) (h2 : ¬ o.d = 2) (h3 : ¬ o.d = 3) (h4 : ¬ o.d = 4) (h5 : ¬ o.d = 5) (h6 : ¬ o.d = 6) :
    Calls Tryz.prog 20 #[.pointer (some ⟨q, 0, none⟩), .agg #[.int .i64 o.d, .int .i64 o.m, .int .i64 (o.f 0), .int .i64 (o.f 1), .int .i64 (o.f 2), .int .i64 (o.f 3), .int .i64 (o.f 4), .int .i64 (o.f 5), .int .i64 (o.f 6), .int .i64 (o.f 7), .int .i64 o.a, .int .i64 o.b, .int .i64 o.ta, .int .i64 o.tb, .int .i64 o.k, .int .i64 o.n]] w (ZfPost w q G (.tuple #[.agg #[.int .i64 (doH s o).1, .int .i64 (doH s o).2], .int .i64 (doE s o)]) (doZ s o)) := by
  have HE : Hid (doE s o = 1 ∧ doH s o = (0, 0) ∧ doZ s o = s) := Lib.hid ⟨by rw [doE, if_neg h1, if_neg h2, if_neg h3, if_neg h4, if_neg h5, if_neg h6], by rw [doH, if_neg h1], by rw [doZ, if_neg h1, if_neg h2, if_neg h3, if_neg h4, if_neg h5, if_neg h6]⟩
  have hd1 : (o.d == 1) = false := by simpa using h1
  have hd2 : (o.d == 2) = false := by simpa using h2
  have hd3 : (o.d == 3) = false := by simpa using h3
  have hd4 : (o.d == 4) = false := by simpa using h4
  have hd5 : (o.d == 5) = false := by simpa using h5
  have hd6 : (o.d == 6) = false := by simpa using h6
  clear h1 h2 h3 h4 h5 h6
  obtain ⟨X, HXE, hX, hxa, hxb, hxc⟩ := rdoStart w o
  have HX := Lib.hid hX
  have HZ : Hid (ZfAt X q G s) := Lib.hid (h.later hX)
  have HXB := Lib.hid hxb
  have HOK := Lib.hid ok
  have HLT := Lib.hid h.lt
  have HZB := Lib.hid (rdoKept h.lt hxa hxb hxc)
  have hplw := h.lt q h.at_
  obtain ⟨c0, c1, c2, c3, c4, c5, c6, c7, c8, c9, c10, c11, c12, c13, c14, c15⟩ := opCells hxa
  have n0 : X.cell? ⟨w.heap.size + 1 + 1, 0, none⟩ = some (.int .i64 0) := by rw [cell_of_row _ _ _ _ _ _ hxc]; rfl
  have n1 : X.cell? ⟨w.heap.size + 1 + 1, 1, none⟩ = some (.int .i64 0) := by rw [cell_of_row _ _ _ _ _ _ hxc]; rfl
  have hla := (Array.getElem?_eq_some_iff.1 hxa).1
  have hlb := (Array.getElem?_eq_some_iff.1 hxb).1
  have hlc := (Array.getElem?_eq_some_iff.1 hxc).1
  have hpl : q < X.heap.size := Nat.lt_of_lt_of_le hplw hX.size
  clear hxa hxb hxc h ok hX
  go_enter Tryz.func20, Tryz.ntmps20
  go_wp2_with fail
  rw [HXE.out]
  have z0 : X.cell? ⟨w.heap.size + 1, 0, none⟩ = some (.int .i64 0) := (cell_of_row _ _ _ _ _ _ HXB.out).trans rfl
  have z1 : X.cell? ⟨w.heap.size + 1, 1, none⟩ = some (.int .i64 0) := (cell_of_row _ _ _ _ _ _ HXB.out).trans rfl
  have fz : ∀ j, X.frozen? ⟨w.heap.size + 1, j, none⟩ = false := fun j => frozen_of_row _ _ _ _ _ HXB.out
  go_wp2
  rw [HE.out.1, HE.out.2.1, HE.out.2.2]
  refine bodyPost_ret (v := .tuple #[.agg #[.int .i64 0, .int .i64 0], .int .i64 1]) (by simp [results, Tryz.results20, go_sem, z0, z1]) rfl (ZfPost.fin (B := w.heap.size + 1) (ZfPost.same (x := .int .i64 0) HZ.out (Below.refl _ _)) HX.out (by first | exact Kept.refl _ _ | exact rkept2 _ _ _ _) (by omega) hlb HLT.out)

end Go.Proofs.YtlaahlphfkadjaaGreat

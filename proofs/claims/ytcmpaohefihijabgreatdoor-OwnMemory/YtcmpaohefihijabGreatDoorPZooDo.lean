/- Do of package zoo. -/
import Derived.Test.YtcmpaohefihijabGreatDoorPZooKill
import Derived.Test.YtcmpaohefihijabGreatDoorOpCells
namespace Go.Proofs.YtcmpaohefihijabGreatDoor
set_option maxRecDepth 8000
set_option maxRecDepth 8000
open Go.RowKit

theorem PzPost.fin {w X w1 w2 : World} {p B : Nat} {F : Nat → Prop} {s' : Zs} {x0 x : Value} {e : Ending} (h : PzPost X p F x0 s' e w1) (hX : Below w.heap.size w X) (hk : Kept (fun b => b = B) w1 w2) (hB : w.heap.size ≤ B) (hBX : B < X.heap.size) (hF : ∀ b, F b → b < w.heap.size) : PzPost w p F x s' (.returned x) w2 := by
  obtain ⟨-, F', h2, h3, h4⟩ := h
  refine ⟨rfl, F', h2.kept hk (fun b hb e => ?_), ((Kept.ofBelow hX).trans h3 (fun _ h => .inl h)).trans hk (fun b e => .inr (by omega)), fun b hb => (h4 b hb).imp id (fun e => Nat.le_trans hX.size e)⟩
  rcases h4 b hb with e2 | e2
  · have := hF b e2; omega
  · omega
theorem kept2 (w1 : World) (B : Nat) (x y : Value) : Kept (fun b => b = B) w1 ((w1.setCell ⟨B, 0, none⟩ x).setCell ⟨B, 1, none⟩ y) := (Kept.setCell (F := fun b => b = B) w1 (p := ⟨B, 0, none⟩) rfl _).trans (Kept.setCell (F := fun b => b = B) _ (p := ⟨B, 1, none⟩) rfl _) (fun _ h => .inl h)

set_option maxHeartbeats 4000000 in
theorem zooDo_1 (p : Nat) (F : Nat → Prop) (s : Zs) (o : Opm) (w : World) (h : PzAt w p F s) (ok : ZOk s) (op : OpOk o)  (h1 : o.d = 1) :
    Calls Tryz.prog 16 #[.pointer (some ⟨p, 0, none⟩), .agg #[.int .i64 o.d, .int .i64 o.m, .int .i64 (o.f 0), .int .i64 (o.f 1), .int .i64 (o.f 2), .int .i64 (o.f 3), .int .i64 (o.f 4), .int .i64 (o.f 5), .int .i64 (o.f 6), .int .i64 (o.f 7), .int .i64 o.a, .int .i64 o.b, .int .i64 o.ta, .int .i64 o.tb, .int .i64 o.k, .int .i64 o.n]] w (PzPost w p F (.tuple #[.agg #[.int .i64 (doH s o).1, .int .i64 (doH s o).2], .int .i64 (doE s o)]) (doZ s o)) := by
  have HE : Hid (doE s o = spawnE s.l o.m o.f ∧ doH s o = spawnH s.l o.m o.f ∧ doZ s o = ⟨spawnL s.l o.m o.f, spawnR s.l s.rows o.m o.f, s.bs⟩) := Lib.hid ⟨by rw [doE, if_pos h1], by rw [doH, if_pos h1], by rw [doZ, if_pos h1]⟩
  have hd1 : (o.d == 1) = true := by simpa using h1
  clear h1
  obtain ⟨X, HXE, hX, hxa, hxb⟩ := doStart w o
  have HX := Lib.hid hX
  have HZ : Hid (PzAt X p F s) := Lib.hid (h.later hX)
  have HXB := Lib.hid hxb
  have HOK := Lib.hid ok
  have HOP := Lib.hid op
  have HLT := Lib.hid h.lt
  have hplw := h.lt p h.at_
  obtain ⟨c0, c1, c2, c3, c4, c5, c6, c7, c8, c9, c10, c11, c12, c13, c14, c15⟩ := opCells hxa
  have hla := (Array.getElem?_eq_some_iff.1 hxa).1
  have hlb := (Array.getElem?_eq_some_iff.1 hxb).1
  have hpl : p < X.heap.size := Nat.lt_of_lt_of_le hplw hX.size
  clear hxa hxb h ok op hX
  go_enter Tryz.func16, Tryz.ntmps16
  go_wp2_with fail
  rw [HXE.out]
  clear c0 c10 c11 c12 c13 c14 c15
  have HC0 : Hid (X.cell? ⟨w.heap.size, 1, none⟩ = some (.int .i64 o.m) ∧ X.cell? ⟨w.heap.size, 2, none⟩ = some (.int .i64 (o.f 0)) ∧ X.cell? ⟨w.heap.size, 3, none⟩ = some (.int .i64 (o.f 1)) ∧ X.cell? ⟨w.heap.size, 4, none⟩ = some (.int .i64 (o.f 2)) ∧ X.cell? ⟨w.heap.size, 5, none⟩ = some (.int .i64 (o.f 3)) ∧ X.cell? ⟨w.heap.size, 6, none⟩ = some (.int .i64 (o.f 4)) ∧ X.cell? ⟨w.heap.size, 7, none⟩ = some (.int .i64 (o.f 5)) ∧ X.cell? ⟨w.heap.size, 8, none⟩ = some (.int .i64 (o.f 6)) ∧ X.cell? ⟨w.heap.size, 9, none⟩ = some (.int .i64 (o.f 7))) := Lib.hid ⟨c1, c2, c3, c4, c5, c6, c7, c8, c9⟩
  have HNF : Hid (¬ F w.heap.size) := Lib.hid (fun e => by have := HLT.out _ e; omega)
  go_region_held3 (fun x => (x.cell? ⟨w.heap.size, 1, none⟩ = some (.int .i64 o.m) ∧ x.cell? ⟨w.heap.size, 2, none⟩ = some (.int .i64 (o.f 0)) ∧ x.cell? ⟨w.heap.size, 3, none⟩ = some (.int .i64 (o.f 1)) ∧ x.cell? ⟨w.heap.size, 4, none⟩ = some (.int .i64 (o.f 2)) ∧ x.cell? ⟨w.heap.size, 5, none⟩ = some (.int .i64 (o.f 3)) ∧ x.cell? ⟨w.heap.size, 6, none⟩ = some (.int .i64 (o.f 4)) ∧ x.cell? ⟨w.heap.size, 7, none⟩ = some (.int .i64 (o.f 5)) ∧ x.cell? ⟨w.heap.size, 8, none⟩ = some (.int .i64 (o.f 6)) ∧ x.cell? ⟨w.heap.size, 9, none⟩ = some (.int .i64 (o.f 7)))) (first | go_keep | exact HKA.out) (first
    | ((go_at_call 35; refine (pzSpawn p F s o.m o.f _ (HZ.out.later (Below.refl _ _).drew) HOK.out).mono ?_; rintro e x1 hp; have HKA : Hid (x1.cell? ⟨w.heap.size, 1, none⟩ = some (.int .i64 o.m) ∧ x1.cell? ⟨w.heap.size, 2, none⟩ = some (.int .i64 (o.f 0)) ∧ x1.cell? ⟨w.heap.size, 3, none⟩ = some (.int .i64 (o.f 1)) ∧ x1.cell? ⟨w.heap.size, 4, none⟩ = some (.int .i64 (o.f 2)) ∧ x1.cell? ⟨w.heap.size, 5, none⟩ = some (.int .i64 (o.f 3)) ∧ x1.cell? ⟨w.heap.size, 6, none⟩ = some (.int .i64 (o.f 4)) ∧ x1.cell? ⟨w.heap.size, 7, none⟩ = some (.int .i64 (o.f 5)) ∧ x1.cell? ⟨w.heap.size, 8, none⟩ = some (.int .i64 (o.f 6)) ∧ x1.cell? ⟨w.heap.size, 9, none⟩ = some (.int .i64 (o.f 7))) := Lib.hid ⟨hp.2.choose_spec.2.1.cellS HC0.out.1 HNF.out, hp.2.choose_spec.2.1.cellS HC0.out.2.1 HNF.out, hp.2.choose_spec.2.1.cellS HC0.out.2.2.1 HNF.out, hp.2.choose_spec.2.1.cellS HC0.out.2.2.2.1 HNF.out, hp.2.choose_spec.2.1.cellS HC0.out.2.2.2.2.1 HNF.out, hp.2.choose_spec.2.1.cellS HC0.out.2.2.2.2.2.1 HNF.out, hp.2.choose_spec.2.1.cellS HC0.out.2.2.2.2.2.2.1 HNF.out, hp.2.choose_spec.2.1.cellS HC0.out.2.2.2.2.2.2.2.1 HNF.out, hp.2.choose_spec.2.1.cellS HC0.out.2.2.2.2.2.2.2.2 HNF.out⟩; have hq : x1.heap[w.heap.size + 1]? = some (.cells #[.int .i64 0, .int .i64 0] 34) := (hp.2.choose_spec.2.1.block _ hlb (fun e => by have := HLT.out _ e; omega)).trans HXB.out; have z0 : x1.cell? ⟨w.heap.size + 1, 0, none⟩ = some (.int .i64 0) := (cell_of_row _ _ _ _ _ _ hq).trans rfl; have z1 : x1.cell? ⟨w.heap.size + 1, 1, none⟩ = some (.int .i64 0) := (cell_of_row _ _ _ _ _ _ hq).trans rfl; have fz : ∀ j, x1.frozen? ⟨w.heap.size + 1, j, none⟩ = false := fun j => frozen_of_row _ _ _ _ _ hq; have hl2 := (Array.getElem?_eq_some_iff.1 hq).1; have HP := Lib.hid hp; obtain ⟨rfl, -⟩ := hp; clear hq)))
  go_wp2
  rw [HE.out.1, HE.out.2.1, HE.out.2.2]
  refine bodyPost_ret (v := .tuple #[.agg #[.int .i64 (spawnH s.l o.m o.f).1, .int .i64 (spawnH s.l o.m o.f).2], .int .i64 (spawnE s.l o.m o.f)]) (by simp [results, Tryz.results16, go_sem, z0, z1]) rfl (HP.out.fin (HX.out.drew) (kept2 x1 (w.heap.size + 1) _ _) (by omega) hlb HLT.out)

set_option maxHeartbeats 4000000 in
theorem zooDo_2 (p : Nat) (F : Nat → Prop) (s : Zs) (o : Opm) (w : World) (h : PzAt w p F s) (ok : ZOk s) (op : OpOk o) (h1 : ¬ o.d = 1) (h2 : o.d = 2) :
    Calls Tryz.prog 16 #[.pointer (some ⟨p, 0, none⟩), .agg #[.int .i64 o.d, .int .i64 o.m, .int .i64 (o.f 0), .int .i64 (o.f 1), .int .i64 (o.f 2), .int .i64 (o.f 3), .int .i64 (o.f 4), .int .i64 (o.f 5), .int .i64 (o.f 6), .int .i64 (o.f 7), .int .i64 o.a, .int .i64 o.b, .int .i64 o.ta, .int .i64 o.tb, .int .i64 o.k, .int .i64 o.n]] w (PzPost w p F (.tuple #[.agg #[.int .i64 (doH s o).1, .int .i64 (doH s o).2], .int .i64 (doE s o)]) (doZ s o)) := by
  have HE : Hid (doE s o = (if liveH s.l (o.a, o.b) then (0 : Int) else 7) ∧ doH s o = (0, 0) ∧ doZ s o = (if liveH s.l (o.a, o.b) then killZ s (o.a, o.b) else s)) := Lib.hid ⟨by rw [doE, if_neg h1, if_pos h2], by rw [doH, if_neg h1], by rw [doZ, if_neg h1, if_pos h2]⟩
  have hd1 : (o.d == 1) = false := by simpa using h1
  have hd2 : (o.d == 2) = true := by simpa using h2
  clear h1 h2
  obtain ⟨X, HXE, hX, hxa, hxb⟩ := doStart w o
  have HX := Lib.hid hX
  have HZ : Hid (PzAt X p F s) := Lib.hid (h.later hX)
  have HXB := Lib.hid hxb
  have HOK := Lib.hid ok
  have HOP := Lib.hid op
  have HLT := Lib.hid h.lt
  have hplw := h.lt p h.at_
  obtain ⟨c0, c1, c2, c3, c4, c5, c6, c7, c8, c9, c10, c11, c12, c13, c14, c15⟩ := opCells hxa
  have hla := (Array.getElem?_eq_some_iff.1 hxa).1
  have hlb := (Array.getElem?_eq_some_iff.1 hxb).1
  have hpl : p < X.heap.size := Nat.lt_of_lt_of_le hplw hX.size
  clear hxa hxb h ok op hX
  go_enter Tryz.func16, Tryz.ntmps16
  go_wp2_with fail
  rw [HXE.out]
  obtain ⟨ex, hex⟩ : ∃ x, (if liveH s.l (o.a, o.b) then (0 : Int) else 7) = x := ⟨_, rfl⟩
  obtain ⟨sx, hsx⟩ : ∃ x : Zs, (if liveH s.l (o.a, o.b) then killZ s (o.a, o.b) else s) = x := ⟨_, rfl⟩
  rw [hex, hsx] at HE
  have HEX := Lib.hid hex
  have HSX := Lib.hid hsx
  clear hex hsx
  go_wp2_with fail
  refine (zooKill_any p F s sx o.a o.b ex _ HZ.out HOK.out HEX.out HSX.out).mono ?_
  rintro e x1 hp
  have hq : x1.heap[w.heap.size + 1]? = some (.cells #[.int .i64 0, .int .i64 0] 34) := (hp.2.choose_spec.2.1.block _ hlb (fun e => by have := HLT.out _ e; omega)).trans HXB.out
  have z0 : x1.cell? ⟨w.heap.size + 1, 0, none⟩ = some (.int .i64 0) := (cell_of_row _ _ _ _ _ _ hq).trans rfl
  have z1 : x1.cell? ⟨w.heap.size + 1, 1, none⟩ = some (.int .i64 0) := (cell_of_row _ _ _ _ _ _ hq).trans rfl
  have fz : ∀ j, x1.frozen? ⟨w.heap.size + 1, j, none⟩ = false := fun j => frozen_of_row _ _ _ _ _ hq
  have hl2 := (Array.getElem?_eq_some_iff.1 hq).1
  have HP := Lib.hid hp
  obtain ⟨rfl, -⟩ := hp
  clear hq
  go_wp2
  rw [HE.out.1, HE.out.2.1, HE.out.2.2]
  refine bodyPost_ret (v := .tuple #[.agg #[.int .i64 0, .int .i64 0], .int .i64 ex]) (by simp [results, Tryz.results16, go_sem, z0, z1]) rfl (HP.out.fin HX.out (kept2 x1 (w.heap.size + 1) _ _) (by omega) hlb HLT.out)

set_option maxHeartbeats 4000000 in
theorem zooDo_3 (p : Nat) (F : Nat → Prop) (s : Zs) (o : Opm) (w : World) (h : PzAt w p F s) (ok : ZOk s) (op : OpOk o) (h1 : ¬ o.d = 1) (h2 : ¬ o.d = 2) (h3 : o.d = 3) :
    Calls Tryz.prog 16 #[.pointer (some ⟨p, 0, none⟩), .agg #[.int .i64 o.d, .int .i64 o.m, .int .i64 (o.f 0), .int .i64 (o.f 1), .int .i64 (o.f 2), .int .i64 (o.f 3), .int .i64 (o.f 4), .int .i64 (o.f 5), .int .i64 (o.f 6), .int .i64 (o.f 7), .int .i64 o.a, .int .i64 o.b, .int .i64 o.ta, .int .i64 o.tb, .int .i64 o.k, .int .i64 o.n]] w (PzPost w p F (.tuple #[.agg #[.int .i64 (doH s o).1, .int .i64 (doH s o).2], .int .i64 (doE s o)]) (doZ s o)) := by
  have HE : Hid (doE s o = putWE s.rows o.a o.b o.k o.n ∧ doH s o = (0, 0) ∧ doZ s o = ⟨s.l, putWR s.rows o.a o.b o.k o.n, s.bs⟩) := Lib.hid ⟨by rw [doE, if_neg h1, if_neg h2, if_pos h3], by rw [doH, if_neg h1], by rw [doZ, if_neg h1, if_neg h2, if_pos h3]⟩
  have hd1 : (o.d == 1) = false := by simpa using h1
  have hd2 : (o.d == 2) = false := by simpa using h2
  have hd3 : (o.d == 3) = true := by simpa using h3
  clear h1 h2 h3
  obtain ⟨X, HXE, hX, hxa, hxb⟩ := doStart w o
  have HX := Lib.hid hX
  have HZ : Hid (PzAt X p F s) := Lib.hid (h.later hX)
  have HXB := Lib.hid hxb
  have HOK := Lib.hid ok
  have HOP := Lib.hid op
  have HLT := Lib.hid h.lt
  have hplw := h.lt p h.at_
  obtain ⟨c0, c1, c2, c3, c4, c5, c6, c7, c8, c9, c10, c11, c12, c13, c14, c15⟩ := opCells hxa
  have hla := (Array.getElem?_eq_some_iff.1 hxa).1
  have hlb := (Array.getElem?_eq_some_iff.1 hxb).1
  have hpl : p < X.heap.size := Nat.lt_of_lt_of_le hplw hX.size
  clear hxa hxb h ok op hX
  go_enter Tryz.func16, Tryz.ntmps16
  go_wp2_with fail
  rw [HXE.out]
  clear c0 c1 c2 c3 c4 c5 c6 c7 c8 c9 c12 c13
  have HC0 : Hid (X.cell? ⟨w.heap.size, 10, none⟩ = some (.int .i64 o.a) ∧ X.cell? ⟨w.heap.size, 11, none⟩ = some (.int .i64 o.b) ∧ X.cell? ⟨w.heap.size, 14, none⟩ = some (.int .i64 o.k) ∧ X.cell? ⟨w.heap.size, 15, none⟩ = some (.int .i64 o.n)) := Lib.hid ⟨c10, c11, c14, c15⟩
  have HNF : Hid (¬ F w.heap.size) := Lib.hid (fun e => by have := HLT.out _ e; omega)
  go_region_held3 (fun x => (x.cell? ⟨w.heap.size, 10, none⟩ = some (.int .i64 o.a) ∧ x.cell? ⟨w.heap.size, 11, none⟩ = some (.int .i64 o.b) ∧ x.cell? ⟨w.heap.size, 14, none⟩ = some (.int .i64 o.k) ∧ x.cell? ⟨w.heap.size, 15, none⟩ = some (.int .i64 o.n))) (first | go_keep | exact HKA.out) (first
    | ((go_at_call 37; refine (pzPut p F s o.a o.b o.k o.n _ (HZ.out.later (Below.refl _ _).drew) HOK.out HOP.out.1 HOP.out.2.1).mono ?_; rintro e x1 hp; have HKA : Hid (x1.cell? ⟨w.heap.size, 10, none⟩ = some (.int .i64 o.a) ∧ x1.cell? ⟨w.heap.size, 11, none⟩ = some (.int .i64 o.b) ∧ x1.cell? ⟨w.heap.size, 14, none⟩ = some (.int .i64 o.k) ∧ x1.cell? ⟨w.heap.size, 15, none⟩ = some (.int .i64 o.n)) := Lib.hid ⟨hp.2.choose_spec.2.1.cellS HC0.out.1 HNF.out, hp.2.choose_spec.2.1.cellS HC0.out.2.1 HNF.out, hp.2.choose_spec.2.1.cellS HC0.out.2.2.1 HNF.out, hp.2.choose_spec.2.1.cellS HC0.out.2.2.2 HNF.out⟩; have hq : x1.heap[w.heap.size + 1]? = some (.cells #[.int .i64 0, .int .i64 0] 34) := (hp.2.choose_spec.2.1.block _ hlb (fun e => by have := HLT.out _ e; omega)).trans HXB.out; have z0 : x1.cell? ⟨w.heap.size + 1, 0, none⟩ = some (.int .i64 0) := (cell_of_row _ _ _ _ _ _ hq).trans rfl; have z1 : x1.cell? ⟨w.heap.size + 1, 1, none⟩ = some (.int .i64 0) := (cell_of_row _ _ _ _ _ _ hq).trans rfl; have fz : ∀ j, x1.frozen? ⟨w.heap.size + 1, j, none⟩ = false := fun j => frozen_of_row _ _ _ _ _ hq; have hl2 := (Array.getElem?_eq_some_iff.1 hq).1; have HP := Lib.hid hp; obtain ⟨rfl, -⟩ := hp; clear hq)))
  go_wp2
  rw [HE.out.1, HE.out.2.1, HE.out.2.2]
  refine bodyPost_ret (v := .tuple #[.agg #[.int .i64 0, .int .i64 0], .int .i64 (putWE s.rows o.a o.b o.k o.n)]) (by simp [results, Tryz.results16, go_sem, z0, z1]) rfl (HP.out.fin HX.out.drew (kept2 x1 (w.heap.size + 1) _ _) (by omega) hlb HLT.out)

set_option maxHeartbeats 4000000 in
theorem zooDo_4 (p : Nat) (F : Nat → Prop) (s : Zs) (o : Opm) (w : World) (h : PzAt w p F s) (ok : ZOk s) (op : OpOk o) (h1 : ¬ o.d = 1) (h2 : ¬ o.d = 2) (h3 : ¬ o.d = 3) (h4 : o.d = 4) :
    Calls Tryz.prog 16 #[.pointer (some ⟨p, 0, none⟩), .agg #[.int .i64 o.d, .int .i64 o.m, .int .i64 (o.f 0), .int .i64 (o.f 1), .int .i64 (o.f 2), .int .i64 (o.f 3), .int .i64 (o.f 4), .int .i64 (o.f 5), .int .i64 (o.f 6), .int .i64 (o.f 7), .int .i64 o.a, .int .i64 o.b, .int .i64 o.ta, .int .i64 o.tb, .int .i64 o.k, .int .i64 o.n]] w (PzPost w p F (.tuple #[.agg #[.int .i64 (doH s o).1, .int .i64 (doH s o).2], .int .i64 (doE s o)]) (doZ s o)) := by
  have HE : Hid (doE s o = dropE s.rows o.a o.b o.k ∧ doH s o = (0, 0) ∧ doZ s o = ⟨s.l, dropR s.rows o.a o.b o.k, s.bs⟩) := Lib.hid ⟨by rw [doE, if_neg h1, if_neg h2, if_neg h3, if_pos h4], by rw [doH, if_neg h1], by rw [doZ, if_neg h1, if_neg h2, if_neg h3, if_pos h4]⟩
  have hd1 : (o.d == 1) = false := by simpa using h1
  have hd2 : (o.d == 2) = false := by simpa using h2
  have hd3 : (o.d == 3) = false := by simpa using h3
  have hd4 : (o.d == 4) = true := by simpa using h4
  clear h1 h2 h3 h4
  obtain ⟨X, HXE, hX, hxa, hxb⟩ := doStart w o
  have HX := Lib.hid hX
  have HZ : Hid (PzAt X p F s) := Lib.hid (h.later hX)
  have HXB := Lib.hid hxb
  have HOK := Lib.hid ok
  have HOP := Lib.hid op
  have HLT := Lib.hid h.lt
  have hplw := h.lt p h.at_
  obtain ⟨c0, c1, c2, c3, c4, c5, c6, c7, c8, c9, c10, c11, c12, c13, c14, c15⟩ := opCells hxa
  have hla := (Array.getElem?_eq_some_iff.1 hxa).1
  have hlb := (Array.getElem?_eq_some_iff.1 hxb).1
  have hpl : p < X.heap.size := Nat.lt_of_lt_of_le hplw hX.size
  clear hxa hxb h ok op hX
  go_enter Tryz.func16, Tryz.ntmps16
  go_wp2_with fail
  rw [HXE.out]
  clear c0 c1 c2 c3 c4 c5 c6 c7 c8 c9 c12 c13 c15
  have HC0 : Hid (X.cell? ⟨w.heap.size, 10, none⟩ = some (.int .i64 o.a) ∧ X.cell? ⟨w.heap.size, 11, none⟩ = some (.int .i64 o.b) ∧ X.cell? ⟨w.heap.size, 14, none⟩ = some (.int .i64 o.k)) := Lib.hid ⟨c10, c11, c14⟩
  have HNF : Hid (¬ F w.heap.size) := Lib.hid (fun e => by have := HLT.out _ e; omega)
  go_region_held3 (fun x => (x.cell? ⟨w.heap.size, 10, none⟩ = some (.int .i64 o.a) ∧ x.cell? ⟨w.heap.size, 11, none⟩ = some (.int .i64 o.b) ∧ x.cell? ⟨w.heap.size, 14, none⟩ = some (.int .i64 o.k))) (first | go_keep | exact HKA.out) (first
    | ((go_at_call 38; refine (pzDrop p F s o.a o.b o.k _ (HZ.out.later (Below.refl _ _).drew) HOK.out HOP.out.1 HOP.out.2.1).mono ?_; rintro e x1 hp; have HKA : Hid (x1.cell? ⟨w.heap.size, 10, none⟩ = some (.int .i64 o.a) ∧ x1.cell? ⟨w.heap.size, 11, none⟩ = some (.int .i64 o.b) ∧ x1.cell? ⟨w.heap.size, 14, none⟩ = some (.int .i64 o.k)) := Lib.hid ⟨hp.2.choose_spec.2.1.cellS HC0.out.1 HNF.out, hp.2.choose_spec.2.1.cellS HC0.out.2.1 HNF.out, hp.2.choose_spec.2.1.cellS HC0.out.2.2 HNF.out⟩; have hq : x1.heap[w.heap.size + 1]? = some (.cells #[.int .i64 0, .int .i64 0] 34) := (hp.2.choose_spec.2.1.block _ hlb (fun e => by have := HLT.out _ e; omega)).trans HXB.out; have z0 : x1.cell? ⟨w.heap.size + 1, 0, none⟩ = some (.int .i64 0) := (cell_of_row _ _ _ _ _ _ hq).trans rfl; have z1 : x1.cell? ⟨w.heap.size + 1, 1, none⟩ = some (.int .i64 0) := (cell_of_row _ _ _ _ _ _ hq).trans rfl; have fz : ∀ j, x1.frozen? ⟨w.heap.size + 1, j, none⟩ = false := fun j => frozen_of_row _ _ _ _ _ hq; have hl2 := (Array.getElem?_eq_some_iff.1 hq).1; have HP := Lib.hid hp; obtain ⟨rfl, -⟩ := hp; clear hq)))
  go_wp2
  rw [HE.out.1, HE.out.2.1, HE.out.2.2]
  refine bodyPost_ret (v := .tuple #[.agg #[.int .i64 0, .int .i64 0], .int .i64 (dropE s.rows o.a o.b o.k)]) (by simp [results, Tryz.results16, go_sem, z0, z1]) rfl (HP.out.fin HX.out.drew (kept2 x1 (w.heap.size + 1) _ _) (by omega) hlb HLT.out)

set_option maxHeartbeats 4000000 in
theorem zooDo_5 (p : Nat) (F : Nat → Prop) (s : Zs) (o : Opm) (w : World) (h : PzAt w p F s) (ok : ZOk s) (op : OpOk o) (h1 : ¬ o.d = 1) (h2 : ¬ o.d = 2) (h3 : ¬ o.d = 3) (h4 : ¬ o.d = 4) (h5 : o.d = 5) :
    Calls Tryz.prog 16 #[.pointer (some ⟨p, 0, none⟩), .agg #[.int .i64 o.d, .int .i64 o.m, .int .i64 (o.f 0), .int .i64 (o.f 1), .int .i64 (o.f 2), .int .i64 (o.f 3), .int .i64 (o.f 4), .int .i64 (o.f 5), .int .i64 (o.f 6), .int .i64 (o.f 7), .int .i64 o.a, .int .i64 o.b, .int .i64 o.ta, .int .i64 o.tb, .int .i64 o.k, .int .i64 o.n]] w (PzPost w p F (.tuple #[.agg #[.int .i64 (doH s o).1, .int .i64 (doH s o).2], .int .i64 (doE s o)]) (doZ s o)) := by
  have HE : Hid (doE s o = (if liveH s.l (o.a, o.b) && liveH s.l (o.ta, o.tb) then adoptE s.bs (o.a, o.b) (o.ta, o.tb) else 7) ∧ doH s o = (0, 0) ∧ doZ s o = (if liveH s.l (o.a, o.b) && liveH s.l (o.ta, o.tb) then ⟨s.l, s.rows, adoptB s.bs (o.a, o.b) (o.ta, o.tb)⟩ else s)) := Lib.hid ⟨by rw [doE, if_neg h1, if_neg h2, if_neg h3, if_neg h4, if_pos h5], by rw [doH, if_neg h1], by rw [doZ, if_neg h1, if_neg h2, if_neg h3, if_neg h4, if_pos h5]⟩
  have hd1 : (o.d == 1) = false := by simpa using h1
  have hd2 : (o.d == 2) = false := by simpa using h2
  have hd3 : (o.d == 3) = false := by simpa using h3
  have hd4 : (o.d == 4) = false := by simpa using h4
  have hd5 : (o.d == 5) = true := by simpa using h5
  clear h1 h2 h3 h4 h5
  obtain ⟨X, HXE, hX, hxa, hxb⟩ := doStart w o
  have HX := Lib.hid hX
  have HZ : Hid (PzAt X p F s) := Lib.hid (h.later hX)
  have HXB := Lib.hid hxb
  have HOK := Lib.hid ok
  have HOP := Lib.hid op
  have HLT := Lib.hid h.lt
  have hplw := h.lt p h.at_
  obtain ⟨c0, c1, c2, c3, c4, c5, c6, c7, c8, c9, c10, c11, c12, c13, c14, c15⟩ := opCells hxa
  have hla := (Array.getElem?_eq_some_iff.1 hxa).1
  have hlb := (Array.getElem?_eq_some_iff.1 hxb).1
  have hpl : p < X.heap.size := Nat.lt_of_lt_of_le hplw hX.size
  clear hxa hxb h ok op hX
  go_enter Tryz.func16, Tryz.ntmps16
  go_wp2_with fail
  rw [HXE.out]
  obtain ⟨ex, hex⟩ : ∃ x, (if liveH s.l (o.a, o.b) && liveH s.l (o.ta, o.tb) then adoptE s.bs (o.a, o.b) (o.ta, o.tb) else 7) = x := ⟨_, rfl⟩
  obtain ⟨sx, hsx⟩ : ∃ x : Zs, (if liveH s.l (o.a, o.b) && liveH s.l (o.ta, o.tb) then ⟨s.l, s.rows, adoptB s.bs (o.a, o.b) (o.ta, o.tb)⟩ else s) = x := ⟨_, rfl⟩
  rw [hex, hsx] at HE
  have HEX := Lib.hid hex
  have HSX := Lib.hid hsx
  clear hex hsx
  go_wp2_with fail
  refine (zooAdopt_any p F s sx o.a o.b o.ta o.tb ex _ HZ.out HOK.out HEX.out HSX.out).mono ?_
  rintro e x1 hp
  have hq : x1.heap[w.heap.size + 1]? = some (.cells #[.int .i64 0, .int .i64 0] 34) := (hp.2.choose_spec.2.1.block _ hlb (fun e => by have := HLT.out _ e; omega)).trans HXB.out
  have z0 : x1.cell? ⟨w.heap.size + 1, 0, none⟩ = some (.int .i64 0) := (cell_of_row _ _ _ _ _ _ hq).trans rfl
  have z1 : x1.cell? ⟨w.heap.size + 1, 1, none⟩ = some (.int .i64 0) := (cell_of_row _ _ _ _ _ _ hq).trans rfl
  have fz : ∀ j, x1.frozen? ⟨w.heap.size + 1, j, none⟩ = false := fun j => frozen_of_row _ _ _ _ _ hq
  have hl2 := (Array.getElem?_eq_some_iff.1 hq).1
  have HP := Lib.hid hp
  obtain ⟨rfl, -⟩ := hp
  clear hq
  go_wp2
  rw [HE.out.1, HE.out.2.1, HE.out.2.2]
  refine bodyPost_ret (v := .tuple #[.agg #[.int .i64 0, .int .i64 0], .int .i64 ex]) (by simp [results, Tryz.results16, go_sem, z0, z1]) rfl (HP.out.fin HX.out (kept2 x1 (w.heap.size + 1) _ _) (by omega) hlb HLT.out)

set_option maxHeartbeats 4000000 in
theorem zooDo_6 (p : Nat) (F : Nat → Prop) (s : Zs) (o : Opm) (w : World) (h : PzAt w p F s) (ok : ZOk s) (op : OpOk o) (h1 : ¬ o.d = 1) (h2 : ¬ o.d = 2) (h3 : ¬ o.d = 3) (h4 : ¬ o.d = 4) (h5 : ¬ o.d = 5) (h6 : o.d = 6) :
    Calls Tryz.prog 16 #[.pointer (some ⟨p, 0, none⟩), .agg #[.int .i64 o.d, .int .i64 o.m, .int .i64 (o.f 0), .int .i64 (o.f 1), .int .i64 (o.f 2), .int .i64 (o.f 3), .int .i64 (o.f 4), .int .i64 (o.f 5), .int .i64 (o.f 6), .int .i64 (o.f 7), .int .i64 o.a, .int .i64 o.b, .int .i64 o.ta, .int .i64 o.tb, .int .i64 o.k, .int .i64 o.n]] w (PzPost w p F (.tuple #[.agg #[.int .i64 (doH s o).1, .int .i64 (doH s o).2], .int .i64 (doE s o)]) (doZ s o)) := by
  have HE : Hid (doE s o = (if liveH s.l (o.a, o.b) then looseE s.bs (o.a, o.b) else 7) ∧ doH s o = (0, 0) ∧ doZ s o = (if liveH s.l (o.a, o.b) then ⟨s.l, s.rows, rmB s.bs (o.a, o.b)⟩ else s)) := Lib.hid ⟨by rw [doE, if_neg h1, if_neg h2, if_neg h3, if_neg h4, if_neg h5, if_pos h6], by rw [doH, if_neg h1], by rw [doZ, if_neg h1, if_neg h2, if_neg h3, if_neg h4, if_neg h5, if_pos h6]⟩
  have hd1 : (o.d == 1) = false := by simpa using h1
  have hd2 : (o.d == 2) = false := by simpa using h2
  have hd3 : (o.d == 3) = false := by simpa using h3
  have hd4 : (o.d == 4) = false := by simpa using h4
  have hd5 : (o.d == 5) = false := by simpa using h5
  have hd6 : (o.d == 6) = true := by simpa using h6
  clear h1 h2 h3 h4 h5 h6
  obtain ⟨X, HXE, hX, hxa, hxb⟩ := doStart w o
  have HX := Lib.hid hX
  have HZ : Hid (PzAt X p F s) := Lib.hid (h.later hX)
  have HXB := Lib.hid hxb
  have HOK := Lib.hid ok
  have HOP := Lib.hid op
  have HLT := Lib.hid h.lt
  have hplw := h.lt p h.at_
  obtain ⟨c0, c1, c2, c3, c4, c5, c6, c7, c8, c9, c10, c11, c12, c13, c14, c15⟩ := opCells hxa
  have hla := (Array.getElem?_eq_some_iff.1 hxa).1
  have hlb := (Array.getElem?_eq_some_iff.1 hxb).1
  have hpl : p < X.heap.size := Nat.lt_of_lt_of_le hplw hX.size
  clear hxa hxb h ok op hX
  go_enter Tryz.func16, Tryz.ntmps16
  go_wp2_with fail
  rw [HXE.out]
  obtain ⟨ex, hex⟩ : ∃ x, (if liveH s.l (o.a, o.b) then looseE s.bs (o.a, o.b) else 7) = x := ⟨_, rfl⟩
  obtain ⟨sx, hsx⟩ : ∃ x : Zs, (if liveH s.l (o.a, o.b) then ⟨s.l, s.rows, rmB s.bs (o.a, o.b)⟩ else s) = x := ⟨_, rfl⟩
  rw [hex, hsx] at HE
  have HEX := Lib.hid hex
  have HSX := Lib.hid hsx
  clear hex hsx
  go_wp2_with fail
  refine (zooLoosen_any p F s sx o.a o.b ex _ HZ.out HOK.out HEX.out HSX.out).mono ?_
  rintro e x1 hp
  have hq : x1.heap[w.heap.size + 1]? = some (.cells #[.int .i64 0, .int .i64 0] 34) := (hp.2.choose_spec.2.1.block _ hlb (fun e => by have := HLT.out _ e; omega)).trans HXB.out
  have z0 : x1.cell? ⟨w.heap.size + 1, 0, none⟩ = some (.int .i64 0) := (cell_of_row _ _ _ _ _ _ hq).trans rfl
  have z1 : x1.cell? ⟨w.heap.size + 1, 1, none⟩ = some (.int .i64 0) := (cell_of_row _ _ _ _ _ _ hq).trans rfl
  have fz : ∀ j, x1.frozen? ⟨w.heap.size + 1, j, none⟩ = false := fun j => frozen_of_row _ _ _ _ _ hq
  have hl2 := (Array.getElem?_eq_some_iff.1 hq).1
  have HP := Lib.hid hp
  obtain ⟨rfl, -⟩ := hp
  clear hq
  go_wp2
  rw [HE.out.1, HE.out.2.1, HE.out.2.2]
  refine bodyPost_ret (v := .tuple #[.agg #[.int .i64 0, .int .i64 0], .int .i64 ex]) (by simp [results, Tryz.results16, go_sem, z0, z1]) rfl (HP.out.fin HX.out (kept2 x1 (w.heap.size + 1) _ _) (by omega) hlb HLT.out)

set_option maxHeartbeats 4000000 in
theorem zooDo_no (p : Nat) (F : Nat → Prop) (s : Zs) (o : Opm) (w : World) (h : PzAt w p F s) (ok : ZOk s) (op : OpOk o) (h1 : ¬ o.d = 1) (h2 : ¬ o.d = 2) (h3 : ¬ o.d = 3) (h4 : ¬ o.d = 4) (h5 : ¬ o.d = 5) (h6 : ¬ o.d = 6) :
    Calls Tryz.prog 16 #[.pointer (some ⟨p, 0, none⟩), .agg #[.int .i64 o.d, .int .i64 o.m, .int .i64 (o.f 0), .int .i64 (o.f 1), .int .i64 (o.f 2), .int .i64 (o.f 3), .int .i64 (o.f 4), .int .i64 (o.f 5), .int .i64 (o.f 6), .int .i64 (o.f 7), .int .i64 o.a, .int .i64 o.b, .int .i64 o.ta, .int .i64 o.tb, .int .i64 o.k, .int .i64 o.n]] w (PzPost w p F (.tuple #[.agg #[.int .i64 (doH s o).1, .int .i64 (doH s o).2], .int .i64 (doE s o)]) (doZ s o)) := by
  have HE : Hid (doE s o = 1 ∧ doH s o = (0, 0) ∧ doZ s o = s) := Lib.hid ⟨by rw [doE, if_neg h1, if_neg h2, if_neg h3, if_neg h4, if_neg h5, if_neg h6], by rw [doH, if_neg h1], by rw [doZ, if_neg h1, if_neg h2, if_neg h3, if_neg h4, if_neg h5, if_neg h6]⟩
  have hd1 : (o.d == 1) = false := by simpa using h1
  have hd2 : (o.d == 2) = false := by simpa using h2
  have hd3 : (o.d == 3) = false := by simpa using h3
  have hd4 : (o.d == 4) = false := by simpa using h4
  have hd5 : (o.d == 5) = false := by simpa using h5
  have hd6 : (o.d == 6) = false := by simpa using h6
  clear h1 h2 h3 h4 h5 h6
  obtain ⟨X, HXE, hX, hxa, hxb⟩ := doStart w o
  have HX := Lib.hid hX
  have HZ : Hid (PzAt X p F s) := Lib.hid (h.later hX)
  have HXB := Lib.hid hxb
  have HOK := Lib.hid ok
  have HOP := Lib.hid op
  have HLT := Lib.hid h.lt
  have hplw := h.lt p h.at_
  obtain ⟨c0, c1, c2, c3, c4, c5, c6, c7, c8, c9, c10, c11, c12, c13, c14, c15⟩ := opCells hxa
  have hla := (Array.getElem?_eq_some_iff.1 hxa).1
  have hlb := (Array.getElem?_eq_some_iff.1 hxb).1
  have hpl : p < X.heap.size := Nat.lt_of_lt_of_le hplw hX.size
  clear hxa hxb h ok op hX
  go_enter Tryz.func16, Tryz.ntmps16
  go_wp2_with fail
  rw [HXE.out]
  have z0 : X.cell? ⟨w.heap.size + 1, 0, none⟩ = some (.int .i64 0) := (cell_of_row _ _ _ _ _ _ HXB.out).trans rfl
  have z1 : X.cell? ⟨w.heap.size + 1, 1, none⟩ = some (.int .i64 0) := (cell_of_row _ _ _ _ _ _ HXB.out).trans rfl
  have fz : ∀ j, X.frozen? ⟨w.heap.size + 1, j, none⟩ = false := fun j => frozen_of_row _ _ _ _ _ HXB.out
  go_wp2
  rw [HE.out.1, HE.out.2.1, HE.out.2.2]
  refine bodyPost_ret (v := .tuple #[.agg #[.int .i64 0, .int .i64 0], .int .i64 1]) (by simp [results, Tryz.results16, go_sem, z0, z1]) rfl (PzPost.fin (PzPost.same (x := .int .i64 0) HZ.out (Below.refl _ _)) HX.out (Kept.refl _ _) (by omega) hlb HLT.out)

theorem zooDo_any (p : Nat) (F : Nat → Prop) (s : Zs) (o : Opm) (w : World) (h : PzAt w p F s) (ok : ZOk s) (op : OpOk o) :
    Calls Tryz.prog 16 #[.pointer (some ⟨p, 0, none⟩), .agg #[.int .i64 o.d, .int .i64 o.m, .int .i64 (o.f 0), .int .i64 (o.f 1), .int .i64 (o.f 2), .int .i64 (o.f 3), .int .i64 (o.f 4), .int .i64 (o.f 5), .int .i64 (o.f 6), .int .i64 (o.f 7), .int .i64 o.a, .int .i64 o.b, .int .i64 o.ta, .int .i64 o.tb, .int .i64 o.k, .int .i64 o.n]] w (PzPost w p F (.tuple #[.agg #[.int .i64 (doH s o).1, .int .i64 (doH s o).2], .int .i64 (doE s o)]) (doZ s o)) := by
  by_cases h1 : o.d = 1
  · exact zooDo_1 p F s o w h ok op h1
  by_cases h2 : o.d = 2
  · exact zooDo_2 p F s o w h ok op h1 h2
  by_cases h3 : o.d = 3
  · exact zooDo_3 p F s o w h ok op h1 h2 h3
  by_cases h4 : o.d = 4
  · exact zooDo_4 p F s o w h ok op h1 h2 h3 h4
  by_cases h5 : o.d = 5
  · exact zooDo_5 p F s o w h ok op h1 h2 h3 h4 h5
  by_cases h6 : o.d = 6
  · exact zooDo_6 p F s o w h ok op h1 h2 h3 h4 h5 h6
  exact zooDo_no p F s o w h ok op h1 h2 h3 h4 h5 h6
end Go.Proofs.YtcmpaohefihijabGreatDoor

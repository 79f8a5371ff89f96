/- New, Parent, Get, Rows and State of package zoo. -/
import Derived.Test.YtcmpaohefihijabGreatDoorPZooOps
namespace Go.Proofs.YtcmpaohefihijabGreatDoor
set_option maxRecDepth 8000
set_option maxRecDepth 8000
open Go.RowKit

set_option maxHeartbeats 400000 in
theorem zooNew_any (w : World) : Calls Tryz.prog 12 #[] w fun e w' => e = .returned (.pointer (some ⟨w.heap.size, 0, none⟩)) ∧ w.alloc (.cells #[.slice none 0 0, .map none, .map none, .map none] 76) = w' := by
  go_enter Tryz.func12, Tryz.ntmps12
  go_wp2
  go_ret
  exact ⟨rfl, rfl⟩

set_option maxHeartbeats 2000000 in
theorem zooParent_any (p : Nat) (F : Nat → Prop) (s : Zs) (a b c d : Int) (g : Bool) (w : World) (h : PzAt w p F s) (ok : ZOk s) (ha : I64r a) (hb : I64r b) (hq : parB s.bs (a, b) = (c, d)) (hg : hasP s.bs (a, b) = g) :
    Calls Tryz.prog 14 #[.pointer (some ⟨p, 0, none⟩), .agg #[.int .i64 a, .int .i64 b]] w fun e w' => e = .returned (.tuple #[.agg #[.int .i64 c, .int .i64 d], .bool g]) ∧ Below w.heap.size w w' := by
  have hX : Below w.heap.size w ((w.alloc (.cells #[.int .i64 a, .int .i64 b] 34)).alloc (.cells #[.int .i64 0, .int .i64 0] 34)) := nb_alloc (nb_alloc (Below.refl _ _) _) _
  have hb0 : ((w.alloc (.cells #[.int .i64 a, .int .i64 b] 34)).alloc (.cells #[.int .i64 0, .int .i64 0] 34)).heap[w.heap.size]? = some (.cells #[.int .i64 a, .int .i64 b] 34) := heap_alloc2_old _ _ _
  have hb1 : ((w.alloc (.cells #[.int .i64 a, .int .i64 b] 34)).alloc (.cells #[.int .i64 0, .int .i64 0] 34)).heap[w.heap.size + 1]? = some (.cells #[.int .i64 0, .int .i64 0] 34) := heap_alloc2_new _ _ _
  have HZ := Lib.hid (h.later hX)
  have HX := Lib.hid hX
  have HB1 := Lib.hid hb1
  have HOK := Lib.hid ok
  have HQ : Hid (parB s.bs (a, b) = (c, d) ∧ hasP s.bs (a, b) = g) := Lib.hid ⟨hq, hg⟩
  have HAB : Hid (I64r a ∧ I64r b) := Lib.hid ⟨ha, hb⟩
  have hpl := HZ.out.lt p HZ.out.at_
  clear h hX hq hg ok ha hb
  go_enter Tryz.func14, Tryz.ntmps14
  go_wp2_with fail
  generalize ((w.alloc (.cells #[.int .i64 a, .int .i64 b] 34)).alloc (.cells #[.int .i64 0, .int .i64 0] 34)) = X at *
  obtain ⟨kh0, kh1⟩ := hCells (a := a) (b := b) hb0
  have hl0 := (Array.getElem?_eq_some_iff.1 hb0).1
  have hl1 := (Array.getElem?_eq_some_iff.1 hb1).1
  have HC0 : Hid (X.cell? ⟨w.heap.size, 0, none⟩ = some (.int .i64 a) ∧ X.cell? ⟨w.heap.size, 1, none⟩ = some (.int .i64 b)) := Lib.hid ⟨kh0, kh1⟩
  clear hb0 hb1
  go_region_held3 (fun x => (x.cell? ⟨w.heap.size, 0, none⟩ = some (.int .i64 a) ∧ x.cell? ⟨w.heap.size, 1, none⟩ = some (.int .i64 b))) (first | go_keep | exact HKA.out) (first
    | ((go_at_call 26; refine (pzParent p F s a b c d g _ (HZ.out.later (Below.refl _ _).drew) HOK.out HAB.out.1 HAB.out.2 HQ.out.1 HQ.out.2).mono ?_; rintro e x1 ⟨rfl, hx1⟩; have HX1 : Hid (Below X.heap.size X x1) := Lib.hid ((Below.refl _ _).drew.trans hx1); have HKA : Hid (x1.cell? ⟨w.heap.size, 0, none⟩ = some (.int .i64 a) ∧ x1.cell? ⟨w.heap.size, 1, none⟩ = some (.int .i64 b)) := Lib.hid ⟨(HX1.out.cell (p := ⟨w.heap.size, 0, none⟩) hl0).trans HC0.out.1, (HX1.out.cell (p := ⟨w.heap.size, 1, none⟩) hl0).trans HC0.out.2⟩; have hb2 : x1.heap[w.heap.size + 1]? = some (.cells #[.int .i64 0, .int .i64 0] 34) := (HX1.out.block _ hl1).trans HB1.out; have fz : ∀ j, x1.frozen? ⟨w.heap.size + 1, j, none⟩ = false := fun j => frozen_of_row _ _ _ _ _ hb2; have kz0 : x1.cell? ⟨w.heap.size + 1, 0, none⟩ = some (.int .i64 0) := (cell_of_row _ _ _ _ _ _ hb2).trans rfl; have kz1 : x1.cell? ⟨w.heap.size + 1, 1, none⟩ = some (.int .i64 0) := (cell_of_row _ _ _ _ _ _ hb2).trans rfl; have hl2 : w.heap.size + 1 < x1.heap.size := (Array.getElem?_eq_some_iff.1 hb2).1; clear hx1 hb2)))
  go_wp2
  refine bodyPost_ret (v := .tuple #[.agg #[.int .i64 c, .int .i64 d], .bool g]) (by simp [results, Tryz.results14, go_sem, kz0, kz1]) rfl ⟨rfl, ?_⟩
  iterate 2 (refine nbf_set ?_ _ _ _ (by omega))
  exact nb_trans HX.out HX1.out

set_option maxHeartbeats 2000000 in
theorem zooRows_any (p : Nat) (F : Nat → Prop) (s : Zs) (a b c : Int) (w : World) (h : PzAt w p F s) (ok : ZOk s) :
    Calls Tryz.prog 17 #[.pointer (some ⟨p, 0, none⟩), .agg #[.int .i64 a, .int .i64 b, .int .i64 c]] w (RowsPost w s.rows a b c) := by
  have hX : Below w.heap.size w (w.alloc (.cells #[.int .i64 a, .int .i64 b, .int .i64 c] 63)) := nb_alloc (Below.refl _ _) _
  have hb0 : (w.alloc (.cells #[.int .i64 a, .int .i64 b, .int .i64 c] 63)).heap[w.heap.size]? = some (.cells #[.int .i64 a, .int .i64 b, .int .i64 c] 63) := heap_alloc_new _ _
  have HZ := Lib.hid (h.later hX)
  have HX := Lib.hid hX
  have HOK := Lib.hid ok
  have hpl := HZ.out.lt p HZ.out.at_
  clear h hX ok
  go_enter Tryz.func17, Tryz.ntmps17
  go_wp2_with fail
  generalize (w.alloc (.cells #[.int .i64 a, .int .i64 b, .int .i64 c] 63)) = X at *
  have kh0 : X.cell? ⟨w.heap.size, 0, none⟩ = some (.int .i64 a) := by rw [cell_of_row _ _ _ _ _ _ hb0]; rfl
  have kh1 : X.cell? ⟨w.heap.size, 1, none⟩ = some (.int .i64 b) := by rw [cell_of_row _ _ _ _ _ _ hb0]; rfl
  have kh2 : X.cell? ⟨w.heap.size, 2, none⟩ = some (.int .i64 c) := by rw [cell_of_row _ _ _ _ _ _ hb0]; rfl
  have hl0 := (Array.getElem?_eq_some_iff.1 hb0).1
  have HC0 : Hid (X.cell? ⟨w.heap.size, 0, none⟩ = some (.int .i64 a) ∧ X.cell? ⟨w.heap.size, 1, none⟩ = some (.int .i64 b) ∧ X.cell? ⟨w.heap.size, 2, none⟩ = some (.int .i64 c)) := Lib.hid ⟨kh0, kh1, kh2⟩
  clear hb0
  go_region_held3 (fun x => (x.cell? ⟨w.heap.size, 0, none⟩ = some (.int .i64 a) ∧ x.cell? ⟨w.heap.size, 1, none⟩ = some (.int .i64 b) ∧ x.cell? ⟨w.heap.size, 2, none⟩ = some (.int .i64 c))) (first | go_keep | exact HKA.out) (first
    | ((go_at_call 41; refine (pzRows p F s a b c _ (HZ.out.later (Below.refl _ _).drew) HOK.out).mono ?_; rintro e x1 ⟨v1, rfl, ho1, hx1⟩; have HO1 := Lib.hid ho1; have HX1 : Hid (Below X.heap.size X x1) := Lib.hid ((Below.refl _ _).drew.trans hx1); have HKA : Hid (x1.cell? ⟨w.heap.size, 0, none⟩ = some (.int .i64 a) ∧ x1.cell? ⟨w.heap.size, 1, none⟩ = some (.int .i64 b) ∧ x1.cell? ⟨w.heap.size, 2, none⟩ = some (.int .i64 c)) := Lib.hid ⟨(HX1.out.cell (p := ⟨w.heap.size, 0, none⟩) hl0).trans HC0.out.1, (HX1.out.cell (p := ⟨w.heap.size, 1, none⟩) hl0).trans HC0.out.2.1, (HX1.out.cell (p := ⟨w.heap.size, 2, none⟩) hl0).trans HC0.out.2.2⟩; obtain ⟨va, vc, hve, -⟩ := ho1.reads; clear hx1 ho1; subst hve)))
  go_wp2
  go_ret2
  exact ⟨_, rfl, HO1.out.weaken HX.out.size, nb_trans HX.out HX1.out⟩

/-- A state of its own: generations, rows and bonds, read off three slices. -/
structure StIs (w : World) (B : Nat) (vg vr vb : Value) (s : Zs) : Prop where
  g : OwnsF elInt w B 3 vg (gensL s.l)
  r : OwnsF elRow w B 39 vr s.rows
  b : OwnsF elBond w B 41 vb s.bs
theorem StIs.later {w w' : World} {B : Nat} {vg vr vb : Value} {s : Zs} (h : StIs w B vg vr vb s) (hb : Below w.heap.size w w') : StIs w' B vg vr vb s := ⟨h.g.later hb, h.r.later hb, h.b.later hb⟩
theorem StIs.weaken {w : World} {B B' : Nat} {vg vr vb : Value} {s : Zs} (h : StIs w B vg vr vb s) (hb : B' ≤ B) : StIs w B' vg vr vb s := ⟨h.g.weaken hb, h.r.weaken hb, h.b.weaken hb⟩
theorem StIs.kept {w w' : World} {B : Nat} {vg vr vb : Value} {s : Zs} {H : Nat → Prop} (h : StIs w B vg vr vb s) (hk : Kept H w w') (hn : ∀ b, B ≤ b → b < w.heap.size → ¬ H b) : StIs w' B vg vr vb s :=
  ⟨h.g.kept hk (fun k e => hn k (h.g.ge e) (h.g.lt e)), h.r.kept hk (fun k e => hn k (h.r.ge e) (h.r.lt e)), h.b.kept hk (fun k e => hn k (h.b.ge e) (h.b.lt e))⟩
def StatePost (w : World) (s : Zs) (e : Ending) (w' : World) : Prop := ∃ vg vr vb, e = .returned (.agg #[vg, vr, vb]) ∧ StIs w' w.heap.size vg vr vb s ∧ Below w.heap.size w w'

set_option maxHeartbeats 2000000 in
theorem zooState_any (p : Nat) (F : Nat → Prop) (s : Zs) (w : World) (h : PzAt w p F s) (ok : ZOk s) :
    Calls Tryz.prog 7 #[.pointer (some ⟨p, 0, none⟩)] w (StatePost w s) := by
  have hX : Below w.heap.size w (w.alloc (.cells #[.slice none 0 0, .slice none 0 0, .slice none 0 0] 31)) := nb_alloc (Below.refl _ _) _
  have hb0 : (w.alloc (.cells #[.slice none 0 0, .slice none 0 0, .slice none 0 0] 31)).heap[w.heap.size]? = some (.cells #[.slice none 0 0, .slice none 0 0, .slice none 0 0] 31) := heap_alloc_new _ _
  have HZ := Lib.hid (h.later hX)
  have HX := Lib.hid hX
  have HOK := Lib.hid ok
  have HB0 := Lib.hid hb0
  have hl0 := (Array.getElem?_eq_some_iff.1 hb0).1
  have hpl := HZ.out.lt p HZ.out.at_
  clear h hX ok hb0
  go_enter Tryz.func7, Tryz.ntmps7
  go_wp2_with fail
  generalize (w.alloc (.cells #[.slice none 0 0, .slice none 0 0, .slice none 0 0] 31)) = X at *
  refine (zooRows_any p F s 0 0 0 _ HZ.out HOK.out).mono ?_
  rintro e w1 ⟨v1, rfl, ho1, hb1⟩
  rw [rowsQ_all] at ho1
  rw [show qErr 0 0 0 = 0 by decide]
  obtain ⟨ra, rc, hve, -⟩ := ho1.reads
  have HO1 := Lib.hid ho1
  have HB1 := Lib.hid hb1
  have hpl1 : p < w1.heap.size := Nat.lt_of_lt_of_le hpl hb1.size
  clear ho1 hb1
  subst hve
  go_wp2_with fail
  go_region_held3 (fun _ => True) (exact trivial) (first
    | ((go_at_call 18; refine (pzGens p F s _ (HZ.out.later (HB1.out.trans (Below.refl _ _).drew)) HOK.out).mono ?_; rintro e x1 ⟨v2, rfl, ho2, hx1⟩; have HO2 := Lib.hid ho2; have HX1 : Hid (Below w1.heap.size w1 x1) := Lib.hid ((Below.refl _ _).drew.trans hx1); obtain ⟨va, vc, hve, -⟩ := ho2.reads; have hpl2 : p < x1.heap.size := Nat.lt_of_lt_of_le hpl1 HX1.out.size; clear hx1 ho2; subst hve))
    | ((go_at_call 19; refine (pzBonds p F s _ (HZ.out.later (nb_trans HB1.out HX1.out)) HOK.out).mono ?_; rintro e x2 ⟨v3, rfl, ho3, hx2⟩; have HO3 := Lib.hid ho3; have HX2 : Hid (Below x1.heap.size x1 x2) := Lib.hid hx2; obtain ⟨vd, ve, hve, -⟩ := ho3.reads; have HXX : Hid (Below X.heap.size X x2) := Lib.hid (nb_trans HB1.out (nb_trans HX1.out HX2.out)); have hb2 : x2.heap[w.heap.size]? = some (.cells #[.slice none 0 0, .slice none 0 0, .slice none 0 0] 31) := (HXX.out.block _ hl0).trans HB0.out; have fz : ∀ j, x2.frozen? ⟨w.heap.size, j, none⟩ = false := fun j => frozen_of_row _ _ _ _ _ hb2; have kz0 : x2.cell? ⟨w.heap.size, 0, none⟩ = some (.slice none 0 0) := (cell_of_row _ _ _ _ _ _ hb2).trans rfl; have kz1 : x2.cell? ⟨w.heap.size, 1, none⟩ = some (.slice none 0 0) := (cell_of_row _ _ _ _ _ _ hb2).trans rfl; have kz2 : x2.cell? ⟨w.heap.size, 2, none⟩ = some (.slice none 0 0) := (cell_of_row _ _ _ _ _ _ hb2).trans rfl; have hl2 : w.heap.size < x2.heap.size := (Array.getElem?_eq_some_iff.1 hb2).1; clear hx2 ho3 hb2; subst hve)))
  have HEND : Hid (∀ y0 y1 y2, StIs (((x2.setCell ⟨w.heap.size, 0, none⟩ y0).setCell ⟨w.heap.size, 1, none⟩ y1).setCell ⟨w.heap.size, 2, none⟩ y2) w.heap.size (.slice va (gensL s.l).length vc) (.slice ra s.rows.length rc) (.slice vd s.bs.length ve) s ∧ Below w.heap.size w (((x2.setCell ⟨w.heap.size, 0, none⟩ y0).setCell ⟨w.heap.size, 1, none⟩ y1).setCell ⟨w.heap.size, 2, none⟩ y2)) := Lib.hid (fun y0 y1 y2 => by
    have hb : Below w.heap.size w x2 := nb_trans HX.out HXX.out
    have hk : Kept (fun b => b = w.heap.size) x2 (((x2.setCell ⟨w.heap.size, 0, none⟩ y0).setCell ⟨w.heap.size, 1, none⟩ y1).setCell ⟨w.heap.size, 2, none⟩ y2) := ((Kept.setCell (F := fun b => b = w.heap.size) x2 (p := ⟨w.heap.size, 0, none⟩) rfl _).trans (Kept.setCell (F := fun b => b = w.heap.size) _ (p := ⟨w.heap.size, 1, none⟩) rfl _) (fun _ h => .inl h)).trans (Kept.setCell (F := fun b => b = w.heap.size) _ (p := ⟨w.heap.size, 2, none⟩) rfl _) (fun _ h => .inl h)
    have h1 := HB1.out.size
    have h2 := HX1.out.size
    have hx2 : StIs x2 X.heap.size (.slice va (gensL s.l).length vc) (.slice ra s.rows.length rc) (.slice vd s.bs.length ve) s := ⟨(HO2.out.later HX2.out).weaken h1, HO1.out.later (nb_trans HX1.out HX2.out), HO3.out.weaken (by omega)⟩
    exact ⟨(hx2.kept hk (fun b hb _ e => by omega)).weaken HX.out.size, hb.trans (hk.below hb.size (fun b e => by omega))⟩)
  go_wp2
  refine bodyPost_ret (v := .agg #[.slice va (gensL s.l).length vc, .slice ra s.rows.length rc, .slice vd s.bs.length ve]) (by simp [results, Tryz.results7, go_sem, kz0, kz1, kz2]) rfl ⟨_, _, _, rfl, (HEND.out _ _ _).1, (HEND.out _ _ _).2⟩
end Go.Proofs.YtcmpaohefihijabGreatDoor


/- New, Parent, Get, Rows and State of package zoo. -/
import Derived.Test.YtndhomjfjhohoaaGreatDoorPZooOps
namespace Go.Proofs.YtndhomjfjhohoaaGreatDoor
set_option maxRecDepth 8000
set_option maxRecDepth 8000
open Go.RowKit

set_option maxHeartbeats 2000000 in
theorem zooParent_any (p : Nat) (F : Nat → Prop) (s : Zs) (a b c d : Int) (g : Bool) (w : World) (h : PzAt w p F s) (ok : ZOk s) (ha : I64r a) (hb : I64r b) (hq : parB s.bs (a, b) = (c, d)) (hg : hasP s.bs (a, b) = g) :
    Calls Tryz.prog 45 #[.pointer (some ⟨p, 0, none⟩), .agg #[.int .i64 a, .int .i64 b]] w fun e w' => e = .returned (.tuple #[.agg #[.int .i64 c, .int .i64 d], .bool g]) ∧ Below w.heap.size w w' := by
  have hX : Below w.heap.size w ((w.alloc (.cells #[.int .i64 a, .int .i64 b] 49)).alloc (.cells #[.int .i64 0, .int .i64 0] 49)) := nb_alloc (nb_alloc (Below.refl _ _) _) _
  have hb0 : ((w.alloc (.cells #[.int .i64 a, .int .i64 b] 49)).alloc (.cells #[.int .i64 0, .int .i64 0] 49)).heap[w.heap.size]? = some (.cells #[.int .i64 a, .int .i64 b] 49) := heap_alloc2_old _ _ _
  have hb1 : ((w.alloc (.cells #[.int .i64 a, .int .i64 b] 49)).alloc (.cells #[.int .i64 0, .int .i64 0] 49)).heap[w.heap.size + 1]? = some (.cells #[.int .i64 0, .int .i64 0] 49) := heap_alloc2_new _ _ _
  have HZ := Lib.hid (h.later hX)
  have HX := Lib.hid hX
  have HB1 := Lib.hid hb1
  have HOK := Lib.hid ok
  have HQ : Hid (parB s.bs (a, b) = (c, d) ∧ hasP s.bs (a, b) = g) := Lib.hid ⟨hq, hg⟩
  have HAB : Hid (I64r a ∧ I64r b) := Lib.hid ⟨ha, hb⟩
  have hpl := HZ.out.lt p HZ.out.at_
  clear h hX hq hg ok ha hb
  go_enter Tryz.func45, Tryz.ntmps45
  go_wp2_with fail
  generalize ((w.alloc (.cells #[.int .i64 a, .int .i64 b] 49)).alloc (.cells #[.int .i64 0, .int .i64 0] 49)) = X at *
  obtain ⟨kh0, kh1⟩ := hCells (a := a) (b := b) hb0
  have hl0 := (Array.getElem?_eq_some_iff.1 hb0).1
  have hl1 := (Array.getElem?_eq_some_iff.1 hb1).1
  have HC0 : Hid (X.cell? ⟨w.heap.size, 0, none⟩ = some (.int .i64 a) ∧ X.cell? ⟨w.heap.size, 1, none⟩ = some (.int .i64 b)) := Lib.hid ⟨kh0, kh1⟩
  clear hb0 hb1
  go_region_held3 (fun x => (x.cell? ⟨w.heap.size, 0, none⟩ = some (.int .i64 a) ∧ x.cell? ⟨w.heap.size, 1, none⟩ = some (.int .i64 b))) (first | go_keep | exact HKA.out) (first
    | ((go_at_call 75; refine (pzParent p F s a b c d g _ (HZ.out.later (Below.refl _ _).drew) HOK.out HAB.out.1 HAB.out.2 HQ.out.1 HQ.out.2).mono ?_; rintro e x1 ⟨rfl, hx1⟩; have HX1 : Hid (Below X.heap.size X x1) := Lib.hid ((Below.refl _ _).drew.trans hx1); have HKA : Hid (x1.cell? ⟨w.heap.size, 0, none⟩ = some (.int .i64 a) ∧ x1.cell? ⟨w.heap.size, 1, none⟩ = some (.int .i64 b)) := Lib.hid ⟨(HX1.out.cell (p := ⟨w.heap.size, 0, none⟩) hl0).trans HC0.out.1, (HX1.out.cell (p := ⟨w.heap.size, 1, none⟩) hl0).trans HC0.out.2⟩; have hb2 : x1.heap[w.heap.size + 1]? = some (.cells #[.int .i64 0, .int .i64 0] 49) := (HX1.out.block _ hl1).trans HB1.out; have fz : ∀ j, x1.frozen? ⟨w.heap.size + 1, j, none⟩ = false := fun j => frozen_of_row _ _ _ _ _ hb2; have kz0 : x1.cell? ⟨w.heap.size + 1, 0, none⟩ = some (.int .i64 0) := (cell_of_row _ _ _ _ _ _ hb2).trans rfl; have kz1 : x1.cell? ⟨w.heap.size + 1, 1, none⟩ = some (.int .i64 0) := (cell_of_row _ _ _ _ _ _ hb2).trans rfl; have hl2 : w.heap.size + 1 < x1.heap.size := (Array.getElem?_eq_some_iff.1 hb2).1; clear hx1 hb2)))
  go_wp2
  refine bodyPost_ret (v := .tuple #[.agg #[.int .i64 c, .int .i64 d], .bool g]) (by simp [results, Tryz.results45, go_sem, kz0, kz1]) rfl ⟨rfl, ?_⟩
  iterate 2 (refine nbf_set ?_ _ _ _ (by omega))
  exact nb_trans HX.out HX1.out

/-- A state of its own: generations, rows and bonds, read off three slices. -/
structure StIs (w : World) (B : Nat) (vg vr vb : Value) (s : Zs) : Prop where
  g : OwnsF elInt w B 3 vg (gensL s.l)
  r : OwnsF elRow w B 54 vr s.rows
  b : OwnsF elBond w B 58 vb s.bs
theorem StIs.later {w w' : World} {B : Nat} {vg vr vb : Value} {s : Zs} (h : StIs w B vg vr vb s) (hb : Below w.heap.size w w') : StIs w' B vg vr vb s := ⟨h.g.later hb, h.r.later hb, h.b.later hb⟩
theorem StIs.weaken {w : World} {B B' : Nat} {vg vr vb : Value} {s : Zs} (h : StIs w B vg vr vb s) (hb : B' ≤ B) : StIs w B' vg vr vb s := ⟨h.g.weaken hb, h.r.weaken hb, h.b.weaken hb⟩
theorem StIs.kept {w w' : World} {B : Nat} {vg vr vb : Value} {s : Zs} {H : Nat → Prop} (h : StIs w B vg vr vb s) (hk : Kept H w w') (hn : ∀ b, B ≤ b → b < w.heap.size → ¬ H b) : StIs w' B vg vr vb s :=
  ⟨h.g.kept hk (fun k e => hn k (h.g.ge e) (h.g.lt e)), h.r.kept hk (fun k e => hn k (h.r.ge e) (h.r.lt e)), h.b.kept hk (fun k e => hn k (h.b.ge e) (h.b.lt e))⟩
end Go.Proofs.YtndhomjfjhohoaaGreatDoor

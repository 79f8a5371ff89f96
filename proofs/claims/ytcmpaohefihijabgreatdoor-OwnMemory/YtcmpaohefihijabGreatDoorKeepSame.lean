/- Same of the reference: two states. -/
import Derived.Test.YtcmpaohefihijabGreatDoorPZooTell
import Derived.Test.YtcmpaohefihijabGreatDoorGroundF
namespace Go.Proofs.YtcmpaohefihijabGreatDoor
set_option maxRecDepth 8000
set_option maxRecDepth 8000
open Go.RowKit

set_option maxHeartbeats 2000000 in
theorem same_any (ug ur ub vg vr vb : Value) (gens : List Int) (rs : List Rw) (bs : List Bd) (w : World) (h1 : Reads elInt w ug gens) (h2 : Reads elRow w ur rs) (h3 : Reads elBond w ub bs) (k1 : Reads elInt w vg gens) (k2 : Reads elRow w vr rs) (k3 : Reads elBond w vb bs) :
    Calls Tryz.prog 10 #[.agg #[ug, ur, ub], .agg #[vg, vr, vb]] w fun e w' => e = .returned (.bool true) ∧ Below w.heap.size w w' := by
  have H1 := Lib.hid (Ints.ofReads h1)
  have H2 := Lib.hid h2
  have H3 := Lib.hid h3
  have K1 := Lib.hid (Ints.ofReads k1)
  have K2 := Lib.hid k2
  have K3 := Lib.hid k3
  obtain ⟨a1, c1, rfl, -⟩ := h1
  obtain ⟨a2, c2, rfl, -⟩ := h2
  obtain ⟨a3, c3, rfl, -⟩ := h3
  obtain ⟨a4, c4, rfl, -⟩ := k1
  obtain ⟨a5, c5, rfl, -⟩ := k2
  obtain ⟨a6, c6, rfl, -⟩ := k3
  have HX : Hid (Below w.heap.size w ((w.alloc (.cells #[.slice a1 gens.length c1, .slice a2 rs.length c2, .slice a3 bs.length c3] 31)).alloc (.cells #[.slice a4 gens.length c4, .slice a5 rs.length c5, .slice a6 bs.length c6] 31))) := Lib.hid (nb_alloc (nb_alloc (Below.refl _ _) _) _)
  have HB0 : Hid (((w.alloc (.cells #[.slice a1 gens.length c1, .slice a2 rs.length c2, .slice a3 bs.length c3] 31)).alloc (.cells #[.slice a4 gens.length c4, .slice a5 rs.length c5, .slice a6 bs.length c6] 31)).heap[w.heap.size]? = some (.cells #[.slice a1 gens.length c1, .slice a2 rs.length c2, .slice a3 bs.length c3] 31)) := Lib.hid (heap_alloc2_old _ _ _)
  have HB1 : Hid (((w.alloc (.cells #[.slice a1 gens.length c1, .slice a2 rs.length c2, .slice a3 bs.length c3] 31)).alloc (.cells #[.slice a4 gens.length c4, .slice a5 rs.length c5, .slice a6 bs.length c6] 31)).heap[w.heap.size + 1]? = some (.cells #[.slice a4 gens.length c4, .slice a5 rs.length c5, .slice a6 bs.length c6] 31)) := Lib.hid (heap_alloc2_new _ _ _)
  go_enter Tryz.func10, Tryz.ntmps10
  go_wp2_with fail
  generalize ((w.alloc (.cells #[.slice a1 gens.length c1, .slice a2 rs.length c2, .slice a3 bs.length c3] 31)).alloc (.cells #[.slice a4 gens.length c4, .slice a5 rs.length c5, .slice a6 bs.length c6] 31)) = X at *
  have HBX : Hid (∀ Y, Below X.heap.size X Y → (Y.cell? ⟨w.heap.size, 1, none⟩ = some (.slice a2 rs.length c2) ∧ Y.cell? ⟨w.heap.size, 2, none⟩ = some (.slice a3 bs.length c3)) ∧ (Y.cell? ⟨w.heap.size + 1, 1, none⟩ = some (.slice a5 rs.length c5) ∧ Y.cell? ⟨w.heap.size + 1, 2, none⟩ = some (.slice a6 bs.length c6)) ∧ w.heap.size < Y.heap.size ∧ w.heap.size + 1 < Y.heap.size) := Lib.hid (fun Y hY => by
    have e0 := (hY.block _ (Array.getElem?_eq_some_iff.1 HB0.out).1).trans HB0.out
    have e1 := (hY.block _ (Array.getElem?_eq_some_iff.1 HB1.out).1).trans HB1.out
    exact ⟨⟨(cell_of_row _ _ _ _ _ _ e0).trans rfl, (cell_of_row _ _ _ _ _ _ e0).trans rfl⟩, ⟨(cell_of_row _ _ _ _ _ _ e1).trans rfl, (cell_of_row _ _ _ _ _ _ e1).trans rfl⟩, (Array.getElem?_eq_some_iff.1 e0).1, (Array.getElem?_eq_some_iff.1 e1).1⟩)
  refine (eqInt_any _ _ gens gens _ (H1.out.later HX.out) (K1.out.later HX.out)).mono ?_
  rintro e w1 ⟨rfl, hw⟩
  have hb1 : Below X.heap.size X w1 := by rw [← hw]; exact Below.refl _ _
  clear hw
  rw [show decide (gens = gens) = true by simp]
  have HB2 := Lib.hid hb1
  obtain ⟨⟨q1, q2⟩, ⟨q3, q4⟩, l1, l2⟩ := HBX.out w1 hb1
  clear hb1
  go_wp2_with fail
  refine (eqRow_same _ _ rs _ (H2.out.later (nb_trans HX.out HB2.out)) (K2.out.later (nb_trans HX.out HB2.out))).mono ?_
  rintro e w2 ⟨rfl, hb2⟩
  have HB3 := Lib.hid (nb_trans HB2.out hb2)
  clear q1 q2 q3 q4 l1 l2
  obtain ⟨⟨q1, q2⟩, ⟨q3, q4⟩, l1, l2⟩ := HBX.out w2 HB3.out
  clear hb2
  go_wp2_with fail
  refine (eqBond_any _ _ bs bs _ (H3.out.later (nb_trans HX.out HB3.out)) (K3.out.later (nb_trans HX.out HB3.out))).mono ?_
  rintro e w3 ⟨rfl, hb3⟩
  rw [show decide (bs = bs) = true by simp]
  have HB4 := Lib.hid (nb_trans HX.out (nb_trans HB3.out hb3))
  clear q1 q2 q3 q4 l1 l2 hb3
  go_wp2
  go_ret
  exact ⟨rfl, HB4.out⟩
theorem sameSt_any {s : Zs} {B B' : Nat} {ug ur ub vg vr vb : Value} (w : World) (h : StIs w B ug ur ub s) (k : StIs w B' vg vr vb s) :
    Calls Tryz.prog 10 #[.agg #[ug, ur, ub], .agg #[vg, vr, vb]] w fun e w' => e = .returned (.bool true) ∧ Below w.heap.size w w' :=
  same_any _ _ _ _ _ _ (gensL s.l) s.rows s.bs w h.g.reads h.r.reads h.b.reads k.g.reads k.r.reads k.b.reads
end Go.Proofs.YtcmpaohefihijabGreatDoor

/- Same of the reference; done of the keeping laws. -/
import Derived.Test.YtbdkmmbhblpjoaaGreatPZooDo
import Derived.Test.YtbdkmmbhblpjoaaGreatGroundF
namespace Go.Proofs.YtbdkmmbhblpjoaaGreat
set_option maxRecDepth 8000
set_option maxRecDepth 8000
open Go.RowKit

set_option maxHeartbeats 2000000 in
theorem same_any (ug ur ub vg vr vb : Value) (gens : List Int) (rs : List Rw) (bs : List Bd) (w : World) (h1 : Reads elInt w ug gens) (h2 : Reads elRow w ur rs) (h3 : Reads elBond w ub bs) (k1 : Reads elInt w vg gens) (k2 : Reads elRow w vr rs) (k3 : Reads elBond w vb bs) :
    Calls Tryz.prog 11 #[.agg #[ug, ur, ub], .agg #[vg, vr, vb]] w fun e w' => e = .returned (.bool true) ∧ Below w.heap.size w w' := by
  have H1 := Lib.hid (Ints.ofReads h1)
  have H2 := Lib.hid h2
  have H3 := Lib.hid h3
  have K1 := Lib.hid (Ints.ofReads k1)
  have K2 := Lib.hid k2
  have K3 := Lib.hid k3
  obtain ⟨a1, c1, rfl, -⟩ := h1
  obtain ⟨a2, c2, rfl, -⟩ := h2
  obtain ⟨a3, c3, rfl, -⟩ := h3
  obtain ⟨a4, c4, rfl, -⟩ := k1
  obtain ⟨a5, c5, rfl, -⟩ := k2
  obtain ⟨a6, c6, rfl, -⟩ := k3
  have HX : Hid (Below w.heap.size w ((w.alloc (.cells #[.slice a1 gens.length c1, .slice a2 rs.length c2, .slice a3 bs.length c3] 46)).alloc (.cells #[.slice a4 gens.length c4, .slice a5 rs.length c5, .slice a6 bs.length c6] 46))) := Lib.hid (nb_alloc (nb_alloc (Below.refl _ _) _) _)
  have HB0 : Hid (((w.alloc (.cells #[.slice a1 gens.length c1, .slice a2 rs.length c2, .slice a3 bs.length c3] 46)).alloc (.cells #[.slice a4 gens.length c4, .slice a5 rs.length c5, .slice a6 bs.length c6] 46)).heap[w.heap.size]? = some (.cells #[.slice a1 gens.length c1, .slice a2 rs.length c2, .slice a3 bs.length c3] 46)) := Lib.hid (heap_alloc2_old _ _ _)
  have HB1 : Hid (((w.alloc (.cells #[.slice a1 gens.length c1, .slice a2 rs.length c2, .slice a3 bs.length c3] 46)).alloc (.cells #[.slice a4 gens.length c4, .slice a5 rs.length c5, .slice a6 bs.length c6] 46)).heap[w.heap.size + 1]? = some (.cells #[.slice a4 gens.length c4, .slice a5 rs.length c5, .slice a6 bs.length c6] 46)) := Lib.hid (heap_alloc2_new _ _ _)
  go_enter Tryz.func11, Tryz.ntmps11
  go_wp2_with fail
  generalize ((w.alloc (.cells #[.slice a1 gens.length c1, .slice a2 rs.length c2, .slice a3 bs.length c3] 46)).alloc (.cells #[.slice a4 gens.length c4, .slice a5 rs.length c5, .slice a6 bs.length c6] 46)) = X at *
  have HBX : Hid (∀ Y, Below X.heap.size X Y → (Y.cell? ⟨w.heap.size, 1, none⟩ = some (.slice a2 rs.length c2) ∧ Y.cell? ⟨w.heap.size, 2, none⟩ = some (.slice a3 bs.length c3)) ∧ (Y.cell? ⟨w.heap.size + 1, 1, none⟩ = some (.slice a5 rs.length c5) ∧ Y.cell? ⟨w.heap.size + 1, 2, none⟩ = some (.slice a6 bs.length c6)) ∧ w.heap.size < Y.heap.size ∧ w.heap.size + 1 < Y.heap.size) := Lib.hid (fun Y hY => by
    have e0 := (hY.block _ (Array.getElem?_eq_some_iff.1 HB0.out).1).trans HB0.out
    have e1 := (hY.block _ (Array.getElem?_eq_some_iff.1 HB1.out).1).trans HB1.out
    exact ⟨⟨(cell_of_row _ _ _ _ _ _ e0).trans rfl, (cell_of_row _ _ _ _ _ _ e0).trans rfl⟩, ⟨(cell_of_row _ _ _ _ _ _ e1).trans rfl, (cell_of_row _ _ _ _ _ _ e1).trans rfl⟩, (Array.getElem?_eq_some_iff.1 e0).1, (Array.getElem?_eq_some_iff.1 e1).1⟩)
  refine (eqInt_any _ _ gens gens _ (H1.out.later HX.out) (K1.out.later HX.out)).mono ?_
  rintro e w1 ⟨rfl, hw⟩
  have hb1 : Below X.heap.size X w1 := by rw [← hw]; exact Below.refl _ _
  clear hw
  rw [show decide (gens = gens) = true by simp]
  have HB2 := Lib.hid hb1
  obtain ⟨⟨q1, q2⟩, ⟨q3, q4⟩, l1, l2⟩ := HBX.out w1 hb1
  clear hb1
  go_wp2_with fail
  refine (eqRow_same _ _ rs _ (H2.out.later (nb_trans HX.out HB2.out)) (K2.out.later (nb_trans HX.out HB2.out))).mono ?_
  rintro e w2 ⟨rfl, hb2⟩
  have HB3 := Lib.hid (nb_trans HB2.out hb2)
  clear q1 q2 q3 q4 l1 l2
  obtain ⟨⟨q1, q2⟩, ⟨q3, q4⟩, l1, l2⟩ := HBX.out w2 HB3.out
  clear hb2
  go_wp2_with fail
  refine (eqBond_any _ _ bs bs _ (H3.out.later (nb_trans HX.out HB3.out)) (K3.out.later (nb_trans HX.out HB3.out))).mono ?_
  rintro e w3 ⟨rfl, hb3⟩
  rw [show decide (bs = bs) = true by simp]
  have HB4 := Lib.hid (nb_trans HX.out (nb_trans HB3.out hb3))
  clear q1 q2 q3 q4 l1 l2 hb3
  go_wp2
  go_ret
  exact ⟨rfl, HB4.out⟩
theorem sameSt_any {s : Zs} {B B' : Nat} {ug ur ub vg vr vb : Value} (w : World) (h : StIs w B ug ur ub s) (k : StIs w B' vg vr vb s) :
    Calls Tryz.prog 11 #[.agg #[ug, ur, ub], .agg #[vg, vr, vb]] w fun e w' => e = .returned (.bool true) ∧ Below w.heap.size w w' :=
  same_any _ _ _ _ _ _ (gensL s.l) s.rows s.bs w h.g.reads h.r.reads h.b.reads k.g.reads k.r.reads k.b.reads

def DonePost (w : World) (zs : List Opm) (e : Ending) (w' : World) : Prop := ∃ p F, e = .returned (.pointer (some ⟨p, 0, none⟩)) ∧ PzAt w' p F (doneZ zs) ∧ (∀ b, F b → w.heap.size ≤ b) ∧ Below w.heap.size w w'
set_option maxHeartbeats 4000000 in
theorem done_any (v : Value) (zs : List Opm) (w : World) (hr : Reads elOp w v zs) (hz : ∀ x ∈ zs, OpOk x) : Calls Tryz.prog 27 #[v] w (DonePost w zs) := by
  obtain ⟨oa, oc, rfl, hlc, hm, hcc⟩ := hr
  unfold maxLen at hm
  obtain ⟨n, hn⟩ : ∃ n, zs.length = n := ⟨_, rfl⟩
  have HN := Lib.hid hn
  have HC := Lib.hid hcc
  have HOS := Lib.hid hz
  rw [hn] at hlc HC ⊢
  clear hn hcc hz
  go_enter Tryz.func27, Tryz.ntmps27
  go_wp2_with fail
  refine (zooNew_any _).mono ?_
  rintro e w1 ⟨rfl, hw1⟩
  have HI0 : Hid (PzAt w1 w.heap.size (fun b => b = w.heap.size) zNil ∧ Below w.heap.size w w1) := Lib.hid (by rw [← hw1]; exact ⟨PzAt.new w, nb_alloc (Below.refl _ _) _⟩)
  clear hw1
  obtain ⟨p, hp⟩ : ∃ p, w.heap.size = p := ⟨_, rfl⟩
  rw [hp] at HI0 ⊢
  have HP := Lib.hid hp
  clear hp
  go_wp2
  go_loopw [11] (fun i wr => ∃ (t : Nat) (F : Nat → Prop), t ≤ n ∧ i = .int .i64 t ∧ Hid (PzAt wr p F (doneZ (zs.take t))) ∧ Hid (∀ b, F b → w.heap.size ≤ b) ∧ Hid (Below w.heap.size w wr)) (fun i _ => n - (intOf i).toNat)
  case atStart => exact ⟨0, _, by omega, rfl, Lib.hid HI0.out.1, Lib.hid (fun b e => by have := HP.out; omega), Lib.hid (by have := HI0.out.2; rw [← HP.out] at this; exact this)⟩
  case round =>
    obtain ⟨t, F, htn, rfl, hZ, hF, hB⟩ := hrel
    by_cases hlt : t < n
    · obtain ⟨bb, off, rfl, hbb, hck⟩ := HC.out t hlt
      obtain ⟨o, ho⟩ : ∃ o, zs.getD t opZ = o := ⟨_, rfl⟩
      have htl : t < zs.length := by rw [HN.out]; exact hlt
      have hcr : ∀ jj, jj < 16 → wr.cell? ⟨bb, off + t * 16 + jj, none⟩ = (elOp.enc o)[jj]? := fun jj hjj => by rw [hB.out.cell (p := ⟨bb, _, none⟩) hbb, ← ho]; exact hck jj hjj
      have c0 : wr.cell? ⟨bb, off + t * 16, none⟩ = some (.int .i64 o.d) := hcr 0 (by decide)
      have c1 : wr.cell? ⟨bb, off + t * 16 + 1, none⟩ = some (.int .i64 o.m) := hcr 1 (by decide)
      have c2 : wr.cell? ⟨bb, off + t * 16 + 2, none⟩ = some (.int .i64 (o.f 0)) := hcr 2 (by decide)
      have c3 : wr.cell? ⟨bb, off + t * 16 + 3, none⟩ = some (.int .i64 (o.f 1)) := hcr 3 (by decide)
      have c4 : wr.cell? ⟨bb, off + t * 16 + 4, none⟩ = some (.int .i64 (o.f 2)) := hcr 4 (by decide)
      have c5 : wr.cell? ⟨bb, off + t * 16 + 5, none⟩ = some (.int .i64 (o.f 3)) := hcr 5 (by decide)
      have c6 : wr.cell? ⟨bb, off + t * 16 + 6, none⟩ = some (.int .i64 (o.f 4)) := hcr 6 (by decide)
      have c7 : wr.cell? ⟨bb, off + t * 16 + 7, none⟩ = some (.int .i64 (o.f 5)) := hcr 7 (by decide)
      have c8 : wr.cell? ⟨bb, off + t * 16 + 8, none⟩ = some (.int .i64 (o.f 6)) := hcr 8 (by decide)
      have c9 : wr.cell? ⟨bb, off + t * 16 + 9, none⟩ = some (.int .i64 (o.f 7)) := hcr 9 (by decide)
      have c10 : wr.cell? ⟨bb, off + t * 16 + 10, none⟩ = some (.int .i64 o.a) := hcr 10 (by decide)
      have c11 : wr.cell? ⟨bb, off + t * 16 + 11, none⟩ = some (.int .i64 o.b) := hcr 11 (by decide)
      have c12 : wr.cell? ⟨bb, off + t * 16 + 12, none⟩ = some (.int .i64 o.ta) := hcr 12 (by decide)
      have c13 : wr.cell? ⟨bb, off + t * 16 + 13, none⟩ = some (.int .i64 o.tb) := hcr 13 (by decide)
      have c14 : wr.cell? ⟨bb, off + t * 16 + 14, none⟩ = some (.int .i64 o.k) := hcr 14 (by decide)
      have c15 : wr.cell? ⟨bb, off + t * 16 + 15, none⟩ = some (.int .i64 o.n) := hcr 15 (by decide)
      have HTK : Hid (doneZ (zs.take (t + 1)) = doZ (doneZ (zs.take t)) o) := Lib.hid (by rw [take_snocD zs t opZ htl, ho, doneZ_snoc])
      have HOP : Hid (OpOk o) := Lib.hid (HOS.out o (by rw [← ho]; exact memD htl))
      have hbw : bb < wr.heap.size := Nat.lt_of_lt_of_le hbb hB.out.size
      have HA : Hid (Below wr.heap.size wr (wr.alloc (.cells #[.int .i64 o.d, .int .i64 o.m, .int .i64 (o.f 0), .int .i64 (o.f 1), .int .i64 (o.f 2), .int .i64 (o.f 3), .int .i64 (o.f 4), .int .i64 (o.f 5), .int .i64 (o.f 6), .int .i64 (o.f 7), .int .i64 o.a, .int .i64 o.b, .int .i64 o.ta, .int .i64 o.tb, .int .i64 o.k, .int .i64 o.n] 40))) := Lib.hid (nb_alloc (Below.refl _ _) _)
      clear hcr hck ho htl
      go_wp2_with fail
      generalize wr.alloc (.cells #[.int .i64 o.d, .int .i64 o.m, .int .i64 (o.f 0), .int .i64 (o.f 1), .int .i64 (o.f 2), .int .i64 (o.f 3), .int .i64 (o.f 4), .int .i64 (o.f 5), .int .i64 (o.f 6), .int .i64 (o.f 7), .int .i64 o.a, .int .i64 o.b, .int .i64 o.ta, .int .i64 o.tb, .int .i64 o.k, .int .i64 o.n] 40) = A at *
      clear c0 c1 c2 c3 c4 c5 c6 c7 c8 c9 c10 c11 c12 c13 c14 c15
      refine (zooDo_any p F (doneZ (zs.take t)) o _ (hZ.out.later HA.out) (ZOk.done _) HOP.out).mono ?_
      rintro e w5 hp
      have hp2 := hp.from HA.out
      clear hp
      obtain ⟨rfl, F5, hz5, hk5, hm5⟩ := hp2
      have HNX : Hid (PzAt w5 p F5 (doneZ (zs.take (t + 1))) ∧ (∀ b, F5 b → w.heap.size ≤ b) ∧ Below w.heap.size w w5) := Lib.hid ⟨by rw [HTK.out]; exact hz5, hm5.above hB.out.size hF.out, hB.out.trans (hk5.below hB.out.size hF.out)⟩
      clear hz5 hk5 hm5
      go_wp2
      go_roundw
      case rel => exact ⟨t + 1, F5, by omega, by go_num, Lib.hid HNX.out.1, Lib.hid HNX.out.2.1, Lib.hid HNX.out.2.2⟩
      case measure => simp [intOf]; omega
    · obtain rfl : n = t := by omega
      have HE : Hid (DonePost w zs (.returned (.pointer (some ⟨p, 0, none⟩))) wr) := Lib.hid ⟨p, F, rfl, by have := hZ.out; rwa [List.take_of_length_le (by rw [HN.out]; exact Nat.le_refl _)] at this, hF.out, hB.out⟩
      go_wp2
      go_ret
      exact HE.out
end Go.Proofs.YtbdkmmbhblpjoaaGreat

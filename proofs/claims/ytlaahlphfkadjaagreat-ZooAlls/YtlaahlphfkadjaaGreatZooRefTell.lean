
/- State of the reference's zoo. -/
import Derived.Test.YtlaahlphfkadjaaGreatZooOpsA
import Derived.Test.YtlaahlphfkadjaaGreatCopyInt
import Derived.Test.YtlaahlphfkadjaaGreatPZooTell
namespace Go.Proofs.YtlaahlphfkadjaaGreat
set_option maxRecDepth 8000
set_option maxRecDepth 8000
open Go.RowKit

/-- The three slices of a zoo that its state tells. -/
theorem ZfAt.slices {w : World} {q : Nat} {G : Nat → Prop} {s : Zs} (h : ZfAt w q G s) : ∃ vg vl vL vB, w.heap[q]? = some (.cells #[vg, vl, vL, vB] 33 (0, 0)) ∧ Owns elInt w 3 vg (gensL s.l) ∧ Owns elRow w 56 vL s.rows ∧ Owns elBond w 58 vB s.bs := by
  obtain ⟨G0, G1, vB, hz, -⟩ := h
  obtain ⟨c, vL, hzi⟩ := hz.zoo
  obtain ⟨vg, vl, hb, hg, -⟩ := hzi.slots
  exact ⟨vg, vl, vL, vB, hb, hg, hzi.own, hz.own⟩

set_option maxHeartbeats 4000000 in
theorem zfState (q : Nat) (G : Nat → Prop) (s : Zs) (w : World) (h : ZfAt w q G s) (ok : ZOk s) :
    Calls Tryz.prog 10 #[.pointer (some ⟨q, 0, none⟩)] w (StatePost w s) := by
  have hX : Below w.heap.size w (w.alloc (.cells #[.slice none 0 0, .slice none 0 0, .slice none 0 0] 40)) := nb_alloc (Below.refl _ _) _
  have hb0 : (w.alloc (.cells #[.slice none 0 0, .slice none 0 0, .slice none 0 0] 40)).heap[w.heap.size]? = some (.cells #[.slice none 0 0, .slice none 0 0, .slice none 0 0] 40) := heap_alloc_new _ _
  have hqw := h.lt q h.at_
  obtain ⟨vg, vl, vL, vB, hq, hg, hL, hB⟩ := (h.later hX).slices
  have HG := Lib.hid hg
  have HL := Lib.hid hL
  have HBB := Lib.hid hB
  obtain ⟨ga, gc, rfl, -⟩ := hg.reads
  obtain ⟨la, lc, rfl, -⟩ := hL.reads
  obtain ⟨hbs, hbr⟩ : (∃ ba bc, vB = .slice ba s.bs.length bc ∧ ((∃ g off, ba = some ⟨g, off, none⟩) ∨ (ba = none ∧ s.bs.length = 0 ∧ bc = 0))) ∧ True := by
    refine ⟨?_, trivial⟩
    rcases hB.form with ⟨rfl, e⟩ | ⟨g, cap, cur, rfl, _⟩
    · exact ⟨none, 0, by rw [e]; rfl, .inr ⟨rfl, by rw [e]; rfl, rfl⟩⟩
    · exact ⟨_, _, rfl, .inl ⟨g, 0, rfl⟩⟩
  obtain ⟨ba, bc, rfl, hbf⟩ := hbs
  have HBF := Lib.hid hbf
  have HX := Lib.hid hX
  have HOK := Lib.hid ok
  have HB0 := Lib.hid hb0
  have hl0 := (Array.getElem?_eq_some_iff.1 hb0).1
  have k0 : (w.alloc (.cells #[.slice none 0 0, .slice none 0 0, .slice none 0 0] 40)).cell? ⟨q, 0, none⟩ = some (.slice ga (gensL s.l).length gc) := (cell_of_row _ _ _ _ _ _ hq).trans rfl
  have k2 : (w.alloc (.cells #[.slice none 0 0, .slice none 0 0, .slice none 0 0] 40)).cell? ⟨q, 2, none⟩ = some (.slice la s.rows.length lc) := (cell_of_row _ _ _ _ _ _ hq).trans rfl
  have k3 : (w.alloc (.cells #[.slice none 0 0, .slice none 0 0, .slice none 0 0] 40)).cell? ⟨q, 3, none⟩ = some (.slice ba s.bs.length bc) := (cell_of_row _ _ _ _ _ _ hq).trans rfl
  have hql := (Array.getElem?_eq_some_iff.1 hq).1
  clear h hX ok hb0 hq hg hL hB hbr hbf
  go_enter Tryz.func10, Tryz.ntmps10
  go_wp2_with fail
  generalize (w.alloc (.cells #[.slice none 0 0, .slice none 0 0, .slice none 0 0] 40)) = X at *
  have HC0 : Hid (X.cell? ⟨q, 0, none⟩ = some (.slice ga (gensL s.l).length gc) ∧ X.cell? ⟨q, 2, none⟩ = some (.slice la s.rows.length lc) ∧ X.cell? ⟨q, 3, none⟩ = some (.slice ba s.bs.length bc)) := Lib.hid ⟨k0, k2, k3⟩
  have HKK : Hid (∀ Y, Below X.heap.size X Y → Y.cell? ⟨q, 0, none⟩ = some (.slice ga (gensL s.l).length gc) ∧ Y.cell? ⟨q, 2, none⟩ = some (.slice la s.rows.length lc) ∧ Y.cell? ⟨q, 3, none⟩ = some (.slice ba s.bs.length bc)) := Lib.hid (fun Y hY => ⟨(hY.cell (p := ⟨q, 0, none⟩) hql).trans HC0.out.1, (hY.cell (p := ⟨q, 2, none⟩) hql).trans HC0.out.2.1, (hY.cell (p := ⟨q, 3, none⟩) hql).trans HC0.out.2.2⟩)
  have HDR : Hid (Below X.heap.size X X.drew) := Lib.hid (Below.refl _ _).drew
  have hg60 : (gensL s.l).length ≤ 60 := by rw [gensL_len]; exact HOK.out.w.slots.len
  have hr60 : s.rows.length ≤ 60 := HOK.out.w.len60
  have hb60 : s.bs.length ≤ 60 := HOK.out.len
  go_region_held3 (fun x => (x.cell? ⟨q, 0, none⟩ = some (.slice ga (gensL s.l).length gc) ∧ x.cell? ⟨q, 2, none⟩ = some (.slice la s.rows.length lc) ∧ x.cell? ⟨q, 3, none⟩ = some (.slice ba s.bs.length bc))) (first | go_keep | exact HKK.out _ HX1.out | exact HKK.out _ HX2.out | exact HKK.out _ HX3.out | exact HKS.out _ _ _) (first
    | ((go_at_call 26; refine (copyInt_any _ (gensL s.l) _ (Ints.ofReads (HG.out.reads.later HDR.out)) (by omega)).mono ?_; rintro e x1 ⟨v1, rfl, ho1, hx1⟩; have HO1 := Lib.hid ho1; have HX1 : Hid (Below X.heap.size X x1) := Lib.hid (nb_trans HDR.out hx1); obtain ⟨va, vc, hve, -⟩ := ho1.reads; clear hx1 ho1; subst hve))
    | ((go_at_call 27; refine (copyRow_any _ s.rows _ (HL.out.kept (F := fun _ => False) (Kept.ofBelow HX1.out) (fun _ _ => id)) (by omega)).mono ?_; rintro e x2 ⟨v2, rfl, ho2, hx2⟩; have HO2 := Lib.hid ho2; have HX12 := Lib.hid hx2; have HX2 : Hid (Below X.heap.size X x2) := Lib.hid (nb_trans HX1.out hx2); obtain ⟨vd, ve, hve, -⟩ := ho2.reads; clear hx2 ho2; subst hve))
    | ((go_at_call 28; refine (copyBond_any ba s.bs.length bc s.bs _ (HBB.out.reads.later HX2.out) (by omega) HBF.out).mono ?_; rintro e x3 ⟨v3, rfl, ho3, hx3⟩; have HO3 := Lib.hid ho3; have HX23 := Lib.hid hx3; have HX3 : Hid (Below X.heap.size X x3) := Lib.hid (nb_trans HX2.out hx3); obtain ⟨vf, vh, hve, -⟩ := ho3.reads; have hqx : x3.heap[w.heap.size]? = some (.cells #[.slice none 0 0, .slice none 0 0, .slice none 0 0] 40) := (HX3.out.block _ hl0).trans HB0.out; have fz : ∀ j, x3.frozen? ⟨w.heap.size, j, none⟩ = false := fun j => frozen_of_row _ _ _ _ _ hqx; have kz0 : x3.cell? ⟨w.heap.size, 0, none⟩ = some (.slice none 0 0) := (cell_of_row _ _ _ _ _ _ hqx).trans rfl; have kz1 : x3.cell? ⟨w.heap.size, 1, none⟩ = some (.slice none 0 0) := (cell_of_row _ _ _ _ _ _ hqx).trans rfl; have kz2 : x3.cell? ⟨w.heap.size, 2, none⟩ = some (.slice none 0 0) := (cell_of_row _ _ _ _ _ _ hqx).trans rfl; have hl2 : w.heap.size < x3.heap.size := (Array.getElem?_eq_some_iff.1 hqx).1; have HKS : Hid (∀ y0 y1 y2, (((x3.setCell ⟨w.heap.size, 0, none⟩ y0).setCell ⟨w.heap.size, 1, none⟩ y1).setCell ⟨w.heap.size, 2, none⟩ y2).cell? ⟨q, 0, none⟩ = some (.slice ga (gensL s.l).length gc) ∧ (((x3.setCell ⟨w.heap.size, 0, none⟩ y0).setCell ⟨w.heap.size, 1, none⟩ y1).setCell ⟨w.heap.size, 2, none⟩ y2).cell? ⟨q, 2, none⟩ = some (.slice la s.rows.length lc) ∧ (((x3.setCell ⟨w.heap.size, 0, none⟩ y0).setCell ⟨w.heap.size, 1, none⟩ y1).setCell ⟨w.heap.size, 2, none⟩ y2).cell? ⟨q, 3, none⟩ = some (.slice ba s.bs.length bc)) := Lib.hid (fun y0 y1 y2 => by (have hk : Kept (fun b => b = w.heap.size) x3 (((x3.setCell ⟨w.heap.size, 0, none⟩ y0).setCell ⟨w.heap.size, 1, none⟩ y1).setCell ⟨w.heap.size, 2, none⟩ y2) := ((Kept.setCell (F := fun b => b = w.heap.size) x3 (p := ⟨w.heap.size, 0, none⟩) rfl _).trans (Kept.setCell (F := fun b => b = w.heap.size) _ (p := ⟨w.heap.size, 1, none⟩) rfl _) (fun _ h => .inl h)).trans (Kept.setCell (F := fun b => b = w.heap.size) _ (p := ⟨w.heap.size, 2, none⟩) rfl _) (fun _ h => .inl h); have h3 := HKK.out x3 HX3.out; exact ⟨hk.cellS h3.1 (by show ¬ q = w.heap.size; omega), hk.cellS h3.2.1 (by show ¬ q = w.heap.size; omega), hk.cellS h3.2.2 (by show ¬ q = w.heap.size; omega)⟩)); clear hx3 ho3 hqx; subst hve)))
  have HEND : Hid (∀ y0 y1 y2, StIs (((x3.setCell ⟨w.heap.size, 0, none⟩ y0).setCell ⟨w.heap.size, 1, none⟩ y1).setCell ⟨w.heap.size, 2, none⟩ y2) w.heap.size (.slice va (gensL s.l).length vc) (.slice vd s.rows.length ve) (.slice vf s.bs.length vh) s ∧ Below w.heap.size w (((x3.setCell ⟨w.heap.size, 0, none⟩ y0).setCell ⟨w.heap.size, 1, none⟩ y1).setCell ⟨w.heap.size, 2, none⟩ y2)) := Lib.hid (fun y0 y1 y2 => by
    have hb : Below w.heap.size w x3 := nb_trans HX.out HX3.out
    have hk : Kept (fun b => b = w.heap.size) x3 (((x3.setCell ⟨w.heap.size, 0, none⟩ y0).setCell ⟨w.heap.size, 1, none⟩ y1).setCell ⟨w.heap.size, 2, none⟩ y2) := ((Kept.setCell (F := fun b => b = w.heap.size) x3 (p := ⟨w.heap.size, 0, none⟩) rfl _).trans (Kept.setCell (F := fun b => b = w.heap.size) _ (p := ⟨w.heap.size, 1, none⟩) rfl _) (fun _ h => .inl h)).trans (Kept.setCell (F := fun b => b = w.heap.size) _ (p := ⟨w.heap.size, 2, none⟩) rfl _) (fun _ h => .inl h)
    have h1 := HDR.out.size
    have h2 := HX1.out.size
    have h3 := HX2.out.size
    have hx3 : StIs x3 X.heap.size (.slice va (gensL s.l).length vc) (.slice vd s.rows.length ve) (.slice vf s.bs.length vh) s := ⟨(HO1.out.later (nb_trans HX12.out HX23.out)).weaken h1, (HO2.out.later HX23.out).weaken h2, HO3.out.weaken h3⟩
    exact ⟨(hx3.kept hk (fun b hb _ e => by omega)).weaken HX.out.size, hb.trans (hk.below hb.size (fun b e => by omega))⟩)
  go_wp2
  refine bodyPost_ret (v := .agg #[.slice va (gensL s.l).length vc, .slice vd s.rows.length ve, .slice vf s.bs.length vh]) (by simp [results, Tryz.results10, go_sem, kz0, kz1, kz2]) rfl ⟨_, _, _, rfl, (HEND.out _ _ _).1, (HEND.out _ _ _).2⟩
end Go.Proofs.YtlaahlphfkadjaaGreat

/- A state is parsed as it was printed; what is parsed is printed so: the statement TextBack. -/
import Derived.Test.YtndhomjfjhohoaaGreatDoorTextSame
import Derived.Test.YtndhomjfjhohoaaGreatDoorPTold
import Derived.Test.YtndhomjfjhohoaaGreatDoorCardKit
import Derived.Test.YtndhomjfjhohoaaGreatDoorTextOpen
namespace Go.Proofs.YtndhomjfjhohoaaGreatDoor
set_option maxRecDepth 8000
open Go Go.ChangeShapes Go.WideShapes Go.ChangeAt Go.RowKit
set_option linter.unusedVariables false

theorem SttIs.cells {w : World} {B : Nat} {vg vr vb : Value} {s : Stt} (h : SttIs w B vg vr vb s) : ∃ ga gl gc ra rl rc ba bl bc, vg = .slice ga gl gc ∧ vr = .slice ra rl rc ∧ vb = .slice ba bl bc := by
  obtain ⟨ga3, gc3, hge, -⟩ := h.g.reads
  obtain ⟨ra3, rc3, hre, -⟩ := h.r.reads
  obtain ⟨ba3, bc3, hbe, -⟩ := h.b.reads
  exact ⟨_, _, _, _, _, _, _, _, _, hge, hre, hbe⟩
theorem sameStt_any {w : World} {B B' : Nat} {ug ur ub vg vr vb : Value} {s : Stt} (h : SttIs w B ug ur ub s) (h' : SttIs w B' vg vr vb s) :
    Calls Tryz.prog 12 #[.agg #[ug, ur, ub], .agg #[vg, vr, vb]] w fun e w' => e = .returned (.bool true) ∧ Below w.heap.size w w' :=
  same_any _ _ _ _ _ _ s.g s.r s.b w h.g.reads h.r.reads h.b.reads h'.g.reads h'.r.reads h'.b.reads

set_option maxRecDepth 100000 in
set_option maxHeartbeats 8000000 in
theorem textBack_walk (ug0 ur0 ub0 : Value) (zg0 : List Int) (zr0 : List Rw) (zb0 : List Bd) (l1 : List UInt8) (i1 : l1.length ≤ maxLen) (w : World) (hv : VarsIs w) (ig0 : Ints w ug0 zg0) (ir0 : Reads elRow w ur0 zr0) (ib0 : Reads elBond w ub0 zb0) :
    Calls Tryz.prog 5 #[.agg #[ug0, ur0, ub0], .string (bs l1)] w fun e w' => e = .returned (.bool true) ∧ Below w.heap.size w w' := by
  have HIG := Lib.hid ig0
  have HIR := Lib.hid ir0
  have HIB := Lib.hid ib0
  obtain ⟨ga, gl, gc, hge⟩ : ∃ a k c, ug0 = .slice a k c := by obtain ⟨a, c, e, _⟩ := ig0; exact ⟨_, _, _, e⟩
  obtain ⟨ra, rl, rc, hre⟩ : ∃ a k c, ur0 = .slice a k c := by obtain ⟨a, c, e, _⟩ := ir0; exact ⟨_, _, _, e⟩
  obtain ⟨ba, bl, bc, hbe⟩ : ∃ a k c, ub0 = .slice a k c := by obtain ⟨a, c, e, _⟩ := ib0; exact ⟨_, _, _, e⟩
  have hX : Below w.heap.size w (w.alloc (.cells #[ug0, ur0, ub0] 26)) := nb_alloc (Below.refl _ _) _
  have hxb : (w.alloc (.cells #[ug0, ur0, ub0] 26)).heap[w.heap.size]? = some (.cells #[ug0, ur0, ub0] 26) := heap_alloc_new _ _
  have HX := Lib.hid hX
  have HXB := Lib.hid hxb
  have HV := Lib.hid hv
  have HTL := Lib.hid (told_any _ (hv.later hX))
  have HI1 := Lib.hid i1
  unfold maxLen at i1
  clear hX hxb hv ig0 ir0 ib0
  subst hge hre hbe
  go_enter Tryz.func5, Tryz.ntmps5
  go_wp2_with (go_at_call 13; refine HTL.out.mono ?_; rintro e W1 ⟨rfl, hb1⟩; refine Hid.out ?_)
  refine Lib.hid ?_
  have HB1 := Lib.hid (nb_trans HX.out hb1)
  have hq1 := (hb1.block _ (Array.getElem?_eq_some_iff.1 HXB.out).1).trans HXB.out
  have HP := Lib.hid (print_any _ _ _ zg0 zr0 zb0 W1 (HIG.out.later HB1.out) (HIR.out.later HB1.out) (HIB.out.later HB1.out) (HV.out.later HB1.out))
  have c0 : W1.cell? ⟨w.heap.size, 0, none⟩ = some (.slice ga gl gc) := by rw [cell_of_row _ _ _ _ _ _ hq1]; rfl
  have c1 : W1.cell? ⟨w.heap.size, 1, none⟩ = some (.slice ra rl rc) := by rw [cell_of_row _ _ _ _ _ _ hq1]; rfl
  have c2 : W1.cell? ⟨w.heap.size, 2, none⟩ = some (.slice ba bl bc) := by rw [cell_of_row _ _ _ _ _ _ hq1]; rfl
  have hpl : w.heap.size < W1.heap.size := (Array.getElem?_eq_some_iff.1 hq1).1
  have HQ1 := Lib.hid hq1
  clear hb1 hq1 HTL
  go_wp2_with (go_at_call 8; refine HP.out.mono ?_; rintro e W2 ⟨rfl, hb2⟩; refine Hid.out ?_)
  refine Lib.hid ?_
  have HB2 := Lib.hid (nb_trans HB1.out hb2)
  have hq2 := (hb2.block _ (Array.getElem?_eq_some_iff.1 HQ1.out).1).trans HQ1.out
  have HQ2 := Lib.hid hq2
  clear c0 c1 c2 hb2 hq2 hpl HP
  obtain ⟨z, hz⟩ : ∃ z, prE zg0 zr0 zb0 = z := ⟨_, rfl⟩
  have HZ := Lib.hid hz
  by_cases hz0 : z = 0
  · subst hz0
    have HT : Hid (prT zg0 zr0 zb0 = textT zg0 zr0 zb0) := Lib.hid (by rw [prT, if_pos hz])
    have HFN := Lib.hid (Fine.of (prE_load hz).1).1
    have HTLn := Lib.hid (text_len (prE_load hz).1)
    rw [HT.out, hz]
    have HPA := Lib.hid (parse_any (textT zg0 zr0 zb0) W2 (by have := HTLn.out; omega) (HV.out.later HB2.out))
    obtain ⟨z2, hz2⟩ : ∃ z, paE (textT zg0 zr0 zb0) = z := ⟨_, rfl⟩
    have HZ2 := Lib.hid hz2
    unfold ParsePost at HPA
    rw [hz2] at HPA
    have hbsz : (bs (textT zg0 zr0 zb0)).size = (textT zg0 zr0 zb0).length := bs_size _
    obtain ⟨n, hn⟩ : ∃ n, (textT zg0 zr0 zb0).length = n := ⟨_, rfl⟩
    have HN := Lib.hid hn
    rw [hn] at hbsz
    obtain ⟨s2, hs2⟩ : ∃ s, paS (textT zg0 zr0 zb0) = s := ⟨_, rfl⟩
    have HPT : Hid (n ≤ 6000 → z2 = 0 ∧ s2 = ⟨zg0, zr0.map nR, zb0⟩) := Lib.hid (fun h => by
      have := paE_text hz (by rw [hn]; exact h)
      exact ⟨hz2.symm.trans this.1, hs2.symm.trans this.2⟩)
    rw [hs2] at HPA
    clear hz2 hn hz HT hs2
    generalize textT zg0 zr0 zb0 = t at *
    go_wp2_with (go_at_call 10; refine HPA.out.mono ?_; rintro e W3 ⟨vg, vr, vb, rfl, hst, hb3⟩; refine Hid.out ?_)
    refine Lib.hid ?_
    obtain ⟨ga3, gl3, gc3, ra3, rl3, rc3, ba3, bl3, bc3, rfl, rfl, rfl⟩ := hst.cells
    have HB3 := Lib.hid (nb_trans HB2.out hb3)
    have HQ3 := Lib.hid ((hb3.block _ (Array.getElem?_eq_some_iff.1 HQ2.out).1).trans HQ2.out)
    have HST3 := Lib.hid hst
    clear hst hb3
    have HB4 := Lib.hid (nb_alloc HB3.out (.cells #[.slice ga3 gl3 gc3, .slice ra3 rl3 rc3, .slice ba3 bl3 bc3] 26))
    by_cases h6 : n ≤ 6000
    · obtain ⟨rfl, rfl⟩ := HPT.out h6
      have hq4 := heap_alloc_older (o := .cells #[.slice ga3 gl3 gc3, .slice ra3 rl3 rc3, .slice ba3 bl3 bc3] 26) HQ3.out
      have ha4 := heap_alloc_new W3 (.cells #[.slice ga3 gl3 gc3, .slice ra3 rl3 rc3, .slice ba3 bl3 bc3] 26)
      have hst4 := HST3.out.later (nb_alloc (Below.refl _ _) (.cells #[.slice ga3 gl3 gc3, .slice ra3 rl3 rc3, .slice ba3 bl3 bc3] 26))
      have HSM := Lib.hid (same_any _ _ _ _ _ _ zg0 zr0 zb0 _ hst4.g.reads (hst4.r.reads.nR HFN.out.ri) hst4.b.reads (Reads.ofInts (HIG.out.later HB4.out)) (HIR.out.later HB4.out) (HIB.out.later HB4.out))
      have HQ4 := Lib.hid hq4
      have HA4 := Lib.hid ha4
      clear hq4 ha4 hst4
      generalize hW4 : (W3.alloc (.cells #[.slice ga3 gl3 gc3, .slice ra3 rl3 rc3, .slice ba3 bl3 bc3] 26)) = W4 at *
      have HW4 := Lib.hid hW4
      have c0 : W4.cell? ⟨w.heap.size, 0, none⟩ = some (.slice ga gl gc) := by rw [cell_of_row _ _ _ _ _ _ HQ4.out]; rfl
      have c1 : W4.cell? ⟨w.heap.size, 1, none⟩ = some (.slice ra rl rc) := by rw [cell_of_row _ _ _ _ _ _ HQ4.out]; rfl
      have c2 : W4.cell? ⟨w.heap.size, 2, none⟩ = some (.slice ba bl bc) := by rw [cell_of_row _ _ _ _ _ _ HQ4.out]; rfl
      have hpl : w.heap.size < W4.heap.size := (Array.getElem?_eq_some_iff.1 HQ4.out).1
      have d0 : W4.cell? ⟨W3.heap.size, 0, none⟩ = some (.slice ga3 gl3 gc3) := by rw [cell_of_row _ _ _ _ _ _ HA4.out]; rfl
      have d1 : W4.cell? ⟨W3.heap.size, 1, none⟩ = some (.slice ra3 rl3 rc3) := by rw [cell_of_row _ _ _ _ _ _ HA4.out]; rfl
      have d2 : W4.cell? ⟨W3.heap.size, 2, none⟩ = some (.slice ba3 bl3 bc3) := by rw [cell_of_row _ _ _ _ _ _ HA4.out]; rfl
      have hpl4 : W3.heap.size < W4.heap.size := (Array.getElem?_eq_some_iff.1 HA4.out).1
      subst hW4
      go_wp2_with (go_at_call 12; refine HSM.out.mono ?_; rintro e V ⟨rfl, hbv⟩; refine Hid.out ?_)
      refine Lib.hid ?_
      have HBV := Lib.hid (nb_trans HB4.out hbv)
      clear c0 c1 c2 d0 d1 d2 hpl hpl4 hbv HSM HB1 HB2 HB3 HB4 HQ1 HQ2 HQ3 HQ4 HA4
      have HP2 := Lib.hid (parse_any l1 V (by omega) (HV.out.later HBV.out))
      unfold ParsePost at HP2
      obtain ⟨z3, hz3⟩ : ∃ z, paE l1 = z := ⟨_, rfl⟩
      have HZ3 := Lib.hid hz3
      obtain ⟨s3, hs3⟩ : ∃ s, paS l1 = s := ⟨_, rfl⟩
      have HS3 := Lib.hid hs3
      rw [hz3, hs3] at HP2
      clear hz3 hs3
      go_wp2_with (go_at_call 10; refine HP2.out.mono ?_; rintro e V2 ⟨vg, vr, vb, rfl, hst, hb⟩; refine Hid.out ?_)
      refine Lib.hid ?_
      obtain ⟨xa, xl, xc, ya, yl, yc, ta, tl, tc, rfl, rfl, rfl⟩ := hst.cells
      have hb3 := nb_alloc hb (.cells #[.slice xa xl xc, .slice ya yl yc, .slice ta tl tc] 26)
      have HB3 := Lib.hid (nb_trans HBV.out hb3)
      have hst3 := hst.later (nb_alloc (Below.refl _ _) (.cells #[.slice xa xl xc, .slice ya yl yc, .slice ta tl tc] 26))
      have HA := Lib.hid (heap_alloc_new V2 (.cells #[.slice xa xl xc, .slice ya yl yc, .slice ta tl tc] 26))
      have HST3 := Lib.hid hst3
      have HP3 := Lib.hid (print_any _ _ _ s3.g s3.r s3.b _ (Ints.ofReads hst3.g.reads) hst3.r.reads hst3.b.reads (HV.out.later HB3.out))
      clear hst hb hb3 hst3
      go_wp2_with (go_at_call 8; refine HP3.out.mono ?_; rintro e V4 ⟨rfl, hb4⟩; refine Hid.out ?_)
      refine Lib.hid ?_
      generalize (V2.alloc (.cells #[.slice xa xl xc, .slice ya yl yc, .slice ta tl tc] 26)) = V3 at *
      generalize V2.heap.size = p at *
      have HB4 := Lib.hid (nb_trans HB3.out hb4)
      have ha4 := (hb4.block _ (Array.getElem?_eq_some_iff.1 HA.out).1).trans HA.out
      have HST4 := Lib.hid (HST3.out.later hb4)
      have hpl4 : p < V4.heap.size := (Array.getElem?_eq_some_iff.1 ha4).1
      have d0 : V4.cell? ⟨p, 0, none⟩ = some (.slice xa xl xc) := by rw [cell_of_row _ _ _ _ _ _ ha4]; rfl
      have d1 : V4.cell? ⟨p, 1, none⟩ = some (.slice ya yl yc) := by rw [cell_of_row _ _ _ _ _ _ ha4]; rfl
      have d2 : V4.cell? ⟨p, 2, none⟩ = some (.slice ta tl tc) := by rw [cell_of_row _ _ _ _ _ _ ha4]; rfl
      clear hb4 ha4 HP3
      by_cases h30 : z3 = 0
      · subst h30
        obtain ⟨-, e2, e3⟩ := paE_zero HZ3.out
        rw [HS3.out] at e2 e3
        rw [show prT s3.g s3.r s3.b = l1 from (if_pos e2).trans e3, e2]
        clear e2 e3
        go_wp2
        go_ret
        exact ⟨rfl, HB4.out⟩
      · have HSZ : Hid (s3 = sttZ) := Lib.hid (HS3.out.symm.trans (by rw [paS, if_neg (by rw [HZ3.out]; exact h30)]))
        have HSM := Lib.hid (sameStt_any (HSZ.out ▸ HST4.out) (SttIs.zero V4 0))
        generalize prT s3.g s3.r s3.b = tt at *
        generalize prE s3.g s3.r s3.b = z4 at *
        go_wp2_with (go_at_call 12; refine HSM.out.mono ?_; rintro e V5 ⟨rfl, hb5⟩; refine Hid.out ?_)
        refine Lib.hid ?_
        go_wp2
        go_ret
        exact ⟨rfl, nb_trans HB4.out hb5⟩
    · go_wp2_with fail
      have HBV := HB4
      generalize (W3.alloc (.cells #[.slice ga3 gl3 gc3, .slice ra3 rl3 rc3, .slice ba3 bl3 bc3] 26)) = V at *
      clear HB1 HB2 HB3 HB4 HQ1 HQ2 HQ3
      have HP2 := Lib.hid (parse_any l1 V (by omega) (HV.out.later HBV.out))
      unfold ParsePost at HP2
      obtain ⟨z3, hz3⟩ : ∃ z, paE l1 = z := ⟨_, rfl⟩
      have HZ3 := Lib.hid hz3
      obtain ⟨s3, hs3⟩ : ∃ s, paS l1 = s := ⟨_, rfl⟩
      have HS3 := Lib.hid hs3
      rw [hz3, hs3] at HP2
      clear hz3 hs3
      go_wp2_with (go_at_call 10; refine HP2.out.mono ?_; rintro e V2 ⟨vg, vr, vb, rfl, hst, hb⟩; refine Hid.out ?_)
      refine Lib.hid ?_
      obtain ⟨xa, xl, xc, ya, yl, yc, ta, tl, tc, rfl, rfl, rfl⟩ := hst.cells
      have hb3 := nb_alloc hb (.cells #[.slice xa xl xc, .slice ya yl yc, .slice ta tl tc] 26)
      have HB3 := Lib.hid (nb_trans HBV.out hb3)
      have hst3 := hst.later (nb_alloc (Below.refl _ _) (.cells #[.slice xa xl xc, .slice ya yl yc, .slice ta tl tc] 26))
      have HA := Lib.hid (heap_alloc_new V2 (.cells #[.slice xa xl xc, .slice ya yl yc, .slice ta tl tc] 26))
      have HST3 := Lib.hid hst3
      have HP3 := Lib.hid (print_any _ _ _ s3.g s3.r s3.b _ (Ints.ofReads hst3.g.reads) hst3.r.reads hst3.b.reads (HV.out.later HB3.out))
      clear hst hb hb3 hst3
      go_wp2_with (go_at_call 8; refine HP3.out.mono ?_; rintro e V4 ⟨rfl, hb4⟩; refine Hid.out ?_)
      refine Lib.hid ?_
      generalize (V2.alloc (.cells #[.slice xa xl xc, .slice ya yl yc, .slice ta tl tc] 26)) = V3 at *
      generalize V2.heap.size = p at *
      have HB4 := Lib.hid (nb_trans HB3.out hb4)
      have ha4 := (hb4.block _ (Array.getElem?_eq_some_iff.1 HA.out).1).trans HA.out
      have HST4 := Lib.hid (HST3.out.later hb4)
      have hpl4 : p < V4.heap.size := (Array.getElem?_eq_some_iff.1 ha4).1
      have d0 : V4.cell? ⟨p, 0, none⟩ = some (.slice xa xl xc) := by rw [cell_of_row _ _ _ _ _ _ ha4]; rfl
      have d1 : V4.cell? ⟨p, 1, none⟩ = some (.slice ya yl yc) := by rw [cell_of_row _ _ _ _ _ _ ha4]; rfl
      have d2 : V4.cell? ⟨p, 2, none⟩ = some (.slice ta tl tc) := by rw [cell_of_row _ _ _ _ _ _ ha4]; rfl
      clear hb4 ha4 HP3
      by_cases h30 : z3 = 0
      · subst h30
        obtain ⟨-, e2, e3⟩ := paE_zero HZ3.out
        rw [HS3.out] at e2 e3
        rw [show prT s3.g s3.r s3.b = l1 from (if_pos e2).trans e3, e2]
        clear e2 e3
        go_wp2
        go_ret
        exact ⟨rfl, HB4.out⟩
      · have HSZ : Hid (s3 = sttZ) := Lib.hid (HS3.out.symm.trans (by rw [paS, if_neg (by rw [HZ3.out]; exact h30)]))
        have HSM := Lib.hid (sameStt_any (HSZ.out ▸ HST4.out) (SttIs.zero V4 0))
        generalize prT s3.g s3.r s3.b = tt at *
        generalize prE s3.g s3.r s3.b = z4 at *
        go_wp2_with (go_at_call 12; refine HSM.out.mono ?_; rintro e V5 ⟨rfl, hb5⟩; refine Hid.out ?_)
        refine Lib.hid ?_
        go_wp2
        go_ret
        exact ⟨rfl, nb_trans HB4.out hb5⟩
  · have HT : Hid (prT zg0 zr0 zb0 = []) := Lib.hid (by rw [prT, if_neg (fun h => hz0 (hz.symm.trans h))])
    rw [HT.out, hz]
    clear hz HT
    have HBV := HB2
    generalize W2 = V at *
    clear HB1 HB2 HQ1 HQ2
    have HP2 := Lib.hid (parse_any l1 V (by omega) (HV.out.later HBV.out))
    unfold ParsePost at HP2
    obtain ⟨z3, hz3⟩ : ∃ z, paE l1 = z := ⟨_, rfl⟩
    have HZ3 := Lib.hid hz3
    obtain ⟨s3, hs3⟩ : ∃ s, paS l1 = s := ⟨_, rfl⟩
    have HS3 := Lib.hid hs3
    rw [hz3, hs3] at HP2
    clear hz3 hs3
    go_wp2_with (go_at_call 10; refine HP2.out.mono ?_; rintro e V2 ⟨vg, vr, vb, rfl, hst, hb⟩; refine Hid.out ?_)
    refine Lib.hid ?_
    obtain ⟨xa, xl, xc, ya, yl, yc, ta, tl, tc, rfl, rfl, rfl⟩ := hst.cells
    have hb3 := nb_alloc hb (.cells #[.slice xa xl xc, .slice ya yl yc, .slice ta tl tc] 26)
    have HB3 := Lib.hid (nb_trans HBV.out hb3)
    have hst3 := hst.later (nb_alloc (Below.refl _ _) (.cells #[.slice xa xl xc, .slice ya yl yc, .slice ta tl tc] 26))
    have HA := Lib.hid (heap_alloc_new V2 (.cells #[.slice xa xl xc, .slice ya yl yc, .slice ta tl tc] 26))
    have HST3 := Lib.hid hst3
    have HP3 := Lib.hid (print_any _ _ _ s3.g s3.r s3.b _ (Ints.ofReads hst3.g.reads) hst3.r.reads hst3.b.reads (HV.out.later HB3.out))
    clear hst hb hb3 hst3
    go_wp2_with (go_at_call 8; refine HP3.out.mono ?_; rintro e V4 ⟨rfl, hb4⟩; refine Hid.out ?_)
    refine Lib.hid ?_
    generalize (V2.alloc (.cells #[.slice xa xl xc, .slice ya yl yc, .slice ta tl tc] 26)) = V3 at *
    generalize V2.heap.size = p at *
    have HB4 := Lib.hid (nb_trans HB3.out hb4)
    have ha4 := (hb4.block _ (Array.getElem?_eq_some_iff.1 HA.out).1).trans HA.out
    have HST4 := Lib.hid (HST3.out.later hb4)
    have hpl4 : p < V4.heap.size := (Array.getElem?_eq_some_iff.1 ha4).1
    have d0 : V4.cell? ⟨p, 0, none⟩ = some (.slice xa xl xc) := by rw [cell_of_row _ _ _ _ _ _ ha4]; rfl
    have d1 : V4.cell? ⟨p, 1, none⟩ = some (.slice ya yl yc) := by rw [cell_of_row _ _ _ _ _ _ ha4]; rfl
    have d2 : V4.cell? ⟨p, 2, none⟩ = some (.slice ta tl tc) := by rw [cell_of_row _ _ _ _ _ _ ha4]; rfl
    clear hb4 ha4 HP3
    by_cases h30 : z3 = 0
    · subst h30
      obtain ⟨-, e2, e3⟩ := paE_zero HZ3.out
      rw [HS3.out] at e2 e3
      rw [show prT s3.g s3.r s3.b = l1 from (if_pos e2).trans e3, e2]
      clear e2 e3
      go_wp2
      go_ret
      exact ⟨rfl, HB4.out⟩
    · have HSZ : Hid (s3 = sttZ) := Lib.hid (HS3.out.symm.trans (by rw [paS, if_neg (by rw [HZ3.out]; exact h30)]))
      have HSM := Lib.hid (sameStt_any (HSZ.out ▸ HST4.out) (SttIs.zero V4 0))
      generalize prT s3.g s3.r s3.b = tt at *
      generalize prE s3.g s3.r s3.b = z4 at *
      go_wp2_with (go_at_call 12; refine HSM.out.mono ?_; rintro e V5 ⟨rfl, hb5⟩; refine Hid.out ?_)
      refine Lib.hid ?_
      go_wp2
      go_ret
      exact ⟨rfl, nb_trans HB4.out hb5⟩
namespace textBack
theorem own : ownKnob Tryz.prog.godebug = none := by kernel_rfl
theorem laidOut : laidOutB Tryz.prog = true := by kernel_rfl

set_option maxRecDepth 100000 in
set_option maxHeartbeats 4000000 in
theorem lifted (os : Os) (started : os.Started) (H : Type) (enc : TypeId × Value → H) :
    ReturnsInHanded {} Tryz.checked os 5 .any (fun w args => (Rows.textBackSpec.pre enc Tryz.prog Tryz.f5 Rows.textBackRow.domain false w args ∧ laidMetH Tryz.prog Rows.textBackRow.laid w) ∧ sizedMet enc Tryz.prog Tryz.f5 (OpenSpec.ofChange Rows.textBackSpec) false w args)
      (Rows.textBackSpec.post enc Tryz.prog Tryz.f5 false true false false) := by
  refine returnsInHanded_laid_shaped (C := Tryz.checked) (X := fun w _ => laidMetH Tryz.prog Rows.textBackRow.laid w) (fun _ _ _ hh h => h.of_heap hh) own started (by kernel_rfl) Tryz.func5
    (ChangeSpec.witness_shaped (enc := enc) (C := Tryz.checked) (os := os) (X := fun w _ => laidMetH Tryz.prog Rows.textBackRow.laid w) false (World.laidAll Tryz.prog os Rows.textBackRow.laid) #[.agg #[.slice none 0 0, .slice none 0 0, .slice none 0 0], .string ⟨#[]⟩] 8 (World.laidAll_os _ _ _)
      (World.shaped_of_ZipB (by kernel_rfl) (by kernel_rfl)) (by kernel_rfl) (by kernel_rfl) (by kernel_rfl)
      (by rw [MakeChecks.laidMetH_plain _ _ _ (by kernel_rfl)]; exact laidMet_laidAll _ (by kernel_rfl) (by kernel_rfl))) ?_
  intro W base args ds gs before hval0 hW hcnd hsz hlaid hshape
  have hval : ∀ (j : Nat) t v, Tryz.f5.params[j]? = some t → args[j]? = some v → Value.okWide Tryz.prog W .any base t v := hval0
  have hW' := hW
  obtain ⟨p, q, hA0, hV, rfl, hfz, hnd⟩ := hW
  have hA : DataW.TrodAll enc Tryz.prog W 0 (fun _ => true) true Tryz.f5.params.toList args.toList ds p := hA0
  rw [Tryz.params5] at hA hval
  obtain ⟨v0, vs0, d0, ds0, p0, q0, hargs, rfl, rfl, h0, r0⟩ := trodAll_cons hA
  obtain ⟨v1, vs1, d1, ds1, p1, q1, rfl, rfl, rfl, h1, r1⟩ := trodAll_cons r0
  obtain ⟨rfl, rfl, rfl⟩ := trodAll_nil r1
  obtain rfl : args = #[v0, v1] := by cases args; simp_all
  obtain ⟨rfl, rfl⟩ := trodVars_none hV
  have k0' := h0
  have lt0 : ∀ x ∈ p0, x.block < W.heap.size := by obtain ⟨m, hm⟩ := h0; exact DataW.trod_lt m _ _ _ hm
  have k1' := h1
  have lt1 : ∀ x ∈ p1, x.block < W.heap.size := by obtain ⟨m, hm⟩ := h1; exact DataW.trod_lt m _ _ _ hm
  obtain ⟨ug0, ur0, ub0, zg0, zr0, zb0, rfl, ig0, ir0, ib0⟩ : ∃ (a b c : Value) (zg : List Int) (zr : List Rw) (zb : List Bd), v0 = .agg #[a, b, c] ∧ Ints W a zg ∧ Reads elRow W b zr ∧ Reads elBond W c zb := by
    obtain ⟨c0, c1, c2, y0, y1, y2, m, rfl, _, _, hy0, hy1, hy2⟩ := Go.Joins.open_agg3 Tryz.underlying26 (by kernel_rfl) (show Tryz.prog.cellsOf 26 = 3 by kernel_rfl) (hval 0 26 v0 rfl rfl) h0
    obtain ⟨a0, l0, k0, rfl⟩ := slice_of Tryz.underlying22 hy0
    obtain ⟨a1, l1, k1, rfl⟩ := slice_of Tryz.underlying23 hy1
    obtain ⟨a2, l2, k2, rfl⟩ := slice_of Tryz.underlying24 hy2
    obtain ⟨zg, hg⟩ := Ints_of Tryz.underlying22 Tryz.underlying3 (by kernel_rfl) ⟨m, hy0⟩
    obtain ⟨zr, hr⟩ := Reads_of elRow Tryz.underlying23 (by kernel_rfl) row_dec ⟨m, hy1⟩
    obtain ⟨zb, hb⟩ := Reads_of elBond Tryz.underlying24 (by kernel_rfl) bond_dec ⟨m, hy2⟩
    exact ⟨_, _, _, zg, zr, zb, rfl, hg, hr, hb⟩
  obtain ⟨l1, rfl, i1⟩ : ∃ l : List UInt8, v1 = .string (bs l) ∧ l.length ≤ maxLen := by
    obtain ⟨s, rfl, _, _, hs⟩ := Go.ChangeMaps.open_string Tryz.underlying9 (hval 1 9 v1 rfl rfl) h1
    exact ⟨s.data.toList, rfl, by rw [Array.length_toList]; exact hs⟩
  rw [Tryz.params5] at hsz
  clear hA0 hval0
  refine (textBack_walk ug0 ur0 ub0 zg0 zr0 zb0 l1 i1 W (VarsIs.of hlaid hshape) ig0 ir0 ib0).mono fun e W' ⟨he, bel⟩ => ?_
  subst he
  exact ⟨_, rfl, _, _, _, [], _, [], hW', trodAll_mk1 (shut_bool Tryz.underlying4 _), (trodAll_cons_mk (Below.trod laidOut (by kernel_rfl) (of_decide_eq_true (by kernel_rfl)) k0' bel lt0) (trodAll_cons_mk (Below.trod laidOut (by kernel_rfl) (of_decide_eq_true (by kernel_rfl)) k1' bel lt1) trodAll_mk0)), rfl, bel.frame _, fun h => by cases h⟩
end textBack

theorem textBack_proved : Rows.TextBackSaid :=
  OpenClaim.holds_of_wide 5 Tryz.f5 rfl rfl rfl rfl rfl rfl rfl ⟨rfl, rfl, rfl, rfl, rfl⟩ rfl rfl rfl rfl rfl (by kernel_rfl) Tryz.func5 (by kernel_rfl)
    (of_decide_eq_true (by kernel_rfl)) (by unfold Func.isWrapper; first | (rw [if_pos (by decide +kernel)]; kernel_rfl) | (rw [if_neg (by decide +kernel)]; exact ⟨rfl, rfl⟩))
    (fun os started H enc _ => textBack.lifted os started H enc)
theorem textBack_card : Rows.TextBackCardSaid :=
  Claim7.holds_tied_plain_at .later [] [.data, .data, .data, .data, .sentinel, .sentinel, .pinned] true (true, "51adf19e7b0457040110f153bed93bd756ae1ee273793b6025d405c32f9e54b0") true textBack_proved (fun _ h => by cases h) (by kernel_rfl) (fun _ h => by cases h) textBack_row_tie rfl ⟨rfl, rfl⟩ (by kernel_rfl) rfl
    (fun f fn hf hfn => by
      obtain rfl : f = 5 := Option.some.inj ((show Tryz.prog.funcNamed Rows.textBackRow.func = some 5 by kernel_rfl).symm.trans hf) |>.symm
      obtain rfl : fn = Tryz.f5 := (Option.some.inj (Tryz.func5.symm.trans hfn)).symm
      exact ⟨by kernel_rfl, fun j t ht => by
        rw [Tryz.params5] at ht
        have hm : t ∈ [26, 9] := by simpa using Array.mem_of_getElem? ht
        have hall : ([26, 9].all fun u => !Tryz.prog.wantsStandIn u) = true := by kernel_rfl
        exact (show Tryz.prog.wantsStandIn t = false by simpa using List.all_eq_true.1 hall t hm)⟩)
    (by kernel_rfl)

end Go.Proofs.YtndhomjfjhohoaaGreatDoor

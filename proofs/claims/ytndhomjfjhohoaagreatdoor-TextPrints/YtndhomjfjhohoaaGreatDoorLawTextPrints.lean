/- The program prints as the reference: the statement TextPrints. -/
import Derived.Test.YtndhomjfjhohoaaGreatDoorRPrint
import Derived.Test.YtndhomjfjhohoaaGreatDoorCardKit
import Derived.Test.YtndhomjfjhohoaaGreatDoorTextOpen
namespace Go.Proofs.YtndhomjfjhohoaaGreatDoor
set_option maxRecDepth 8000
open Go Go.ChangeShapes Go.WideShapes Go.ChangeAt Go.RowKit
set_option linter.unusedVariables false

theorem SttIs.cells {w : World} {B : Nat} {vg vr vb : Value} {s : Stt} (h : SttIs w B vg vr vb s) : ∃ ga gl gc ra rl rc ba bl bc, vg = .slice ga gl gc ∧ vr = .slice ra rl rc ∧ vb = .slice ba bl bc := by
  obtain ⟨ga3, gc3, hge, -⟩ := h.g.reads
  obtain ⟨ra3, rc3, hre, -⟩ := h.r.reads
  obtain ⟨ba3, bc3, hbe, -⟩ := h.b.reads
  exact ⟨_, _, _, _, _, _, _, _, _, hge, hre, hbe⟩
theorem paE_nil : paE [] = 9 := by
  rw [paE, if_neg (by decide), show rdT [] = none from by rw [rdT, if_neg (by decide)]]
set_option maxRecDepth 100000 in
set_option maxHeartbeats 8000000 in
theorem textPrints_walk (ug0 ur0 ub0 : Value) (zg0 : List Int) (zr0 : List Rw) (zb0 : List Bd) (w : World) (hv : VarsIs w) (ig0 : Ints w ug0 zg0) (ir0 : Reads elRow w ur0 zr0) (ib0 : Reads elBond w ub0 zb0) :
    Calls Tryz.prog 3 #[.agg #[ug0, ur0, ub0]] w fun e w' => e = .returned (.bool true) ∧ Below w.heap.size w w' := by
  have HIG := Lib.hid ig0
  have HIR := Lib.hid ir0
  have HIB := Lib.hid ib0
  obtain ⟨ga, gl, gc, hge⟩ : ∃ a k c, ug0 = .slice a k c := by obtain ⟨a, c, e, _⟩ := ig0; exact ⟨_, _, _, e⟩
  obtain ⟨ra, rl, rc, hre⟩ : ∃ a k c, ur0 = .slice a k c := by obtain ⟨a, c, e, _⟩ := ir0; exact ⟨_, _, _, e⟩
  obtain ⟨ba, bl, bc, hbe⟩ : ∃ a k c, ub0 = .slice a k c := by obtain ⟨a, c, e, _⟩ := ib0; exact ⟨_, _, _, e⟩
  have hX : Below w.heap.size w (w.alloc (.cells #[ug0, ur0, ub0] 26)) := nb_alloc (Below.refl _ _) _
  have hxb : (w.alloc (.cells #[ug0, ur0, ub0] 26)).heap[w.heap.size]? = some (.cells #[ug0, ur0, ub0] 26) := heap_alloc_new _ _
  have HX := Lib.hid hX
  have HXB := Lib.hid hxb
  have HV := Lib.hid hv
  have HP := Lib.hid (print_any _ _ _ zg0 zr0 zb0 _ (ig0.later hX) (ir0.later hX) (ib0.later hX) (hv.later hX))
  clear hX hxb hv ig0 ir0 ib0
  subst hge hre hbe
  obtain ⟨t, ht⟩ : ∃ t, prT zg0 zr0 zb0 = t := ⟨_, rfl⟩
  obtain ⟨z, hz⟩ : ∃ t, prE zg0 zr0 zb0 = t := ⟨_, rfl⟩
  have HT := Lib.hid ht
  have HZ := Lib.hid hz
  rw [ht, hz] at HP
  clear ht hz
  go_enter Tryz.func3, Tryz.ntmps3
  go_wp2_with (go_at_call 8; refine HP.out.mono ?_; rintro e W1 ⟨rfl, hb1⟩; refine Hid.out ?_)
  refine Lib.hid ?_
  have HB1 := Lib.hid (nb_trans HX.out hb1)
  have hq1 := (hb1.block _ (Array.getElem?_eq_some_iff.1 HXB.out).1).trans HXB.out
  have HR := Lib.hid (refPrint_any _ _ _ zg0 zr0 zb0 W1 (HIG.out.later HB1.out) (HIR.out.later HB1.out) (HIB.out.later HB1.out))
  rw [HT.out, HZ.out] at HR
  have c0 : W1.cell? ⟨w.heap.size, 0, none⟩ = some (.slice ga gl gc) := by rw [cell_of_row _ _ _ _ _ _ hq1]; rfl
  have c1 : W1.cell? ⟨w.heap.size, 1, none⟩ = some (.slice ra rl rc) := by rw [cell_of_row _ _ _ _ _ _ hq1]; rfl
  have c2 : W1.cell? ⟨w.heap.size, 2, none⟩ = some (.slice ba bl bc) := by rw [cell_of_row _ _ _ _ _ _ hq1]; rfl
  have hpl : w.heap.size < W1.heap.size := (Array.getElem?_eq_some_iff.1 hq1).1
  clear hb1 hq1
  go_wp2_with (go_at_call 9; refine HR.out.mono ?_; rintro e W2 ⟨rfl, hb2⟩; refine Hid.out ?_)
  refine Lib.hid ?_
  have HB2 := Lib.hid (nb_trans HB1.out hb2)
  have HPA := Lib.hid (parse_any [] W2 (by decide) (HV.out.later HB2.out))
  unfold ParsePost at HPA
  rw [paE_nil] at HPA
  clear hb2 c0 c1 c2 hpl
  go_wp2_with fail
  refine HPA.out.mono ?_
  rintro e W3 ⟨vg, vr, vb, rfl, hst, hb3⟩
  obtain ⟨xa, xl, xc, ya, yl, yc, ta, tl, tc, rfl, rfl, rfl⟩ := hst.cells
  have HB3 := Lib.hid (nb_alloc (nb_trans HB2.out hb3) (.cells #[.slice xa xl xc, .slice ya yl yc, .slice ta tl tc] 26))
  clear hst hb3
  go_wp2
  go_ret
  exact ⟨rfl, HB3.out⟩
namespace textPrints
theorem own : ownKnob Tryz.prog.godebug = none := by kernel_rfl
theorem laidOut : laidOutB Tryz.prog = true := by kernel_rfl

set_option maxRecDepth 100000 in
set_option maxHeartbeats 4000000 in
theorem lifted (os : Os) (started : os.Started) (H : Type) (enc : TypeId × Value → H) :
    ReturnsInHanded {} Tryz.checked os 3 .any (fun w args => (Rows.textPrintsSpec.pre enc Tryz.prog Tryz.f3 Rows.textPrintsRow.domain false w args ∧ laidMetH Tryz.prog Rows.textPrintsRow.laid w) ∧ sizedMet enc Tryz.prog Tryz.f3 (OpenSpec.ofChange Rows.textPrintsSpec) false w args)
      (Rows.textPrintsSpec.post enc Tryz.prog Tryz.f3 false true false false) := by
  refine returnsInHanded_laid_shaped (C := Tryz.checked) (X := fun w _ => laidMetH Tryz.prog Rows.textPrintsRow.laid w) (fun _ _ _ hh h => h.of_heap hh) own started (by kernel_rfl) Tryz.func3
    (ChangeSpec.witness_shaped (enc := enc) (C := Tryz.checked) (os := os) (X := fun w _ => laidMetH Tryz.prog Rows.textPrintsRow.laid w) false (World.laidAll Tryz.prog os Rows.textPrintsRow.laid) #[.agg #[.slice none 0 0, .slice none 0 0, .slice none 0 0]] 8 (World.laidAll_os _ _ _)
      (World.shaped_of_ZipB (by kernel_rfl) (by kernel_rfl)) (by kernel_rfl) (by kernel_rfl) (by kernel_rfl)
      (by rw [MakeChecks.laidMetH_plain _ _ _ (by kernel_rfl)]; exact laidMet_laidAll _ (by kernel_rfl) (by kernel_rfl))) ?_
  intro W base args ds gs before hval0 hW hcnd hsz hlaid hshape
  have hval : ∀ (j : Nat) t v, Tryz.f3.params[j]? = some t → args[j]? = some v → Value.okWide Tryz.prog W .any base t v := hval0
  have hW' := hW
  obtain ⟨p, q, hA0, hV, rfl, hfz, hnd⟩ := hW
  have hA : DataW.TrodAll enc Tryz.prog W 0 (fun _ => true) true Tryz.f3.params.toList args.toList ds p := hA0
  rw [Tryz.params3] at hA hval
  obtain ⟨v0, vs0, d0, ds0, p0, q0, hargs, rfl, rfl, h0, r0⟩ := trodAll_cons hA
  obtain ⟨rfl, rfl, rfl⟩ := trodAll_nil r0
  obtain rfl : args = #[v0] := by cases args; simp_all
  obtain ⟨rfl, rfl⟩ := trodVars_none hV
  have k0' := h0
  have lt0 : ∀ x ∈ p0, x.block < W.heap.size := by obtain ⟨m, hm⟩ := h0; exact DataW.trod_lt m _ _ _ hm
  obtain ⟨ug0, ur0, ub0, zg0, zr0, zb0, rfl, ig0, ir0, ib0⟩ : ∃ (a b c : Value) (zg : List Int) (zr : List Rw) (zb : List Bd), v0 = .agg #[a, b, c] ∧ Ints W a zg ∧ Reads elRow W b zr ∧ Reads elBond W c zb := by
    obtain ⟨c0, c1, c2, y0, y1, y2, m, rfl, _, _, hy0, hy1, hy2⟩ := Go.Joins.open_agg3 Tryz.underlying26 (by kernel_rfl) (show Tryz.prog.cellsOf 26 = 3 by kernel_rfl) (hval 0 26 v0 rfl rfl) h0
    obtain ⟨a0, l0, k0, rfl⟩ := slice_of Tryz.underlying22 hy0
    obtain ⟨a1, l1, k1, rfl⟩ := slice_of Tryz.underlying23 hy1
    obtain ⟨a2, l2, k2, rfl⟩ := slice_of Tryz.underlying24 hy2
    obtain ⟨zg, hg⟩ := Ints_of Tryz.underlying22 Tryz.underlying3 (by kernel_rfl) ⟨m, hy0⟩
    obtain ⟨zr, hr⟩ := Reads_of elRow Tryz.underlying23 (by kernel_rfl) row_dec ⟨m, hy1⟩
    obtain ⟨zb, hb⟩ := Reads_of elBond Tryz.underlying24 (by kernel_rfl) bond_dec ⟨m, hy2⟩
    exact ⟨_, _, _, zg, zr, zb, rfl, hg, hr, hb⟩
  rw [Tryz.params3] at hsz
  clear hA0 hval0
  refine (textPrints_walk ug0 ur0 ub0 zg0 zr0 zb0 W (VarsIs.of hlaid hshape) ig0 ir0 ib0).mono fun e W' ⟨he, bel⟩ => ?_
  subst he
  exact ⟨_, rfl, _, _, _, [], _, [], hW', trodAll_mk1 (shut_bool Tryz.underlying4 _), (trodAll_cons_mk (Below.trod laidOut (by kernel_rfl) (of_decide_eq_true (by kernel_rfl)) k0' bel lt0) trodAll_mk0), rfl, bel.frame _, fun h => by cases h⟩
end textPrints

theorem textPrints_proved : Rows.TextPrintsSaid :=
  OpenClaim.holds_of_wide 3 Tryz.f3 rfl rfl rfl rfl rfl rfl rfl ⟨rfl, rfl, rfl, rfl, rfl⟩ rfl rfl rfl rfl rfl (by kernel_rfl) Tryz.func3 (by kernel_rfl)
    (of_decide_eq_true (by kernel_rfl)) (by unfold Func.isWrapper; first | (rw [if_pos (by decide +kernel)]; kernel_rfl) | (rw [if_neg (by decide +kernel)]; exact ⟨rfl, rfl⟩))
    (fun os started H enc _ => textPrints.lifted os started H enc)
theorem textPrints_card : Rows.TextPrintsCardSaid :=
  Claim7.holds_tied_plain_at .later [] [.data, .data, .data, .data, .sentinel, .sentinel, .pinned] true (true, "51adf19e7b0457040110f153bed93bd756ae1ee273793b6025d405c32f9e54b0") true textPrints_proved (fun _ h => by cases h) (by kernel_rfl) (fun _ h => by cases h) textPrints_row_tie rfl ⟨rfl, rfl⟩ (by kernel_rfl) rfl
    (fun f fn hf hfn => by
      obtain rfl : f = 3 := Option.some.inj ((show Tryz.prog.funcNamed Rows.textPrintsRow.func = some 3 by kernel_rfl).symm.trans hf) |>.symm
      obtain rfl : fn = Tryz.f3 := (Option.some.inj (Tryz.func3.symm.trans hfn)).symm
      exact ⟨by kernel_rfl, fun j t ht => by
        rw [Tryz.params3] at ht
        have hm : t ∈ [26] := by simpa using Array.mem_of_getElem? ht
        have hall : ([26].all fun u => !Tryz.prog.wantsStandIn u) = true := by kernel_rfl
        exact (show Tryz.prog.wantsStandIn t = false by simpa using List.all_eq_true.1 hall t hm)⟩)
    (by kernel_rfl)

end Go.Proofs.YtndhomjfjhohoaaGreatDoor

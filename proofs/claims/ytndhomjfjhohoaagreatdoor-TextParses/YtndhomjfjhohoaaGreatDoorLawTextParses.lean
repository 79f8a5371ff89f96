
/- The program parses as the reference: the statement TextParses. -/
import Derived.Test.YtndhomjfjhohoaaGreatDoorRParseQ
import Derived.Test.YtndhomjfjhohoaaGreatDoorRPrint
import Derived.Test.YtndhomjfjhohoaaGreatDoorTextSame
import Derived.Test.YtndhomjfjhohoaaGreatDoorCardKit
import Derived.Test.YtndhomjfjhohoaaGreatDoorTextOpen
namespace Go.Proofs.YtndhomjfjhohoaaGreatDoor
set_option maxRecDepth 8000
open Go Go.ChangeShapes Go.WideShapes Go.ChangeAt Go.RowKit
set_option linter.unusedVariables false

theorem SttIs.cells {w : World} {B : Nat} {vg vr vb : Value} {s : Stt} (h : SttIs w B vg vr vb s) : ∃ ga gl gc ra rl rc ba bl bc, vg = .slice ga gl gc ∧ vr = .slice ra rl rc ∧ vb = .slice ba bl bc := by
  obtain ⟨ga3, gc3, hge, -⟩ := h.g.reads
  obtain ⟨ra3, rc3, hre, -⟩ := h.r.reads
  obtain ⟨ba3, bc3, hbe, -⟩ := h.b.reads
  exact ⟨_, _, _, _, _, _, _, _, _, hge, hre, hbe⟩
theorem paE_nil : paE [] = 9 := by
  rw [paE, if_neg (by decide), show rdT [] = none from by rw [rdT, if_neg (by decide)]]
theorem states_same (t : List UInt8) : paS t = ⟨(reS t).g, (reS t).r.map nR, (reS t).b⟩ ∧ ∀ r ∈ (reS t).r, FineR r := by
  by_cases h0 : reE t = 0
  · exact re_pa_state h0
  · have e1 : paS t = sttZ := by rw [paS, if_neg (by rw [← re_pa]; exact h0)]
    have e2 : reS t = sttZ := by rw [reS, if_neg h0]
    rw [e1, e2]
    exact ⟨rfl, fun r hr => by cases hr⟩
set_option maxRecDepth 100000 in
set_option maxHeartbeats 8000000 in
theorem textParses_walk (l0 : List UInt8) (i0 : l0.length ≤ maxLen) (w : World) (hv : VarsIs w) :
    Calls Tryz.prog 4 #[.string (bs l0)] w fun e w' => e = .returned (.bool true) ∧ Below w.heap.size w w' := by
  have HV := Lib.hid hv
  unfold maxLen at i0
  have hl0 : l0.length ≤ 9223372036854775807 := by omega
  have HL0 := Lib.hid hl0
  have HPA := Lib.hid (parse_any l0 w hl0 hv)
  unfold ParsePost at HPA
  obtain ⟨z, hz⟩ : ∃ z, reE l0 = z := ⟨_, rfl⟩
  have hz2 : paE l0 = z := by rw [← re_pa]; exact hz
  obtain ⟨s2, hs2⟩ : ∃ s, reS l0 = s := ⟨_, rfl⟩
  have HSS := Lib.hid (states_same l0)
  rw [hs2] at HSS
  rw [hz2, HSS.out.1] at HPA
  have HZ := Lib.hid hz
  have HS2 := Lib.hid hs2
  clear hv i0 hl0 hz hz2 hs2
  go_enter Tryz.func4, Tryz.ntmps4
  go_wp2_with (go_at_call 10; refine HPA.out.mono ?_; rintro e W1 ⟨vg, vr, vb, rfl, hst, hb⟩; refine Hid.out ?_)
  refine Lib.hid ?_
  obtain ⟨xa, xl, xc, ya, yl, yc, ta, tl, tc, rfl, rfl, rfl⟩ := hst.cells
  have hb1 := nb_alloc hb (.cells #[.slice xa xl xc, .slice ya yl yc, .slice ta tl tc] 26)
  have HB1 := Lib.hid hb1
  have HST1 := Lib.hid (hst.later (nb_alloc (Below.refl _ _) (.cells #[.slice xa xl xc, .slice ya yl yc, .slice ta tl tc] 26)))
  have HA1 := Lib.hid (heap_alloc_new W1 (.cells #[.slice xa xl xc, .slice ya yl yc, .slice ta tl tc] 26))
  have HPR := Lib.hid (refParse_any refPrint_any l0 _ HL0.out (HV.out.later hb1))
  unfold RParsePost at HPR
  rw [HZ.out, HS2.out] at HPR
  clear hst hb hb1 HPA
  go_wp2_with (go_at_call 11; refine HPR.out.mono ?_; rintro e W2 ⟨ug, ur, ub, rfl, hst2, hb2⟩; refine Hid.out ?_)
  refine Lib.hid ?_
  generalize (W1.alloc (.cells #[.slice xa xl xc, .slice ya yl yc, .slice ta tl tc] 26)) = V1 at *
  generalize W1.heap.size = p1 at *
  obtain ⟨xa2, xl2, xc2, ya2, yl2, yc2, ta2, tl2, tc2, rfl, rfl, rfl⟩ := hst2.cells
  have hb3 := nb_alloc hb2 (.cells #[.slice xa2 xl2 xc2, .slice ya2 yl2 yc2, .slice ta2 tl2 tc2] 26)
  have HB3 := Lib.hid (nb_trans HB1.out hb3)
  have HST3 := Lib.hid (HST1.out.later hb3)
  have HST4 := Lib.hid (hst2.later (nb_alloc (Below.refl _ _) (.cells #[.slice xa2 xl2 xc2, .slice ya2 yl2 yc2, .slice ta2 tl2 tc2] 26)))
  have HA3 := Lib.hid ((hb3.block _ (Array.getElem?_eq_some_iff.1 HA1.out).1).trans HA1.out)
  have HA4 := Lib.hid (heap_alloc_new W2 (.cells #[.slice xa2 xl2 xc2, .slice ya2 yl2 yc2, .slice ta2 tl2 tc2] 26))
  have HP0 := Lib.hid (parse_any [] _ (by decide) (HV.out.later HB3.out))
  unfold ParsePost at HP0
  rw [paE_nil] at HP0
  clear hst2 hb2 hb3 HPR HST1 HA1 HB1
  go_wp2_with fail
  refine HP0.out.mono ?_
  rintro e W3 ⟨vg, vr, vb, rfl, hst5, hb5⟩
  generalize (W2.alloc (.cells #[.slice xa2 xl2 xc2, .slice ya2 yl2 yc2, .slice ta2 tl2 tc2] 26)) = V2 at *
  generalize W2.heap.size = p2 at *
  obtain ⟨xa3, xl3, xc3, ya3, yl3, yc3, ta3, tl3, tc3, rfl, rfl, rfl⟩ := hst5.cells
  have hb6 := nb_alloc hb5 (.cells #[.slice xa3 xl3 xc3, .slice ya3 yl3 yc3, .slice ta3 tl3 tc3] 26)
  have HB6 := Lib.hid (nb_trans HB3.out hb6)
  have hs6 := HST3.out.later hb6
  have hs7 := HST4.out.later hb6
  have HSM := Lib.hid (same_any _ _ _ _ _ _ s2.g s2.r s2.b _ hs6.g.reads (hs6.r.reads.nR HSS.out.2) hs6.b.reads hs7.g.reads hs7.r.reads hs7.b.reads)
  have ha6 := (hb5.block _ (Array.getElem?_eq_some_iff.1 HA3.out).1).trans HA3.out
  have ha7 := (hb5.block _ (Array.getElem?_eq_some_iff.1 HA4.out).1).trans HA4.out
  have c0 : W3.cell? ⟨p1, 0, none⟩ = some (.slice xa xl xc) := by rw [cell_of_row _ _ _ _ _ _ ha6]; rfl
  have c1 : W3.cell? ⟨p1, 1, none⟩ = some (.slice ya yl yc) := by rw [cell_of_row _ _ _ _ _ _ ha6]; rfl
  have c2 : W3.cell? ⟨p1, 2, none⟩ = some (.slice ta tl tc) := by rw [cell_of_row _ _ _ _ _ _ ha6]; rfl
  have d0 : W3.cell? ⟨p2, 0, none⟩ = some (.slice xa2 xl2 xc2) := by rw [cell_of_row _ _ _ _ _ _ ha7]; rfl
  have d1 : W3.cell? ⟨p2, 1, none⟩ = some (.slice ya2 yl2 yc2) := by rw [cell_of_row _ _ _ _ _ _ ha7]; rfl
  have d2 : W3.cell? ⟨p2, 2, none⟩ = some (.slice ta2 tl2 tc2) := by rw [cell_of_row _ _ _ _ _ _ ha7]; rfl
  have hp1 : p1 < W3.heap.size := (Array.getElem?_eq_some_iff.1 ha6).1
  have hp2 : p2 < W3.heap.size := (Array.getElem?_eq_some_iff.1 ha7).1
  clear hst5 hb5 hb6 hs6 hs7 ha6 ha7 HP0 HST3 HST4 HA3 HA4
  go_wp2_with (go_at_call 12; refine HSM.out.mono ?_; rintro e W5 ⟨rfl, hb7⟩; refine Hid.out ?_)
  refine Lib.hid ?_
  have HB7 := Lib.hid (nb_trans HB6.out hb7)
  clear hb7 c0 c1 c2 d0 d1 d2 hp1 hp2 HSM
  go_wp2
  go_ret
  exact ⟨rfl, HB7.out⟩
namespace textParses
theorem own : ownKnob Tryz.prog.godebug = none := by kernel_rfl
theorem laidOut : laidOutB Tryz.prog = true := by kernel_rfl

set_option maxRecDepth 100000 in
set_option maxHeartbeats 4000000 in
theorem lifted (os : Os) (started : os.Started) (H : Type) (enc : TypeId × Value → H) :
    ReturnsInHanded {} Tryz.checked os 4 .any (fun w args => (Rows.textParsesSpec.pre enc Tryz.prog Tryz.f4 Rows.textParsesRow.domain false w args ∧ laidMetH Tryz.prog Rows.textParsesRow.laid w) ∧ sizedMet enc Tryz.prog Tryz.f4 (OpenSpec.ofChange Rows.textParsesSpec) false w args)
      (Rows.textParsesSpec.post enc Tryz.prog Tryz.f4 false true false false) := by
  refine returnsInHanded_laid_shaped (C := Tryz.checked) (X := fun w _ => laidMetH Tryz.prog Rows.textParsesRow.laid w) (fun _ _ _ hh h => h.of_heap hh) own started (by kernel_rfl) Tryz.func4
    (ChangeSpec.witness_shaped (enc := enc) (C := Tryz.checked) (os := os) (X := fun w _ => laidMetH Tryz.prog Rows.textParsesRow.laid w) false (World.laidAll Tryz.prog os Rows.textParsesRow.laid) #[.string ⟨#[]⟩] 8 (World.laidAll_os _ _ _)
      (World.shaped_of_ZipB (by kernel_rfl) (by kernel_rfl)) (by kernel_rfl) (by kernel_rfl) (by kernel_rfl)
      (by rw [MakeChecks.laidMetH_plain _ _ _ (by kernel_rfl)]; exact laidMet_laidAll _ (by kernel_rfl) (by kernel_rfl))) ?_
  intro W base args ds gs before hval0 hW hcnd hsz hlaid hshape
  have hval : ∀ (j : Nat) t v, Tryz.f4.params[j]? = some t → args[j]? = some v → Value.okWide Tryz.prog W .any base t v := hval0
  have hW' := hW
  obtain ⟨p, q, hA0, hV, rfl, hfz, hnd⟩ := hW
  have hA : DataW.TrodAll enc Tryz.prog W 0 (fun _ => true) true Tryz.f4.params.toList args.toList ds p := hA0
  rw [Tryz.params4] at hA hval
  obtain ⟨v0, vs0, d0, ds0, p0, q0, hargs, rfl, rfl, h0, r0⟩ := trodAll_cons hA
  obtain ⟨rfl, rfl, rfl⟩ := trodAll_nil r0
  obtain rfl : args = #[v0] := by cases args; simp_all
  obtain ⟨rfl, rfl⟩ := trodVars_none hV
  have k0' := h0
  have lt0 : ∀ x ∈ p0, x.block < W.heap.size := by obtain ⟨m, hm⟩ := h0; exact DataW.trod_lt m _ _ _ hm
  obtain ⟨l0, rfl, i0⟩ : ∃ l : List UInt8, v0 = .string (bs l) ∧ l.length ≤ maxLen := by
    obtain ⟨s, rfl, _, _, hs⟩ := Go.ChangeMaps.open_string Tryz.underlying9 (hval 0 9 v0 rfl rfl) h0
    exact ⟨s.data.toList, rfl, by rw [Array.length_toList]; exact hs⟩
  rw [Tryz.params4] at hsz
  clear hA0 hval0
  refine (textParses_walk l0 i0 W (VarsIs.of hlaid hshape)).mono fun e W' ⟨he, bel⟩ => ?_
  subst he
  exact ⟨_, rfl, _, _, _, [], _, [], hW', trodAll_mk1 (shut_bool Tryz.underlying4 _), (trodAll_cons_mk (Below.trod laidOut (by kernel_rfl) (of_decide_eq_true (by kernel_rfl)) k0' bel lt0) trodAll_mk0), rfl, bel.frame _, fun h => by cases h⟩
end textParses

theorem textParses_proved : Rows.TextParsesSaid :=
  OpenClaim.holds_of_wide 4 Tryz.f4 rfl rfl rfl rfl rfl rfl rfl ⟨rfl, rfl, rfl, rfl, rfl⟩ rfl rfl rfl rfl rfl (by kernel_rfl) Tryz.func4 (by kernel_rfl)
    (of_decide_eq_true (by kernel_rfl)) (by unfold Func.isWrapper; first | (rw [if_pos (by decide +kernel)]; kernel_rfl) | (rw [if_neg (by decide +kernel)]; exact ⟨rfl, rfl⟩))
    (fun os started H enc _ => textParses.lifted os started H enc)
theorem textParses_card : Rows.TextParsesCardSaid :=
  Claim7.holds_tied_plain_at .later [] [.data, .data, .data, .data, .sentinel, .sentinel, .pinned] true (true, "51adf19e7b0457040110f153bed93bd756ae1ee273793b6025d405c32f9e54b0") true textParses_proved (fun _ h => by cases h) (by kernel_rfl) (fun _ h => by cases h) textParses_row_tie rfl ⟨rfl, rfl⟩ (by kernel_rfl) rfl
    (fun f fn hf hfn => by
      obtain rfl : f = 4 := Option.some.inj ((show Tryz.prog.funcNamed Rows.textParsesRow.func = some 4 by kernel_rfl).symm.trans hf) |>.symm
      obtain rfl : fn = Tryz.f4 := (Option.some.inj (Tryz.func4.symm.trans hfn)).symm
      exact ⟨by kernel_rfl, fun j t ht => by
        rw [Tryz.params4] at ht
        have hm : t ∈ [9] := by simpa using Array.mem_of_getElem? ht
        have hall : ([9].all fun u => !Tryz.prog.wantsStandIn u) = true := by kernel_rfl
        exact (show Tryz.prog.wantsStandIn t = false by simpa using List.all_eq_true.1 hall t hm)⟩)
    (by kernel_rfl)

end Go.Proofs.YtndhomjfjhohoaaGreatDoor

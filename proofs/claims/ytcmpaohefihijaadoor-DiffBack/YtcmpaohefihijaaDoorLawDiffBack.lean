/- The changes lead from the first list to the second, and back: the statement DiffBack. -/
import Derived.Test.YtcmpaohefihijaaDoorDiffTold
import Derived.Test.YtcmpaohefihijaaDoorDiffInv
import Derived.Test.YtcmpaohefihijaaDoorLaidKit
import Derived.Test.YtcmpaohefihijaaDoorGroundA
namespace Go.Proofs.YtcmpaohefihijaaDoor
set_option maxRecDepth 8000
open Go Go.ChangeShapes Go.WideShapes Go.ChangeAt Go.RowKit
set_option linter.unusedVariables false
set_option maxRecDepth 100000 in
set_option maxHeartbeats 8000000 in
theorem diffBack_walk (u0 : Value) (z0 : List Ro) (j0 : ∀ x ∈ z0, I64 x.1.1 ∧ I64 x.1.2) (u1 : Value) (z1 : List Ro) (j1 : ∀ x ∈ z1, I64 x.1.1 ∧ I64 x.1.2) (w : World) (hv : DVars w) (i0 : Reads elRo w u0 z0) (i1 : Reads elRo w u1 z1) (s0 : z0.length * 88 ≤ 140737488351232) (s1 : z1.length * 88 ≤ 140737488351232) :
    Calls Tryd.prog 6 #[u0, u1] w fun e w' => e = .returned (.bool true) ∧ Below w.heap.size w w' := by
  have HI0 := Lib.hid i0
  obtain ⟨ad0, ln0, cp0, ue0⟩ : ∃ a k c, u0 = .slice a k c := by obtain ⟨a, c, e, _⟩ := i0; exact ⟨_, _, _, e⟩
  have hl0 : ln0 = z0.length := by obtain ⟨a, c, e, _⟩ := i0; rw [e] at ue0; cases ue0; rfl
  have HI1 := Lib.hid i1
  obtain ⟨ad1, ln1, cp1, ue1⟩ : ∃ a k c, u1 = .slice a k c := by obtain ⟨a, c, e, _⟩ := i1; exact ⟨_, _, _, e⟩
  have hl1 : ln1 = z1.length := by obtain ⟨a, c, e, _⟩ := i1; rw [e] at ue1; cases ue1; rfl
  subst hl0 hl1
  clear i0 i1
  subst ue0 ue1
  have HV := Lib.hid hv
  have HTL := Lib.hid (differed_any w hv)
  clear hv
  go_enter Tryd.func6, Tryd.ntmps6
  go_wp2_with (go_at_call 16; refine HTL.out.mono ?_; rintro e W1 ⟨rfl, hb1⟩; refine Hid.out ?_)
  refine Lib.hid ?_
  have HB1 := Lib.hid hb1
  clear hb1 HTL
  have HBT := Lib.hid (between_any _ _ z0 z1 W1 (HI0.out.later HB1.out) (HI1.out.later HB1.out) (HV.out.later HB1.out))
  cases hvv : (valid z0 && valid z1)
  · have HE := Lib.hid (And.intro (betE_no hvv).1 (And.intro (betE_no hvv).2 trivial))
    clear hvv
    go_wp2_with (go_at_call 9; refine HBT.out.mono ?_; rintro e W2 hp; obtain ⟨x, xc, rfl, ho, hb⟩ := hp.slice; rw [HE.out.1, HE.out.2.1] at *; have HO2 := Lib.hid ho; have HB2 := Lib.hid (nb_trans HB1.out hb); clear hp ho hb; refine Hid.out ?_)
    refine Lib.hid ?_
    go_wp2
    go_ret
    exact ⟨rfl, HB2.out⟩
  · have HE := Lib.hid (betE_both hvv)
    have HAM := Lib.hid (app_mrg HE.out.2.2.1 HE.out.2.2.2)
    have HI64 := Lib.hid (mrg_i64 HE.out.2.2.1 HE.out.2.2.2)
    have HLN := Lib.hid (mrg_120 HE.out.2.2.1 HE.out.2.2.2)
    have HSW := Lib.hid (mrg_swap (valid_ups HE.out.2.2.1) (valid_ups HE.out.2.2.2))
    have HE2 : Hid (betE z1 z0 = 0 ∧ betL z1 z0 = mrg z1 z0 ∧ True) := Lib.hid (by
      have := betE_both (a := z1) (b := z0) (by rw [HE.out.2.2.1, HE.out.2.2.2]; rfl)
      exact ⟨this.1, this.2.1, trivial⟩)
    clear hvv
    go_wp2_with (go_at_call 9; refine HBT.out.mono ?_; rintro e W2 hp; obtain ⟨x, xc, rfl, ho, hb⟩ := hp.slice; rw [HE.out.1, HE.out.2.1] at *; have HO2 := Lib.hid ho; have HB2 := Lib.hid (nb_trans HB1.out hb); clear hp ho hb; refine Hid.out ?_)
    refine Lib.hid ?_
    generalize mrg z0 z1 = c at *
    have HAP := Lib.hid (apply_any _ _ z0 c W2 (HI0.out.later HB2.out) HO2.out.reads HI64.out (HV.out.later HB2.out))
    go_wp2_with (go_at_call 12; refine HAP.out.mono ?_; rintro e W3 hp; obtain ⟨x3, k3, rfl, ho, hb⟩ := hp.slice; rw [HAM.out.1.1, HAM.out.1.2] at *; have HO3 := Lib.hid ho; have HB23 := Lib.hid hb; have HB3 := Lib.hid (nb_trans HB2.out hb); clear hp ho hb; refine Hid.out ?_)
    refine Lib.hid ?_
    have HNV := Lib.hid (invert_any _ c W3 (HO2.out.later HB23.out).reads (by have := HLN.out; omega))
    go_wp2_with (go_at_call 15; refine HNV.out.mono ?_; rintro e W4 ⟨v4, rfl, ho4, hb4⟩; obtain ⟨a4, k4, e4, -⟩ := ho4.reads; rw [e4] at ho4 ⊢; have HO4 := Lib.hid ho4; have HB34 := Lib.hid hb4; have HB4 := Lib.hid (nb_trans HB3.out hb4); clear ho4 hb4 e4; refine Hid.out ?_)
    refine Lib.hid ?_
    have HAP2 := Lib.hid (apply_any _ _ z1 (invC c) W4 (HI1.out.later HB4.out) HO4.out.reads (inv_i64 HI64.out) (HV.out.later HB4.out))
    go_wp2_with (go_at_call 12; refine HAP2.out.mono ?_; rintro e W5 hp; obtain ⟨x5, k5, rfl, ho, hb⟩ := hp.slice; rw [HAM.out.2.1, HAM.out.2.2] at *; have HO5 := Lib.hid ho; have HB45 := Lib.hid hb; have HB5 := Lib.hid (nb_trans HB4.out hb); clear hp ho hb; refine Hid.out ?_)
    refine Lib.hid ?_
    have HBT2 := Lib.hid (between_any _ _ z1 z0 W5 (HI1.out.later HB5.out) (HI0.out.later HB5.out) (HV.out.later HB5.out))
    go_wp2_with (go_at_call 9; refine HBT2.out.mono ?_; rintro e W6 hp; obtain ⟨x6, k6, rfl, ho, hb⟩ := hp.slice; rw [HE2.out.1, HE2.out.2.1] at *; have HB56 := Lib.hid hb; have HB6 := Lib.hid (nb_trans HB5.out hb); clear hp ho hb; refine Hid.out ?_)
    refine Lib.hid ?_
    have HQ1 := Lib.hid (eqRos_any _ _ z1 z1 W6 (HO3.out.later (nb_trans (nb_trans HB34.out HB45.out) HB56.out)).reads (HI1.out.later HB6.out))
    rw [decide_eq_true (rfl : z1 = z1)] at HQ1
    rw [← HSW.out]
    go_wp2_with (go_at_call 14; refine HQ1.out.mono ?_; rintro e W7 ⟨rfl, hb7⟩; have HB67 := Lib.hid hb7; clear hb7; refine Hid.out ?_)
    refine Lib.hid ?_
    have HQ2 := Lib.hid (eqRos_any _ _ z0 z0 W7 (HO5.out.later (nb_trans HB56.out HB67.out)).reads (HI0.out.later (nb_trans HB6.out HB67.out)))
    rw [decide_eq_true (rfl : z0 = z0)] at HQ2
    go_wp2_with (go_at_call 14; refine HQ2.out.mono ?_; rintro e W8 ⟨rfl, hb8⟩; have HB8 := Lib.hid (nb_trans (nb_trans HB6.out HB67.out) hb8); clear hb8)
    go_ret
    exact ⟨rfl, HB8.out⟩
namespace diffBack
theorem own : ownKnob Tryd.prog.godebug = none := by kernel_rfl
theorem laidOut : laidOutB Tryd.prog = true := by kernel_rfl

set_option maxRecDepth 100000 in
set_option maxHeartbeats 4000000 in
theorem lifted (os : Os) (started : os.Started) (H : Type) (enc : TypeId × Value → H) :
    ReturnsInHanded {} Tryd.checked os 6 .any (fun w args => (Rows.diffBackSpec.pre enc Tryd.prog Tryd.f6 Rows.diffBackRow.domain false w args ∧ laidMetH Tryd.prog Rows.diffBackRow.laid w) ∧ sizedMet enc Tryd.prog Tryd.f6 (OpenSpec.ofChange Rows.diffBackSpec) false w args)
      (Rows.diffBackSpec.post enc Tryd.prog Tryd.f6 false true false false) := by
  refine returnsInHanded_laid_shaped (C := Tryd.checked) (X := fun w _ => laidMetH Tryd.prog Rows.diffBackRow.laid w) (fun _ _ _ hh h => h.of_heap hh) own started (by kernel_rfl) Tryd.func6
    (ChangeSpec.witness_shaped (enc := enc) (C := Tryd.checked) (os := os) (X := fun w _ => laidMetH Tryd.prog Rows.diffBackRow.laid w) false (World.laidAll Tryd.prog os Rows.diffBackRow.laid) #[.slice none 0 0, .slice none 0 0] 8 (World.laidAll_os _ _ _)
      (World.shaped_of_ZipB (by kernel_rfl) (by kernel_rfl)) (by kernel_rfl) (by kernel_rfl) (by kernel_rfl)
      (by rw [MakeChecks.laidMetH_plain _ _ _ (by kernel_rfl)]; exact laidMet_laidAll _ (by kernel_rfl) (by kernel_rfl))) ?_
  intro W base args ds gs before hval0 hW hcnd hsz hlaid hshape
  have hval : ∀ (j : Nat) t v, Tryd.f6.params[j]? = some t → args[j]? = some v → Value.okWide Tryd.prog W .any base t v := hval0
  have hW' := hW
  obtain ⟨p, q, hA0, hV, rfl, hfz, hnd⟩ := hW
  have hA : DataW.TrodAll enc Tryd.prog W 0 (fun _ => true) true Tryd.f6.params.toList args.toList ds p := hA0
  rw [Tryd.params6] at hA hval
  obtain ⟨v0, vs0, d0, ds0, p0, q0, hargs, rfl, rfl, h0, r0⟩ := trodAll_cons hA
  obtain ⟨v1, vs1, d1, ds1, p1, q1, rfl, rfl, rfl, h1, r1⟩ := trodAll_cons r0
  obtain ⟨rfl, rfl, rfl⟩ := trodAll_nil r1
  obtain rfl : args = #[v0, v1] := by cases args; simp_all
  obtain ⟨rfl, rfl⟩ := trodVars_none hV
  have k0' := h0
  have lt0 : ∀ x ∈ p0, x.block < W.heap.size := by obtain ⟨m, hm⟩ := h0; exact DataW.trod_lt m _ _ _ hm
  have k1' := h1
  have lt1 : ∀ x ∈ p1, x.block < W.heap.size := by obtain ⟨m, hm⟩ := h1; exact DataW.trod_lt m _ _ _ hm
  obtain ⟨z0, i0, j0⟩ : ∃ zs, Reads elRo W v0 zs ∧ ∀ x ∈ zs, I64 x.1.1 ∧ I64 x.1.2 := by
    obtain ⟨a0, len0, cap0, rfl⟩ := okWide_slice Tryd.underlying22 (hval 0 22 v0 rfl rfl)
    exact Reads_ofP elRo (fun x => I64 x.1.1 ∧ I64 x.1.2) Tryd.underlying22 (by kernel_rfl) ro_dec h0
  obtain ⟨z1, i1, j1⟩ : ∃ zs, Reads elRo W v1 zs ∧ ∀ x ∈ zs, I64 x.1.1 ∧ I64 x.1.2 := by
    obtain ⟨a0, len0, cap0, rfl⟩ := okWide_slice Tryd.underlying22 (hval 1 22 v1 rfl rfl)
    exact Reads_ofP elRo (fun x => I64 x.1.1 ∧ I64 x.1.2) Tryd.underlying22 (by kernel_rfl) ro_dec h1
  rw [Tryd.params6] at hsz
  have s0 : z0.length * 88 ≤ 140737488351232 := by
    obtain ⟨aa, cc, ee, _⟩ := i0
    have hh := k0'
    rw [ee] at hh
    exact trod_len Tryd.underlying22 (show Tryd.prog.bytesOf 33 = 88 by kernel_rfl) hh (fun el sp hd => sized_slice hsz (j := 0) (t := 22) rfl (by rw [hd]; rfl) Tryd.underlying22)
  have s1 : z1.length * 88 ≤ 140737488351232 := by
    obtain ⟨aa, cc, ee, _⟩ := i1
    have hh := k1'
    rw [ee] at hh
    exact trod_len Tryd.underlying22 (show Tryd.prog.bytesOf 33 = 88 by kernel_rfl) hh (fun el sp hd => sized_slice hsz (j := 1) (t := 22) rfl (by rw [hd]; rfl) Tryd.underlying22)
  clear hA0 hval0
  refine (diffBack_walk v0 z0 j0 v1 z1 j1 W (DVars.of hlaid hshape) i0 i1 s0 s1).mono fun e W' ⟨he, bel⟩ => ?_
  subst he
  exact ⟨_, rfl, _, _, _, [], _, [], hW', trodAll_mk1 (shut_bool Tryd.underlying4 _), (trodAll_cons_mk (Below.trod laidOut (by kernel_rfl) (of_decide_eq_true (by kernel_rfl)) k0' bel lt0) (trodAll_cons_mk (Below.trod laidOut (by kernel_rfl) (of_decide_eq_true (by kernel_rfl)) k1' bel lt1) trodAll_mk0)), rfl, bel.frame _, fun h => by cases h⟩
end diffBack

theorem diffBack_proved : Rows.DiffBackSaid :=
  OpenClaim.holds_of_wide 6 Tryd.f6 rfl rfl rfl rfl rfl rfl rfl ⟨rfl, rfl, rfl, rfl, rfl⟩ rfl rfl rfl rfl rfl (by kernel_rfl) Tryd.func6 (by kernel_rfl)
    (of_decide_eq_true (by kernel_rfl)) (by unfold Func.isWrapper; first | (rw [if_pos (by decide +kernel)]; kernel_rfl) | (rw [if_neg (by decide +kernel)]; exact ⟨rfl, rfl⟩))
    (fun os started H enc _ => diffBack.lifted os started H enc)
theorem diffBack_card : Rows.DiffBackCardSaid :=
  Claim7.holds_tied_plain_at .later [] [.data] true (true, "5744bf50b583b4f895a874b1d353a44e716c7019805afb55676c9ca9fd18b970") true diffBack_proved (fun _ h => by cases h) (by kernel_rfl) (fun _ h => by cases h) diffBack_row_tie rfl ⟨rfl, rfl⟩ (by kernel_rfl) rfl
    (fun f fn hf hfn => by
      obtain rfl : f = 6 := Option.some.inj ((show Tryd.prog.funcNamed Rows.diffBackRow.func = some 6 by kernel_rfl).symm.trans hf) |>.symm
      obtain rfl : fn = Tryd.f6 := (Option.some.inj (Tryd.func6.symm.trans hfn)).symm
      exact ⟨by kernel_rfl, fun j t ht => by
        rw [Tryd.params6] at ht
        have hm : t ∈ [22, 22] := by simpa using Array.mem_of_getElem? ht
        have hall : ([22, 22].all fun u => !Tryd.prog.wantsStandIn u) = true := by kernel_rfl
        exact (show Tryd.prog.wantsStandIn t = false by simpa using List.all_eq_true.1 hall t hm)⟩)
    (by kernel_rfl)

end Go.Proofs.YtcmpaohefihijaaDoor

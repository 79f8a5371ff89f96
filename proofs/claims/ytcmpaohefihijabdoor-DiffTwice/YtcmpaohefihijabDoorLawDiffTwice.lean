/- Inverting twice restores the changes; applied and turned round they lead back: the statement DiffTwice. -/
import Derived.Test.YtcmpaohefihijabDoorDiffTold
import Derived.Test.YtcmpaohefihijabDoorDiffInv
import Derived.Test.YtcmpaohefihijabDoorLaidKit
import Derived.Test.YtcmpaohefihijabDoorGroundA
namespace Go.Proofs.YtcmpaohefihijabDoor
set_option maxRecDepth 8000
open Go Go.ChangeShapes Go.WideShapes Go.ChangeAt Go.RowKit
set_option linter.unusedVariables false
set_option maxRecDepth 100000 in
set_option maxHeartbeats 8000000 in
theorem diffTwice_walk (u0 : Value) (z0 : List Ro) (j0 : ∀ x ∈ z0, I64 x.1.1 ∧ I64 x.1.2) (u1 : Value) (z1 : List Ch) (j1 : ∀ x ∈ z1, I64 x.1.1 ∧ I64 x.1.2) (w : World) (hv : DVars w) (i0 : Reads elRo w u0 z0) (i1 : Reads elCh w u1 z1) (s0 : z0.length * 88 ≤ 140737488351232) (s1 : z1.length * 160 ≤ 140737488351232) :
    Calls Tryd.prog 4 #[u0, u1] w fun e w' => e = .returned (.bool true) ∧ Below w.heap.size w w' := by
  have HI0 := Lib.hid i0
  obtain ⟨ad0, ln0, cp0, ue0⟩ : ∃ a k c, u0 = .slice a k c := by obtain ⟨a, c, e, _⟩ := i0; exact ⟨_, _, _, e⟩
  have hl0 : ln0 = z0.length := by obtain ⟨a, c, e, _⟩ := i0; rw [e] at ue0; cases ue0; rfl
  have HI1 := Lib.hid i1
  obtain ⟨ad1, ln1, cp1, ue1⟩ : ∃ a k c, u1 = .slice a k c := by obtain ⟨a, c, e, _⟩ := i1; exact ⟨_, _, _, e⟩
  have hl1 : ln1 = z1.length := by obtain ⟨a, c, e, _⟩ := i1; rw [e] at ue1; cases ue1; rfl
  subst hl0 hl1
  clear i0 i1
  subst ue0 ue1
  have HV := Lib.hid hv
  have HTL := Lib.hid (differed_any w hv)
  clear hv
  have HJ := Lib.hid j1
  have HS1 := Lib.hid s1
  go_enter Tryd.func4, Tryd.ntmps4
  go_wp2_with (go_at_call 5; refine HTL.out.mono ?_; rintro e W1 ⟨rfl, hb1⟩; refine Hid.out ?_)
  refine Lib.hid ?_
  have HB1 := Lib.hid hb1
  clear hb1 HTL
  have HNV := Lib.hid (invert_any _ z1 W1 (HI1.out.later HB1.out) HS1.out)
  go_wp2_with (go_at_call 10; refine HNV.out.mono ?_; rintro e W2 ⟨v9, rfl, ho, hb⟩; obtain ⟨x2, x2k, e9, -⟩ := ho.reads; rw [e9] at ho ⊢; have HO2 := Lib.hid ho; have HBd2 := Lib.hid hb; have HB2 := Lib.hid (nb_trans HB1.out hb); clear ho hb e9; refine Hid.out ?_)
  refine Lib.hid ?_
  have HNV2 := Lib.hid (invert_any _ (invC z1) W2 HO2.out.reads (by rw [inv_len]; exact HS1.out))
  go_wp2_with (go_at_call 10; refine HNV2.out.mono ?_; rintro e W3 ⟨v9, rfl, ho, hb⟩; obtain ⟨x3, x3k, e9, -⟩ := ho.reads; rw [e9] at ho ⊢; have HO3 := Lib.hid ho; have HBd3 := Lib.hid hb; have HB3 := Lib.hid (nb_trans HB2.out hb); clear ho hb e9; refine Hid.out ?_)
  refine Lib.hid ?_
  have HQ := Lib.hid (eqChs_any _ _ (invC (invC z1)) z1 W3 HO3.out.reads (HI1.out.later HB3.out))
  rw [decide_eq_true (inv_inv z1)] at HQ
  go_wp2_with (go_at_call 9; refine HQ.out.mono ?_; rintro e W4 ⟨rfl, hb⟩; have HB4 := Lib.hid (nb_trans HB3.out hb); clear hb; refine Hid.out ?_)
  refine Lib.hid ?_
  have HAP := Lib.hid (apply_any _ _ z0 z1 W4 (HI0.out.later HB4.out) (HI1.out.later HB4.out) HJ.out (HV.out.later HB4.out))
  go_wp2_with (go_at_call 7; refine HAP.out.mono ?_; rintro e W5 hp; obtain ⟨x5, k5, rfl, ho, hb⟩ := hp.slice; have HO5 := Lib.hid ho; have HB5 := Lib.hid (nb_trans HB4.out hb); clear hp ho hb; refine Hid.out ?_)
  refine Lib.hid ?_
  obtain ⟨z, hz⟩ : ∃ z, appE z0 z1 = z := ⟨_, rfl⟩
  by_cases h0 : z = 0
  · have h00 := hz.trans h0
    have HTW := Lib.hid (app_twice h00)
    obtain ⟨n1, hn1⟩ : ∃ n1, z1.length = n1 := ⟨_, rfl⟩
    have h120 := (appE_zero.1 h00).2.1
    rw [hn1] at h120
    have HJI : Hid (∀ x ∈ invC z1, I64 x.1.1 ∧ I64 x.1.2) := Lib.hid (inv_i64 HJ.out)
    have hng : ¬ (120 : Int) < (n1 : Int) := by omega
    rw [hz, h0]
    generalize appR z0 z1 = R at *
    clear h00 hz
    have HNV3 := Lib.hid (invert_any _ z1 W5 (HI1.out.later HB5.out) HS1.out)
    rw [hn1] at HNV3 ⊢
    have HN1 := Lib.hid hn1
    clear hn1 h0
    go_wp2_with (go_at_call 10; refine HNV3.out.mono ?_; rintro e W6 ⟨v9, rfl, ho, hb⟩; obtain ⟨x6, x6k, e9, -⟩ := ho.reads; rw [e9] at ho ⊢; have HO6 := Lib.hid ho; have HBd6 := Lib.hid hb; have HB6 := Lib.hid (nb_trans HB5.out hb); clear ho hb e9; refine Hid.out ?_)
    refine Lib.hid ?_
    have HAP2 := Lib.hid (apply_any _ _ R (invC z1) W6 (HO5.out.later HBd6.out).reads HO6.out.reads HJI.out (HV.out.later HB6.out))
    go_wp2_with (go_at_call 7; refine HAP2.out.mono ?_; rintro e W7 hp; obtain ⟨x7, k7, rfl, ho, hb⟩ := hp.slice; rw [HTW.out.1, HTW.out.2] at *; have HO7 := Lib.hid ho; have HB7 := Lib.hid (nb_trans HB6.out hb); clear hp ho hb; refine Hid.out ?_)
    refine Lib.hid ?_
    have HQ2 := Lib.hid (eqRos_any _ _ z0 z0 W7 HO7.out.reads (HI0.out.later HB7.out))
    rw [decide_eq_true (rfl : z0 = z0)] at HQ2
    go_wp2_with (go_at_call 8; refine HQ2.out.mono ?_; rintro e W8 ⟨rfl, hb8⟩; have HB8 := Lib.hid (nb_trans HB7.out hb8); clear hb8)
    go_ret
    exact ⟨rfl, HB8.out⟩
  · have hR : appR z0 z1 = [] := if_neg (by rw [hz]; exact h0)
    have hzb : (z != 0) = true := by simpa using h0
    rw [hz, hR]
    clear hz hR h0 HO5
    go_wp2
    go_ret
    exact ⟨rfl, HB5.out⟩
namespace diffTwice
theorem own : ownKnob Tryd.prog.godebug = none := by kernel_rfl
theorem laidOut : laidOutB Tryd.prog = true := by kernel_rfl

set_option maxRecDepth 100000 in
set_option maxHeartbeats 4000000 in
theorem lifted (os : Os) (started : os.Started) (H : Type) (enc : TypeId × Value → H) :
    ReturnsInHanded {} Tryd.checked os 4 .any (fun w args => (Rows.diffTwiceSpec.pre enc Tryd.prog Tryd.f4 Rows.diffTwiceRow.domain false w args ∧ laidMetH Tryd.prog Rows.diffTwiceRow.laid w) ∧ sizedMet enc Tryd.prog Tryd.f4 (OpenSpec.ofChange Rows.diffTwiceSpec) false w args)
      (Rows.diffTwiceSpec.post enc Tryd.prog Tryd.f4 false true false false) := by
  refine returnsInHanded_laid_shaped (C := Tryd.checked) (X := fun w _ => laidMetH Tryd.prog Rows.diffTwiceRow.laid w) (fun _ _ _ hh h => h.of_heap hh) own started (by kernel_rfl) Tryd.func4
    (ChangeSpec.witness_shaped (enc := enc) (C := Tryd.checked) (os := os) (X := fun w _ => laidMetH Tryd.prog Rows.diffTwiceRow.laid w) false (World.laidAll Tryd.prog os Rows.diffTwiceRow.laid) #[.slice none 0 0, .slice none 0 0] 8 (World.laidAll_os _ _ _)
      (World.shaped_of_ZipB (by kernel_rfl) (by kernel_rfl)) (by kernel_rfl) (by kernel_rfl) (by kernel_rfl)
      (by rw [MakeChecks.laidMetH_plain _ _ _ (by kernel_rfl)]; exact laidMet_laidAll _ (by kernel_rfl) (by kernel_rfl))) ?_
  intro W base args ds gs before hval0 hW hcnd hsz hlaid hshape
  have hval : ∀ (j : Nat) t v, Tryd.f4.params[j]? = some t → args[j]? = some v → Value.okWide Tryd.prog W .any base t v := hval0
  have hW' := hW
  obtain ⟨p, q, hA0, hV, rfl, hfz, hnd⟩ := hW
  have hA : DataW.TrodAll enc Tryd.prog W 0 (fun _ => true) true Tryd.f4.params.toList args.toList ds p := hA0
  rw [Tryd.params4] at hA hval
  obtain ⟨v0, vs0, d0, ds0, p0, q0, hargs, rfl, rfl, h0, r0⟩ := trodAll_cons hA
  obtain ⟨v1, vs1, d1, ds1, p1, q1, rfl, rfl, rfl, h1, r1⟩ := trodAll_cons r0
  obtain ⟨rfl, rfl, rfl⟩ := trodAll_nil r1
  obtain rfl : args = #[v0, v1] := by cases args; simp_all
  obtain ⟨rfl, rfl⟩ := trodVars_none hV
  have k0' := h0
  have lt0 : ∀ x ∈ p0, x.block < W.heap.size := by obtain ⟨m, hm⟩ := h0; exact DataW.trod_lt m _ _ _ hm
  have k1' := h1
  have lt1 : ∀ x ∈ p1, x.block < W.heap.size := by obtain ⟨m, hm⟩ := h1; exact DataW.trod_lt m _ _ _ hm
  obtain ⟨z0, i0, j0⟩ : ∃ zs, Reads elRo W v0 zs ∧ ∀ x ∈ zs, I64 x.1.1 ∧ I64 x.1.2 := by
    obtain ⟨a0, len0, cap0, rfl⟩ := okWide_slice Tryd.underlying22 (hval 0 22 v0 rfl rfl)
    exact Reads_ofP elRo (fun x => I64 x.1.1 ∧ I64 x.1.2) Tryd.underlying22 (by kernel_rfl) ro_dec h0
  obtain ⟨z1, i1, j1⟩ : ∃ zs, Reads elCh W v1 zs ∧ ∀ x ∈ zs, I64 x.1.1 ∧ I64 x.1.2 := by
    obtain ⟨a0, len0, cap0, rfl⟩ := okWide_slice Tryd.underlying24 (hval 1 24 v1 rfl rfl)
    exact Reads_ofP elCh (fun x => I64 x.1.1 ∧ I64 x.1.2) Tryd.underlying24 (by kernel_rfl) ch_dec h1
  rw [Tryd.params4] at hsz
  have s0 : z0.length * 88 ≤ 140737488351232 := by
    obtain ⟨aa, cc, ee, _⟩ := i0
    have hh := k0'
    rw [ee] at hh
    exact trod_len Tryd.underlying22 (show Tryd.prog.bytesOf 37 = 88 by kernel_rfl) hh (fun el sp hd => sized_slice hsz (j := 0) (t := 22) rfl (by rw [hd]; rfl) Tryd.underlying22)
  have s1 : z1.length * 160 ≤ 140737488351232 := by
    obtain ⟨aa, cc, ee, _⟩ := i1
    have hh := k1'
    rw [ee] at hh
    exact trod_len Tryd.underlying24 (show Tryd.prog.bytesOf 41 = 160 by kernel_rfl) hh (fun el sp hd => sized_slice hsz (j := 1) (t := 24) rfl (by rw [hd]; rfl) Tryd.underlying24)
  clear hA0 hval0
  refine (diffTwice_walk v0 z0 j0 v1 z1 j1 W (DVars.of hlaid hshape) i0 i1 s0 s1).mono fun e W' ⟨he, bel⟩ => ?_
  subst he
  exact ⟨_, rfl, _, _, _, [], _, [], hW', trodAll_mk1 (shut_bool Tryd.underlying4 _), (trodAll_cons_mk (Below.trod laidOut (by kernel_rfl) (of_decide_eq_true (by kernel_rfl)) k0' bel lt0) (trodAll_cons_mk (Below.trod laidOut (by kernel_rfl) (of_decide_eq_true (by kernel_rfl)) k1' bel lt1) trodAll_mk0)), rfl, bel.frame _, fun h => by cases h⟩
end diffTwice

theorem diffTwice_proved : Rows.DiffTwiceSaid :=
  OpenClaim.holds_of_wide 4 Tryd.f4 rfl rfl rfl rfl rfl rfl rfl ⟨rfl, rfl, rfl, rfl, rfl⟩ rfl rfl rfl rfl rfl (by kernel_rfl) Tryd.func4 (by kernel_rfl)
    (of_decide_eq_true (by kernel_rfl)) (by unfold Func.isWrapper; first | (rw [if_pos (by decide +kernel)]; kernel_rfl) | (rw [if_neg (by decide +kernel)]; exact ⟨rfl, rfl⟩))
    (fun os started H enc _ => diffTwice.lifted os started H enc)
theorem diffTwice_card : Rows.DiffTwiceCardSaid :=
  Claim7.holds_tied_plain_at .later [] [.data] true (true, "184096efa7cc00e0c1a0bbd8388310f7c4370038c7141431820d95557a40473b") true diffTwice_proved (fun _ h => by cases h) (by kernel_rfl) (fun _ h => by cases h) diffTwice_row_tie rfl ⟨rfl, rfl⟩ (by kernel_rfl) rfl
    (fun f fn hf hfn => by
      obtain rfl : f = 4 := Option.some.inj ((show Tryd.prog.funcNamed Rows.diffTwiceRow.func = some 4 by kernel_rfl).symm.trans hf) |>.symm
      obtain rfl : fn = Tryd.f4 := (Option.some.inj (Tryd.func4.symm.trans hfn)).symm
      exact ⟨by kernel_rfl, fun j t ht => by
        rw [Tryd.params4] at ht
        have hm : t ∈ [22, 24] := by simpa using Array.mem_of_getElem? ht
        have hall : ([22, 24].all fun u => !Tryd.prog.wantsStandIn u) = true := by kernel_rfl
        exact (show Tryd.prog.wantsStandIn t = false by simpa using List.all_eq_true.1 hall t hm)⟩)
    (by kernel_rfl)

end Go.Proofs.YtcmpaohefihijabDoor

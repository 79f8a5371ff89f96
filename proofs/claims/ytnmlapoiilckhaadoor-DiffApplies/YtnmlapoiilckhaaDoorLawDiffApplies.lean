/- The program does changes as the reference does: the statement DiffApplies. -/
import Derived.Test.YtnmlapoiilckhaaDoorDiffTold
import Derived.Test.YtnmlapoiilckhaaDoorRefDiffApp
import Derived.Test.YtnmlapoiilckhaaDoorLaidKit
import Derived.Test.YtnmlapoiilckhaaDoorGroundA
namespace Go.Proofs.YtnmlapoiilckhaaDoor
set_option maxRecDepth 8000
open Go Go.ChangeShapes Go.WideShapes Go.ChangeAt Go.RowKit
set_option linter.unusedVariables false
set_option linter.unusedSimpArgs false
set_option maxRecDepth 100000 in
set_option maxHeartbeats 8000000 in
theorem diffApplies_walk (u0 : Value) (z0 : List Ro) (j0 : ∀ x ∈ z0, I64 x.1.1 ∧ I64 x.1.2) (u1 : Value) (z1 : List Ch) (j1 : ∀ x ∈ z1, I64 x.1.1 ∧ I64 x.1.2) (w : World) (hv : DVars w) (i0 : Reads elRo w u0 z0) (i1 : Reads elCh w u1 z1) (s0 : z0.length * 88 ≤ 140737488351232) (s1 : z1.length * 160 ≤ 140737488351232) :
    Calls Tryd.prog 4 #[u0, u1] w fun e w' => e = .returned (.bool true) ∧ Below w.heap.size w w' := by
  have HI0 := Lib.hid i0
  obtain ⟨ad0, ln0, cp0, ue0⟩ : ∃ a k c, u0 = .slice a k c := by obtain ⟨a, c, e, _⟩ := i0; exact ⟨_, _, _, e⟩
  have HI1 := Lib.hid i1
  obtain ⟨ad1, ln1, cp1, ue1⟩ : ∃ a k c, u1 = .slice a k c := by obtain ⟨a, c, e, _⟩ := i1; exact ⟨_, _, _, e⟩
  clear i0 i1
  subst ue0 ue1
  have HV := Lib.hid hv
  clear hv
  obtain ⟨L, hL⟩ : ∃ L, appR z0 z1 = L := ⟨_, rfl⟩
  obtain ⟨d, hd⟩ : ∃ d, appE z0 z1 = d := ⟨_, rfl⟩
  obtain ⟨ln, hln⟩ : ∃ ln, L.length = ln := ⟨_, rfl⟩
  have HPO : Hid (∀ (W : World) (e : Ending) (W' : World), AppPost W z0 z1 e W' → ∃ x c, e = .returned (.tuple #[.slice x ln c, .int .i64 d]) ∧ Reads elRo W' (.slice x ln c) L ∧ Below W.heap.size W W') := Lib.hid (fun W e W' h => by
    obtain ⟨x, c, he, ho, hb⟩ := h.slice
    rw [hL, hln] at ho
    rw [hL, hln, hd] at he
    exact ⟨x, c, he, ho.reads, hb⟩)
  have HPR : Hid (∀ (W : World) (e : Ending) (W' : World), RAppPost W z0 z1 e W' → ∃ x c, e = .returned (.tuple #[.slice x ln c, .int .i64 d]) ∧ Reads elRo W' (.slice x ln c) L ∧ Below W.heap.size W W') := Lib.hid (fun W e W' h => by
    obtain ⟨x, c, he, ho, hb⟩ := h.slice
    rw [hL, hln] at ho
    rw [hL, hln, hd] at he
    exact ⟨x, c, he, ho, hb⟩)
  have hdd : (d == d) = true := by simp
  clear hL hd hln
  have HP1 := Lib.hid (apply_any _ _ z0 z1 w HI0.out HI1.out j1 HV.out)
  go_enter Tryd.func4, Tryd.ntmps4
  go_wp2_with (go_at_call 12; refine HP1.out.mono ?_; rintro e W1 hp; obtain ⟨x1, c1, rfl, ho, hb⟩ := HPO.out _ _ _ hp; have HR1 := Lib.hid ho; have HB1 := Lib.hid hb; clear hp ho hb; refine Hid.out ?_)
  refine Lib.hid ?_
  have HP2 := Lib.hid (refApply_any _ _ z0 z1 W1 (HI0.out.later HB1.out) (HI1.out.later HB1.out))
  go_wp2_with (go_at_call 13; refine HP2.out.mono ?_; rintro e W2 hp; obtain ⟨x2, c2, rfl, ho, hb⟩ := HPR.out _ _ _ hp; have HR2 := Lib.hid ho; have HR12 := Lib.hid (HR1.out.later hb); have HB2 := Lib.hid (nb_trans HB1.out hb); clear hp ho hb; refine Hid.out ?_)
  refine Lib.hid ?_
  have HX : Hid (Below w.heap.size w (W2.alloc (.cells (elRo.enc ((-1, 0), (0, 0, 0, 0, 0, 0, 0, 0, 0))).toArray 33))) := Lib.hid (nb_alloc HB2.out _)
  have HBT := Lib.hid (between_any _ _ [((-1, 0), (0, 0, 0, 0, 0, 0, 0, 0, 0))] [] _ (Reads.oneRo (heap_alloc_new W2 (.cells (elRo.enc ((-1, 0), (0, 0, 0, 0, 0, 0, 0, 0, 0))).toArray 33))) (Reads.nil elRo _) (HV.out.later HX.out))
  have htn : (valid [((-1, 0), (0, 0, 0, 0, 0, 0, 0, 0, 0))] && valid []) = false := by kernel_rfl
  have HTN := Lib.hid (betE_no htn)
  have HA1 := Lib.hid (HR12.out.later (nb_alloc (Below.refl W2.heap.size W2) (.cells (elRo.enc ((-1, 0), (0, 0, 0, 0, 0, 0, 0, 0, 0))).toArray 33)))
  have HA2 := Lib.hid (HR2.out.later (nb_alloc (Below.refl W2.heap.size W2) (.cells (elRo.enc ((-1, 0), (0, 0, 0, 0, 0, 0, 0, 0, 0))).toArray 33)))
  clear htn
  go_wp2_with (go_at_call 9; refine HBT.out.mono ?_; rintro e W3 hp; obtain ⟨x, xc, rfl, ho, hb⟩ := hp.slice; rw [HTN.out.1, HTN.out.2] at *; have HD1 := Lib.hid (HA1.out.later hb); have HD2 := Lib.hid (HA2.out.later hb); have HB3 := Lib.hid (nb_trans HX.out hb); clear hp ho hb; refine Hid.out ?_)
  refine Lib.hid ?_
  have HQ := Lib.hid (eqRos_any _ _ L L W3 HD1.out HD2.out)
  rw [decide_eq_true (rfl : L = L)] at HQ
  go_wp2_with (go_at_call 14; refine HQ.out.mono ?_; rintro e W4 ⟨rfl, hb⟩; have HB4 := Lib.hid (nb_trans HB3.out hb); clear hb)
  go_ret
  exact ⟨rfl, HB4.out⟩
namespace diffApplies
theorem own : ownKnob Tryd.prog.godebug = none := by kernel_rfl
theorem laidOut : laidOutB Tryd.prog = true := by kernel_rfl

set_option maxRecDepth 100000 in
set_option maxHeartbeats 4000000 in
theorem lifted (os : Os) (started : os.Started) (H : Type) (enc : TypeId × Value → H) :
    ReturnsInHanded {} Tryd.checked os 4 .any (fun w args => (Rows.diffAppliesSpec.pre enc Tryd.prog Tryd.f4 Rows.diffAppliesRow.domain false w args ∧ laidMetH Tryd.prog Rows.diffAppliesRow.laid w) ∧ sizedMet enc Tryd.prog Tryd.f4 (OpenSpec.ofChange Rows.diffAppliesSpec) false w args)
      (Rows.diffAppliesSpec.post enc Tryd.prog Tryd.f4 false true false false) := by
  refine returnsInHanded_laid_shaped (C := Tryd.checked) (X := fun w _ => laidMetH Tryd.prog Rows.diffAppliesRow.laid w) (fun _ _ _ hh h => h.of_heap hh) own started (by kernel_rfl) Tryd.func4
    (ChangeSpec.witness_shaped (enc := enc) (C := Tryd.checked) (os := os) (X := fun w _ => laidMetH Tryd.prog Rows.diffAppliesRow.laid w) false (World.laidAll Tryd.prog os Rows.diffAppliesRow.laid) #[.slice none 0 0, .slice none 0 0] 8 (World.laidAll_os _ _ _)
      (World.shaped_of_ZipB (by kernel_rfl) (by kernel_rfl)) (by kernel_rfl) (by kernel_rfl) (by kernel_rfl)
      (by rw [MakeChecks.laidMetH_plain _ _ _ (by kernel_rfl)]; exact laidMet_laidAll _ (by kernel_rfl) (by kernel_rfl))) ?_
  intro W base args ds gs before hval0 hW hcnd hsz hlaid hshape
  have hval : ∀ (j : Nat) t v, Tryd.f4.params[j]? = some t → args[j]? = some v → Value.okWide Tryd.prog W .any base t v := hval0
  have hW' := hW
  obtain ⟨p, q, hA0, hV, rfl, hfz, hnd⟩ := hW
  have hA : DataW.TrodAll enc Tryd.prog W 0 (fun _ => true) true Tryd.f4.params.toList args.toList ds p := hA0
  rw [Tryd.params4] at hA hval
  obtain ⟨v0, vs0, d0, ds0, p0, q0, hargs, rfl, rfl, h0, r0⟩ := trodAll_cons hA
  obtain ⟨v1, vs1, d1, ds1, p1, q1, rfl, rfl, rfl, h1, r1⟩ := trodAll_cons r0
  obtain ⟨rfl, rfl, rfl⟩ := trodAll_nil r1
  obtain rfl : args = #[v0, v1] := by cases args; simp_all
  obtain ⟨rfl, rfl⟩ := trodVars_none hV
  have k0' := h0
  have lt0 : ∀ x ∈ p0, x.block < W.heap.size := by obtain ⟨m, hm⟩ := h0; exact DataW.trod_lt m _ _ _ hm
  have k1' := h1
  have lt1 : ∀ x ∈ p1, x.block < W.heap.size := by obtain ⟨m, hm⟩ := h1; exact DataW.trod_lt m _ _ _ hm
  obtain ⟨z0, i0, j0⟩ : ∃ zs, Reads elRo W v0 zs ∧ ∀ x ∈ zs, I64 x.1.1 ∧ I64 x.1.2 := by
    obtain ⟨a0, len0, cap0, rfl⟩ := okWide_slice Tryd.underlying22 (hval 0 22 v0 rfl rfl)
    exact Reads_ofP elRo (fun x => I64 x.1.1 ∧ I64 x.1.2) Tryd.underlying22 (by kernel_rfl) ro_dec h0
  obtain ⟨z1, i1, j1⟩ : ∃ zs, Reads elCh W v1 zs ∧ ∀ x ∈ zs, I64 x.1.1 ∧ I64 x.1.2 := by
    obtain ⟨a0, len0, cap0, rfl⟩ := okWide_slice Tryd.underlying23 (hval 1 23 v1 rfl rfl)
    exact Reads_ofP elCh (fun x => I64 x.1.1 ∧ I64 x.1.2) Tryd.underlying23 (by kernel_rfl) ch_dec h1
  rw [Tryd.params4] at hsz
  have s0 : z0.length * 88 ≤ 140737488351232 := by
    obtain ⟨aa, cc, ee, _⟩ := i0
    have hh := k0'
    rw [ee] at hh
    exact trod_len Tryd.underlying22 (show Tryd.prog.bytesOf 33 = 88 by kernel_rfl) hh (fun el sp hd => sized_slice hsz (j := 0) (t := 22) rfl (by rw [hd]; rfl) Tryd.underlying22)
  have s1 : z1.length * 160 ≤ 140737488351232 := by
    obtain ⟨aa, cc, ee, _⟩ := i1
    have hh := k1'
    rw [ee] at hh
    exact trod_len Tryd.underlying23 (show Tryd.prog.bytesOf 36 = 160 by kernel_rfl) hh (fun el sp hd => sized_slice hsz (j := 1) (t := 23) rfl (by rw [hd]; rfl) Tryd.underlying23)
  clear hA0 hval0
  refine (diffApplies_walk v0 z0 j0 v1 z1 j1 W (DVars.of hlaid hshape) i0 i1 s0 s1).mono fun e W' ⟨he, bel⟩ => ?_
  subst he
  exact ⟨_, rfl, _, _, _, [], _, [], hW', trodAll_mk1 (shut_bool Tryd.underlying4 _), (trodAll_cons_mk (Below.trod laidOut (by kernel_rfl) (of_decide_eq_true (by kernel_rfl)) k0' bel lt0) (trodAll_cons_mk (Below.trod laidOut (by kernel_rfl) (of_decide_eq_true (by kernel_rfl)) k1' bel lt1) trodAll_mk0)), rfl, bel.frame _, fun h => by cases h⟩
end diffApplies

theorem diffApplies_proved : Rows.DiffAppliesSaid :=
  OpenClaim.holds_of_wide 4 Tryd.f4 rfl rfl rfl rfl rfl rfl rfl ⟨rfl, rfl, rfl, rfl, rfl⟩ rfl rfl rfl rfl rfl (by kernel_rfl) Tryd.func4 (by kernel_rfl)
    (of_decide_eq_true (by kernel_rfl)) (by unfold Func.isWrapper; first | (rw [if_pos (by decide +kernel)]; kernel_rfl) | (rw [if_neg (by decide +kernel)]; exact ⟨rfl, rfl⟩))
    (fun os started H enc _ => diffApplies.lifted os started H enc)
theorem diffApplies_card : Rows.DiffAppliesCardSaid :=
  Claim7.holds_tied_plain_at .later [] [.data] true (true, "5744bf50b583b4f895a874b1d353a44e716c7019805afb55676c9ca9fd18b970") true diffApplies_proved (fun _ h => by cases h) (by kernel_rfl) (fun _ h => by cases h) diffApplies_row_tie rfl ⟨rfl, rfl⟩ (by kernel_rfl) rfl
    (fun f fn hf hfn => by
      obtain rfl : f = 4 := Option.some.inj ((show Tryd.prog.funcNamed Rows.diffAppliesRow.func = some 4 by kernel_rfl).symm.trans hf) |>.symm
      obtain rfl : fn = Tryd.f4 := (Option.some.inj (Tryd.func4.symm.trans hfn)).symm
      exact ⟨by kernel_rfl, fun j t ht => by
        rw [Tryd.params4] at ht
        have hm : t ∈ [22, 23] := by simpa using Array.mem_of_getElem? ht
        have hall : ([22, 23].all fun u => !Tryd.prog.wantsStandIn u) = true := by kernel_rfl
        exact (show Tryd.prog.wantsStandIn t = false by simpa using List.all_eq_true.1 hall t hm)⟩)
    (by kernel_rfl)

end Go.Proofs.YtnmlapoiilckhaaDoor

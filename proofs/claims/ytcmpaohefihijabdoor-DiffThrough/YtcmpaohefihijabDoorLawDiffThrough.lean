/- From the first list to the third it is as over the second: the statement DiffThrough. -/
import Derived.Test.YtcmpaohefihijabDoorDiffTold
import Derived.Test.YtcmpaohefihijabDoorDiffInv
import Derived.Test.YtcmpaohefihijabDoorLaidKit
import Derived.Test.YtcmpaohefihijabDoorGroundA
namespace Go.Proofs.YtcmpaohefihijabDoor
set_option maxRecDepth 8000
open Go Go.ChangeShapes Go.WideShapes Go.ChangeAt Go.RowKit
set_option linter.unusedVariables false
theorem newsCh {w : World} {B : Nat} {T : TypeId} {g n cap : Nat} {xs : List Ch} (h : OwnsF elCh w B T (.slice (some ⟨g, 0, none⟩) n cap) xs) : ∀ j u, (xs.flatMap elCh.enc)[j]? = some u → w.cell? ((⟨g, 0, none⟩ : Addr).add j) = some u := fun j u hu => by
  have en : n = xs.length := by
    rcases h.owns.form with ⟨h', _⟩ | ⟨g', cap', cur, h', _⟩
    · cases h'
    · simpa using (Value.slice.inj h').2.1
  subst en
  have hj : j < xs.length * elCh.size := by have := (List.getElem?_eq_some_iff.1 hu).1; rwa [length_enc] at this
  rw [addr_add', Nat.zero_add, World.ownsRow.cellAt h.owns j hj]
  exact hu
theorem oneChs (xs : List Ch) : ∀ u ∈ xs.flatMap elCh.enc, u.oneCell' = true := fun u hu => by
  obtain ⟨x, _, hx⟩ := List.mem_flatMap.1 hu
  exact elCh.one x u hx
theorem run_app_none (w : World) (t ty e : TypeId) (P : Program) (i : TypeInfo) (ht : P.underlying t = some (.slice e)) (hi : P.info? e = some i) (base : Option Addr) (n cap : Nat) (hle : n ≤ cap) :
    (Builtin.append_ #[t, t] ty #[.slice base n cap, .slice none 0 0]).run P w = .ok (.slice base n cap) w := by
  cases base <;> simp [Builtin.append_, run_underlying ht, sizeOf, typeInfo, hi, hle, storeCells, Builtin.lenOf, Builtin.firstCells]
theorem wpList_app_none {P : Program} {ops : Array Oper} {rest : List Oper} {o : Oper} {a : Act} {w : World} {Q : Exit → Act → World → Prop} (hg : o.guard = none) (s x : Operand) (t e : TypeId) (i : TypeInfo) (ho : o.op = .call { callee := .builtin .append, args := #[s, x], argTypes := #[t, t] }) (ht : P.underlying t = some (.slice e)) (hi : P.info? e = some i) (base : Option Addr) (n cap : Nat) (hle : n ≤ cap) (hs : a.eval s = .slice base n cap) (hx : a.eval x = .slice none 0 0)
    (h : wpList P ops Q rest (a.put o.dst (.slice base n cap)) w) : wpList P ops Q (o :: rest) a w := by
  refine wpList_plain hg fun _ hK => ?_
  unfold Oper.wp execOp
  simp only [ho, resolve, invoke, builtin, Sem.run_bind, Sem.run_pure, Result.andThen_ok, List.map_toArray, List.map_cons, List.map_nil, hs, hx, run_app_none w t o.type e P i ht hi base n cap hle]
  exact hK _ _ h
/-- what is appended to a slice of the call's own: another such slice -/
theorem wpList_appC {ops : Array Oper} {rest : List Oper} {o : Oper} {a : Act} {Q : Exit → Act → World → Prop} {w : World} {B B2 : Nat} {v vx : Value} {xs ys : List Ch} (hg : o.guard = none) (s x : Operand)
    (ho : o.op = .call { callee := .builtin .append, args := #[s, x], argTypes := #[24, 24] }) (hs : a.eval s = v) (hx : a.eval x = vx)
    (h1 : OwnsF elCh w B 41 v xs) (h2 : OwnsF elCh w B2 41 vx ys) (hB : B ≤ w.heap.size) (hl : xs.length + ys.length ≤ 1000)
    (hK : ∀ v' w', OwnsF elCh w' B 41 v' (xs ++ ys) → Kept (fun k => v.ownBlock = some k) w w' → wpList Tryd.prog ops Q rest (a.put o.dst v') w') : wpList Tryd.prog ops Q (o :: rest) a w := by
  obtain ⟨i0, hi, hz0, hz1, hz2⟩ := info_parts infoCh
  rcases h2.owns.form with ⟨rfl, rfl⟩ | ⟨g, cap, cur, rfl, hh, hgl, hn, hcap, hsz⟩
  · obtain ⟨b, cap, rfl, hle, -⟩ := h1.reads
    exact wpList_app_none hg s x _ _ i0 ho Tryd.underlying24 hi b xs.length cap hle hs hx (hK _ w (by rw [List.append_nil]; exact h1) (Kept.refl _ _))
  · refine wpList_append_own w hg s x 24 ho B 41 i0 (chV chZ) 20 160 Tryd.underlying24 hi hz0 hz1 hz2 rfl (by decide) v xs.length (xs.flatMap elCh.enc) hs h1 ⟨g, 0, none⟩ ys.length cap (ys.flatMap elCh.enc) hx (length_enc elCh ys) (newsCh h2) (oneChs ys) (by unfold maxLen; omega) (by omega) hB (fun v' w' hown hgr _ => hK v' w' ?_ (Kept.grown hgr (fun k e => e)))
    unfold OwnsF
    rw [List.flatMap_append, List.length_append]
    exact hown
set_option maxRecDepth 100000 in
set_option maxHeartbeats 8000000 in
theorem diffThrough_walk (u0 : Value) (z0 : List Ro) (j0 : ∀ x ∈ z0, I64 x.1.1 ∧ I64 x.1.2) (u1 : Value) (z1 : List Ro) (j1 : ∀ x ∈ z1, I64 x.1.1 ∧ I64 x.1.2) (u2 : Value) (z2 : List Ro) (j2 : ∀ x ∈ z2, I64 x.1.1 ∧ I64 x.1.2) (w : World) (hv : DVars w) (i0 : Reads elRo w u0 z0) (i1 : Reads elRo w u1 z1) (i2 : Reads elRo w u2 z2) (s0 : z0.length * 88 ≤ 140737488351232) (s1 : z1.length * 88 ≤ 140737488351232) (s2 : z2.length * 88 ≤ 140737488351232) :
    Calls Tryd.prog 3 #[u0, u1, u2] w fun e w' => e = .returned (.bool true) ∧ Below w.heap.size w w' := by
  have HI0 := Lib.hid i0
  obtain ⟨ad0, ln0, cp0, ue0⟩ : ∃ a k c, u0 = .slice a k c := by obtain ⟨a, c, e, _⟩ := i0; exact ⟨_, _, _, e⟩
  have hl0 : ln0 = z0.length := by obtain ⟨a, c, e, _⟩ := i0; rw [e] at ue0; cases ue0; rfl
  have HI1 := Lib.hid i1
  obtain ⟨ad1, ln1, cp1, ue1⟩ : ∃ a k c, u1 = .slice a k c := by obtain ⟨a, c, e, _⟩ := i1; exact ⟨_, _, _, e⟩
  have hl1 : ln1 = z1.length := by obtain ⟨a, c, e, _⟩ := i1; rw [e] at ue1; cases ue1; rfl
  have HI2 := Lib.hid i2
  obtain ⟨ad2, ln2, cp2, ue2⟩ : ∃ a k c, u2 = .slice a k c := by obtain ⟨a, c, e, _⟩ := i2; exact ⟨_, _, _, e⟩
  have hl2 : ln2 = z2.length := by obtain ⟨a, c, e, _⟩ := i2; rw [e] at ue2; cases ue2; rfl
  subst hl0 hl1 hl2
  clear i0 i1 i2
  subst ue0 ue1 ue2
  have HV := Lib.hid hv
  have HTL := Lib.hid (differed_any w hv)
  clear hv
  go_enter Tryd.func3, Tryd.ntmps3
  go_wp2_with (go_at_call 5; refine HTL.out.mono ?_; rintro e W1 ⟨rfl, hb1⟩; refine Hid.out ?_)
  refine Lib.hid ?_
  have HB1 := Lib.hid hb1
  clear hb1 HTL
  have HBT := Lib.hid (between_any _ _ z0 z1 W1 (HI0.out.later HB1.out) (HI1.out.later HB1.out) (HV.out.later HB1.out))
  go_wp2_with (go_at_call 6; refine HBT.out.mono ?_; rintro e W2 hp; obtain ⟨x, xc, rfl, ho, hb⟩ := hp.slice; have HO2 := Lib.hid ho; have HBd2 := Lib.hid hb; have HB2 := Lib.hid (nb_trans HB1.out hb); clear hp ho hb; refine Hid.out ?_)
  refine Lib.hid ?_
  have HBT2 := Lib.hid (between_any _ _ z1 z2 W2 (HI1.out.later HB2.out) (HI2.out.later HB2.out) (HV.out.later HB2.out))
  go_wp2_with (go_at_call 6; refine HBT2.out.mono ?_; rintro e W3 hp; obtain ⟨y, yc, rfl, ho, hb⟩ := hp.slice; have HO3 := Lib.hid ho; have HBd3 := Lib.hid hb; have HB3 := Lib.hid (nb_trans HB2.out hb); clear hp ho hb; refine Hid.out ?_)
  refine Lib.hid ?_
  have HO2' := Lib.hid (HO2.out.later HBd3.out)
  cases h01 : (valid z0 && valid z1)
  · rw [(betE_no h01).1, (betE_no h01).2]
    clear h01
    go_wp2
    go_ret
    exact ⟨rfl, HB3.out⟩
  · cases h12 : (valid z1 && valid z2)
    · rw [(betE_no h12).1, (betE_no h12).2, (betE_both h01).1]
      clear h01 h12
      go_wp2
      go_ret
      exact ⟨rfl, HB3.out⟩
    · obtain ⟨e1, l1, v0, v1⟩ := betE_both h01
      obtain ⟨e2, l2, -, v2⟩ := betE_both h12
      have hb1 : (mrg z0 z1).length ≤ 120 := by have := mrg_len _ z0 z1 (Nat.le_refl _); have := valid_len v0; have := valid_len v1; omega
      have hb2 : (mrg z1 z2).length ≤ 120 := by have := mrg_len _ z1 z2 (Nat.le_refl _); have := valid_len v1; have := valid_len v2; omega
      have HTH := Lib.hid (fun h => app_through v0 v1 v2 h)
      have HI64 : Hid (∀ x ∈ mrg z0 z1 ++ mrg z1 z2, I64 x.1.1 ∧ I64 x.1.2) := Lib.hid (fun x hx => (List.mem_append.1 hx).elim (mrg_i64 v0 v1 x) (mrg_i64 v1 v2 x))
      rw [e1, e2, l1, l2]
      rw [l1] at HO2'
      rw [l2] at HO3
      clear h01 h12 e1 e2 l1 l2 v0 v1 v2 HO2
      obtain ⟨n, hn⟩ : ∃ n, (mrg z0 z1).length = n := ⟨_, rfl⟩
      obtain ⟨n', hn'⟩ : ∃ n', (mrg z1 z2).length = n' := ⟨_, rfl⟩
      rw [hn] at hb1
      rw [hn'] at hb2
      have HN := Lib.hid hn
      have HN' := Lib.hid hn'
      by_cases h120 : n + n' ≤ 120
      · have HT := Lib.hid (HTH.out (by rw [hn, hn']; exact h120))
        have hng : ¬ (120 : Int) < (n : Int) + (n' : Int) := by omega
        have HSZ := Lib.hid (nb_trans HB2.out HBd3.out).size
        have HSB2 := Lib.hid HB2.out.size
        rw [hn] at HO2' ⊢
        rw [hn'] at HO3 ⊢
        clear hn hn'
        go_wp2_with (at_builtin; refine Hid.out ?_)
        refine Lib.hid ?_
        refine wpList_appC rfl _ _ rfl rfl rfl (OwnsF.nil elCh W3 W3.heap.size 41) HO2'.out (Nat.le_refl _) (by rw [HN.out]; simp; omega) ?_
        intro v4 w4 ho4 hg4
        have HB34 : Hid (Below W3.heap.size W3 w4) := Lib.hid (hg4.below (Nat.le_refl _) (fun k e => by have e2 : (none : Option Nat) = some k := e; cases e2))
        have HO4 := Lib.hid ho4
        have HO34 := Lib.hid (HO3.out.later HB34.out)
        clear ho4 hg4
        go_wp2_with (at_builtin; refine Hid.out ?_)
        refine Lib.hid ?_
        refine wpList_appC rfl _ _ rfl rfl rfl HO4.out HO34.out HB34.out.size (by rw [List.nil_append, HN.out, HN'.out]; omega) ?_
        intro v5 w5 ho5 hg5
        have HB35 : Hid (Below W3.heap.size W3 w5) := Lib.hid (HB34.out.trans (hg5.below HB34.out.size (fun k e => HO4.out.ge e)))
        have HB5 := Lib.hid (nb_trans HB3.out HB35.out)
        rw [List.nil_append] at ho5
        have HO5 := Lib.hid ho5
        obtain ⟨x5, k5, e5, -⟩ := ho5.reads
        obtain ⟨n5, hn5⟩ : ∃ n, (mrg z0 z1 ++ mrg z1 z2).length = n := ⟨_, rfl⟩
        rw [hn5] at e5
        rw [e5] at HO5 ⊢
        clear hn5
        clear ho5 hg5 e5
        have HAP := Lib.hid (apply_any _ _ z0 (mrg z0 z1 ++ mrg z1 z2) w5 (HI0.out.later HB5.out) HO5.out.reads HI64.out (HV.out.later HB5.out))
        go_wp2_with (go_at_call 7; refine HAP.out.mono ?_; rintro e W7 hp; obtain ⟨x7, k7, rfl, ho, hb⟩ := hp.slice; rw [HT.out.1, HT.out.2] at *; have HO7 := Lib.hid ho; have HB7 := Lib.hid (nb_trans HB5.out hb); clear hp ho hb; refine Hid.out ?_)
        refine Lib.hid ?_
        have HQ2 := Lib.hid (eqRos_any _ _ z2 z2 W7 HO7.out.reads (HI2.out.later HB7.out))
        rw [decide_eq_true (rfl : z2 = z2)] at HQ2
        go_wp2_with (go_at_call 8; refine HQ2.out.mono ?_; rintro e W8 ⟨rfl, hb8⟩; have HB8 := Lib.hid (nb_trans HB7.out hb8); clear hb8)
        go_ret
        exact ⟨rfl, HB8.out⟩
      · have hng : (120 : Int) < (n : Int) + (n' : Int) := by omega
        rw [hn, hn']
        clear hn hn'
        go_wp2
        go_ret
        exact ⟨rfl, HB3.out⟩
namespace diffThrough
theorem own : ownKnob Tryd.prog.godebug = none := by kernel_rfl
theorem laidOut : laidOutB Tryd.prog = true := by kernel_rfl

set_option maxRecDepth 100000 in
set_option maxHeartbeats 4000000 in
theorem lifted (os : Os) (started : os.Started) (H : Type) (enc : TypeId × Value → H) :
    ReturnsInHanded {} Tryd.checked os 3 .any (fun w args => (Rows.diffThroughSpec.pre enc Tryd.prog Tryd.f3 Rows.diffThroughRow.domain false w args ∧ laidMetH Tryd.prog Rows.diffThroughRow.laid w) ∧ sizedMet enc Tryd.prog Tryd.f3 (OpenSpec.ofChange Rows.diffThroughSpec) false w args)
      (Rows.diffThroughSpec.post enc Tryd.prog Tryd.f3 false true false false) := by
  refine returnsInHanded_laid_shaped (C := Tryd.checked) (X := fun w _ => laidMetH Tryd.prog Rows.diffThroughRow.laid w) (fun _ _ _ hh h => h.of_heap hh) own started (by kernel_rfl) Tryd.func3
    (ChangeSpec.witness_shaped (enc := enc) (C := Tryd.checked) (os := os) (X := fun w _ => laidMetH Tryd.prog Rows.diffThroughRow.laid w) false (World.laidAll Tryd.prog os Rows.diffThroughRow.laid) #[.slice none 0 0, .slice none 0 0, .slice none 0 0] 8 (World.laidAll_os _ _ _)
      (World.shaped_of_ZipB (by kernel_rfl) (by kernel_rfl)) (by kernel_rfl) (by kernel_rfl) (by kernel_rfl)
      (by rw [MakeChecks.laidMetH_plain _ _ _ (by kernel_rfl)]; exact laidMet_laidAll _ (by kernel_rfl) (by kernel_rfl))) ?_
  intro W base args ds gs before hval0 hW hcnd hsz hlaid hshape
  have hval : ∀ (j : Nat) t v, Tryd.f3.params[j]? = some t → args[j]? = some v → Value.okWide Tryd.prog W .any base t v := hval0
  have hW' := hW
  obtain ⟨p, q, hA0, hV, rfl, hfz, hnd⟩ := hW
  have hA : DataW.TrodAll enc Tryd.prog W 0 (fun _ => true) true Tryd.f3.params.toList args.toList ds p := hA0
  rw [Tryd.params3] at hA hval
  obtain ⟨v0, vs0, d0, ds0, p0, q0, hargs, rfl, rfl, h0, r0⟩ := trodAll_cons hA
  obtain ⟨v1, vs1, d1, ds1, p1, q1, rfl, rfl, rfl, h1, r1⟩ := trodAll_cons r0
  obtain ⟨v2, vs2, d2, ds2, p2, q2, rfl, rfl, rfl, h2, r2⟩ := trodAll_cons r1
  obtain ⟨rfl, rfl, rfl⟩ := trodAll_nil r2
  obtain rfl : args = #[v0, v1, v2] := by cases args; simp_all
  obtain ⟨rfl, rfl⟩ := trodVars_none hV
  have k0' := h0
  have lt0 : ∀ x ∈ p0, x.block < W.heap.size := by obtain ⟨m, hm⟩ := h0; exact DataW.trod_lt m _ _ _ hm
  have k1' := h1
  have lt1 : ∀ x ∈ p1, x.block < W.heap.size := by obtain ⟨m, hm⟩ := h1; exact DataW.trod_lt m _ _ _ hm
  have k2' := h2
  have lt2 : ∀ x ∈ p2, x.block < W.heap.size := by obtain ⟨m, hm⟩ := h2; exact DataW.trod_lt m _ _ _ hm
  obtain ⟨z0, i0, j0⟩ : ∃ zs, Reads elRo W v0 zs ∧ ∀ x ∈ zs, I64 x.1.1 ∧ I64 x.1.2 := by
    obtain ⟨a0, len0, cap0, rfl⟩ := okWide_slice Tryd.underlying22 (hval 0 22 v0 rfl rfl)
    exact Reads_ofP elRo (fun x => I64 x.1.1 ∧ I64 x.1.2) Tryd.underlying22 (by kernel_rfl) ro_dec h0
  obtain ⟨z1, i1, j1⟩ : ∃ zs, Reads elRo W v1 zs ∧ ∀ x ∈ zs, I64 x.1.1 ∧ I64 x.1.2 := by
    obtain ⟨a0, len0, cap0, rfl⟩ := okWide_slice Tryd.underlying22 (hval 1 22 v1 rfl rfl)
    exact Reads_ofP elRo (fun x => I64 x.1.1 ∧ I64 x.1.2) Tryd.underlying22 (by kernel_rfl) ro_dec h1
  obtain ⟨z2, i2, j2⟩ : ∃ zs, Reads elRo W v2 zs ∧ ∀ x ∈ zs, I64 x.1.1 ∧ I64 x.1.2 := by
    obtain ⟨a0, len0, cap0, rfl⟩ := okWide_slice Tryd.underlying22 (hval 2 22 v2 rfl rfl)
    exact Reads_ofP elRo (fun x => I64 x.1.1 ∧ I64 x.1.2) Tryd.underlying22 (by kernel_rfl) ro_dec h2
  rw [Tryd.params3] at hsz
  have s0 : z0.length * 88 ≤ 140737488351232 := by
    obtain ⟨aa, cc, ee, _⟩ := i0
    have hh := k0'
    rw [ee] at hh
    exact trod_len Tryd.underlying22 (show Tryd.prog.bytesOf 37 = 88 by kernel_rfl) hh (fun el sp hd => sized_slice hsz (j := 0) (t := 22) rfl (by rw [hd]; rfl) Tryd.underlying22)
  have s1 : z1.length * 88 ≤ 140737488351232 := by
    obtain ⟨aa, cc, ee, _⟩ := i1
    have hh := k1'
    rw [ee] at hh
    exact trod_len Tryd.underlying22 (show Tryd.prog.bytesOf 37 = 88 by kernel_rfl) hh (fun el sp hd => sized_slice hsz (j := 1) (t := 22) rfl (by rw [hd]; rfl) Tryd.underlying22)
  have s2 : z2.length * 88 ≤ 140737488351232 := by
    obtain ⟨aa, cc, ee, _⟩ := i2
    have hh := k2'
    rw [ee] at hh
    exact trod_len Tryd.underlying22 (show Tryd.prog.bytesOf 37 = 88 by kernel_rfl) hh (fun el sp hd => sized_slice hsz (j := 2) (t := 22) rfl (by rw [hd]; rfl) Tryd.underlying22)
  clear hA0 hval0
  refine (diffThrough_walk v0 z0 j0 v1 z1 j1 v2 z2 j2 W (DVars.of hlaid hshape) i0 i1 i2 s0 s1 s2).mono fun e W' ⟨he, bel⟩ => ?_
  subst he
  exact ⟨_, rfl, _, _, _, [], _, [], hW', trodAll_mk1 (shut_bool Tryd.underlying4 _), (trodAll_cons_mk (Below.trod laidOut (by kernel_rfl) (of_decide_eq_true (by kernel_rfl)) k0' bel lt0) (trodAll_cons_mk (Below.trod laidOut (by kernel_rfl) (of_decide_eq_true (by kernel_rfl)) k1' bel lt1) (trodAll_cons_mk (Below.trod laidOut (by kernel_rfl) (of_decide_eq_true (by kernel_rfl)) k2' bel lt2) trodAll_mk0))), rfl, bel.frame _, fun h => by cases h⟩
end diffThrough

theorem diffThrough_proved : Rows.DiffThroughSaid :=
  OpenClaim.holds_of_wide 3 Tryd.f3 rfl rfl rfl rfl rfl rfl rfl ⟨rfl, rfl, rfl, rfl, rfl⟩ rfl rfl rfl rfl rfl (by kernel_rfl) Tryd.func3 (by kernel_rfl)
    (of_decide_eq_true (by kernel_rfl)) (by unfold Func.isWrapper; first | (rw [if_pos (by decide +kernel)]; kernel_rfl) | (rw [if_neg (by decide +kernel)]; exact ⟨rfl, rfl⟩))
    (fun os started H enc _ => diffThrough.lifted os started H enc)
theorem diffThrough_card : Rows.DiffThroughCardSaid :=
  Claim7.holds_tied_plain_at .later [] [.data] true (true, "184096efa7cc00e0c1a0bbd8388310f7c4370038c7141431820d95557a40473b") true diffThrough_proved (fun _ h => by cases h) (by kernel_rfl) (fun _ h => by cases h) diffThrough_row_tie rfl ⟨rfl, rfl⟩ (by kernel_rfl) rfl
    (fun f fn hf hfn => by
      obtain rfl : f = 3 := Option.some.inj ((show Tryd.prog.funcNamed Rows.diffThroughRow.func = some 3 by kernel_rfl).symm.trans hf) |>.symm
      obtain rfl : fn = Tryd.f3 := (Option.some.inj (Tryd.func3.symm.trans hfn)).symm
      exact ⟨by kernel_rfl, fun j t ht => by
        rw [Tryd.params3] at ht
        have hm : t ∈ [22, 22, 22] := by simpa using Array.mem_of_getElem? ht
        have hall : ([22, 22, 22].all fun u => !Tryd.prog.wantsStandIn u) = true := by kernel_rfl
        exact (show Tryd.prog.wantsStandIn t = false by simpa using List.all_eq_true.1 hall t hm)⟩)
    (by kernel_rfl)

end Go.Proofs.YtcmpaohefihijabDoor

/- At most one change a handle, in order, and each changes something: the statement DiffLeast. -/
import Derived.Test.YtcmpaohefihijaaDoorDiffTold
import Derived.Test.YtcmpaohefihijaaDoorDiffInv
import Derived.Test.YtcmpaohefihijaaDoorLaidKit
import Derived.Test.YtcmpaohefihijaaDoorGroundA
namespace Go.Proofs.YtcmpaohefihijaaDoor
set_option maxRecDepth 8000
open Go Go.ChangeShapes Go.WideShapes Go.ChangeAt Go.RowKit
set_option linter.unusedVariables false
theorem ups_at_lt {l : List Ch} (h : Ups l) {k : Nat} (hk : k < l.length) (h0 : 0 < k) : hlt (l.getD (k - 1) chZ).1 (l.getD k chZ).1 := by
  have h1 : k - 1 < l.length := by omega
  rw [List.getD_eq_getElem?_getD, List.getElem?_eq_getElem h1, List.getD_eq_getElem?_getD, List.getElem?_eq_getElem hk]
  exact List.pairwise_iff_getElem.1 h _ _ h1 hk (by omega)
set_option maxRecDepth 100000 in
set_option maxHeartbeats 8000000 in
theorem diffLeast_walk (u0 : Value) (z0 : List Ro) (j0 : ∀ x ∈ z0, I64 x.1.1 ∧ I64 x.1.2) (u1 : Value) (z1 : List Ro) (j1 : ∀ x ∈ z1, I64 x.1.1 ∧ I64 x.1.2) (w : World) (hv : DVars w) (i0 : Reads elRo w u0 z0) (i1 : Reads elRo w u1 z1) (s0 : z0.length * 88 ≤ 140737488351232) (s1 : z1.length * 88 ≤ 140737488351232) :
    Calls Tryd.prog 8 #[u0, u1] w fun e w' => e = .returned (.bool true) ∧ Below w.heap.size w w' := by
  have HI0 := Lib.hid i0
  obtain ⟨ad0, ln0, cp0, ue0⟩ : ∃ a k c, u0 = .slice a k c := by obtain ⟨a, c, e, _⟩ := i0; exact ⟨_, _, _, e⟩
  have hl0 : ln0 = z0.length := by obtain ⟨a, c, e, _⟩ := i0; rw [e] at ue0; cases ue0; rfl
  have HI1 := Lib.hid i1
  obtain ⟨ad1, ln1, cp1, ue1⟩ : ∃ a k c, u1 = .slice a k c := by obtain ⟨a, c, e, _⟩ := i1; exact ⟨_, _, _, e⟩
  have hl1 : ln1 = z1.length := by obtain ⟨a, c, e, _⟩ := i1; rw [e] at ue1; cases ue1; rfl
  subst hl0 hl1
  clear i0 i1
  subst ue0 ue1
  have HV := Lib.hid hv
  have HTL := Lib.hid (differed_any w hv)
  clear hv
  go_enter Tryd.func8, Tryd.ntmps8
  go_wp2_with (go_at_call 16; refine HTL.out.mono ?_; rintro e W1 ⟨rfl, hb1⟩; refine Hid.out ?_)
  refine Lib.hid ?_
  have HB1 := Lib.hid hb1
  clear hb1 HTL
  have HBT := Lib.hid (between_any _ _ z0 z1 W1 (HI0.out.later HB1.out) (HI1.out.later HB1.out) (HV.out.later HB1.out))
  go_wp2_with (go_at_call 9; refine HBT.out.mono ?_; rintro e W2 hp; obtain ⟨x, xc, rfl, ho, hb⟩ := hp.slice; have HO2 := Lib.hid ho; have HB2 := Lib.hid (nb_trans HB1.out hb); clear hp ho hb; refine Hid.out ?_)
  refine Lib.hid ?_
  cases hvv : (valid z0 && valid z1)
  · rw [(betE_no hvv).1]
    clear hvv
    go_wp2
    go_ret
    exact ⟨rfl, HB2.out⟩
  · obtain ⟨e1, l1, v0, v1⟩ := betE_both hvv
    have HSP := Lib.hid (mrgS (valid_ups v0) (valid_ups v1))
    have hle := mrg_len _ z0 z1 (Nat.le_refl _)
    have hv60 := valid_len v0
    have hv61 := valid_len v1
    rw [e1]
    rw [l1] at HO2 ⊢
    clear hvv e1 l1 v0 v1
    generalize mrg z0 z1 = c at *
    obtain ⟨n, hn⟩ : ∃ n, c.length = n := ⟨_, rfl⟩
    obtain ⟨na, hna⟩ : ∃ n, z0.length = n := ⟨_, rfl⟩
    obtain ⟨nb, hnb⟩ : ∃ n, z1.length = n := ⟨_, rfl⟩
    have HN := Lib.hid hn
    rw [hn, hna, hnb] at hle
    rw [hna] at hv60
    rw [hnb] at hv61
    obtain ⟨ca, cc, hce, hlc, hm, hc⟩ := HO2.out.reads
    unfold maxLen at hm
    rw [hn] at hce hlc hc
    rw [hn, hna, hnb]
    cases hce
    have HC := Lib.hid hc
    have hle' : (n : Int) ≤ (na : Int) + (nb : Int) := by omega
    clear hn hna hnb hc
    go_wp2
    go_loopw [21] (fun i wr => ∃ k : Nat, k ≤ n ∧ i = .int .i64 k ∧ Hid (Below W2.heap.size W2 wr)) (fun i _ => n - (intOf i).toNat)
    case atStart => exact ⟨0, by omega, rfl, Below.refl _ _⟩
    case round =>
      obtain ⟨k, hk, rfl, hB⟩ := hrel
      by_cases hkn : k < n
      · obtain ⟨bb, off, rfl, hbb, hck⟩ := HC.out k hkn
        have hkl : k < c.length := by rw [HN.out]; exact hkn
        have hcr : ∀ j, j < 20 → wr.cell? ⟨bb, off + k * 20 + j, none⟩ = (elCh.enc (c.getD k chZ))[j]? := fun j hj => by rw [hB.out.cell (p := ⟨bb, _, none⟩) hbb]; exact hck j hj
        have hne := ((HSP.out.2 _).1 (memD (d := chZ) hkl)).2.2
        have HNE : Hid ((c.getD k chZ).2.1 ≠ (c.getD k chZ).2.2) := Lib.hid (fun e => hne e)
        have HLT : Hid (0 < k → hlt (c.getD (k - 1) chZ).1 (c.getD k chZ).1) := Lib.hid (fun h0 => ups_at_lt HSP.out.1 hkl h0)
        have HPV : Hid (0 < k → ∀ j, j < 20 → W2.cell? ⟨bb, off + (k - 1) * 20 + j, none⟩ = (elCh.enc (c.getD (k - 1) chZ))[j]?) := Lib.hid (fun h0 => by
          obtain ⟨b2, o2, e2, _, h2⟩ := HC.out (k - 1) (by omega)
          cases e2
          exact h2)
        obtain ⟨y, hy⟩ : ∃ y, c.getD k chZ = y := ⟨_, rfl⟩
        rw [hy] at hcr HNE HLT
        have hld := ld_ch (c := y) hcr
        have hst := st_new y wr
        have hbw : bb < wr.heap.size := Nat.lt_of_lt_of_le hbb hB.out.size
        have HBX := Lib.hid (nb_alloc hB.out (.cells (elCh.enc y).toArray 36))
        have HXB := Lib.hid (heap_alloc_new wr (.cells (elCh.enc y).toArray 36))
        obtain ⟨Y, hY⟩ : ∃ Y, chV y = Y := ⟨_, rfl⟩
        rw [hY] at hld hst
        clear hcr hck hy hY hne
        go_wp2_with (first | refine wpList_ldY rfl 36 _ rfl _ rfl Y hld ?_ | refine wpList_stY rfl 36 _ _ rfl _ rfl Y rfl hst ?_)
        clear hld hst
        dsimp only [Act.put]
        generalize wr.alloc (.cells (elCh.enc y).toArray 36) = X at *
        have hxl := (Array.getElem?_eq_some_iff.1 HXB.out).1
        obtain ⟨⟨s, g⟩, ⟨m, a0, a1, a2, a3, a4, a5, a6, a7⟩, q, b0, b1, b2, b3, b4, b5, b6, b7⟩ := y
        have hxc : ∀ j, j < 20 → X.cell? ⟨wr.heap.size, j, none⟩ = (elCh.enc ((s, g), (m, a0, a1, a2, a3, a4, a5, a6, a7), q, b0, b1, b2, b3, b4, b5, b6, b7))[j]? := fun j hj => by rw [cell_of_row _ _ _ _ _ _ HXB.out]; simp
        have k0 : X.cell? ⟨wr.heap.size, 0, none⟩ = some (.int .i64 s) := hxc 0 (by decide)
        have k1 : X.cell? ⟨wr.heap.size, 1, none⟩ = some (.int .i64 g) := hxc 1 (by decide)
        have k2 : X.cell? ⟨wr.heap.size, 2, none⟩ = some (.int .i64 m) := hxc 2 (by decide)
        have k3 : X.cell? ⟨wr.heap.size, 3, none⟩ = some (.int .i64 a0) := hxc 3 (by decide)
        have k4 : X.cell? ⟨wr.heap.size, 4, none⟩ = some (.int .i64 a1) := hxc 4 (by decide)
        have k5 : X.cell? ⟨wr.heap.size, 5, none⟩ = some (.int .i64 a2) := hxc 5 (by decide)
        have k6 : X.cell? ⟨wr.heap.size, 6, none⟩ = some (.int .i64 a3) := hxc 6 (by decide)
        have k7 : X.cell? ⟨wr.heap.size, 7, none⟩ = some (.int .i64 a4) := hxc 7 (by decide)
        have k8 : X.cell? ⟨wr.heap.size, 8, none⟩ = some (.int .i64 a5) := hxc 8 (by decide)
        have k9 : X.cell? ⟨wr.heap.size, 9, none⟩ = some (.int .i64 a6) := hxc 9 (by decide)
        have k10 : X.cell? ⟨wr.heap.size, 10, none⟩ = some (.int .i64 a7) := hxc 10 (by decide)
        have k11 : X.cell? ⟨wr.heap.size, 11, none⟩ = some (.int .i64 q) := hxc 11 (by decide)
        have k12 : X.cell? ⟨wr.heap.size, 12, none⟩ = some (.int .i64 b0) := hxc 12 (by decide)
        have k13 : X.cell? ⟨wr.heap.size, 13, none⟩ = some (.int .i64 b1) := hxc 13 (by decide)
        have k14 : X.cell? ⟨wr.heap.size, 14, none⟩ = some (.int .i64 b2) := hxc 14 (by decide)
        have k15 : X.cell? ⟨wr.heap.size, 15, none⟩ = some (.int .i64 b3) := hxc 15 (by decide)
        have k16 : X.cell? ⟨wr.heap.size, 16, none⟩ = some (.int .i64 b4) := hxc 16 (by decide)
        have k17 : X.cell? ⟨wr.heap.size, 17, none⟩ = some (.int .i64 b5) := hxc 17 (by decide)
        have k18 : X.cell? ⟨wr.heap.size, 18, none⟩ = some (.int .i64 b6) := hxc 18 (by decide)
        have k19 : X.cell? ⟨wr.heap.size, 19, none⟩ = some (.int .i64 b7) := hxc 19 (by decide)
        have hq := eqBe (m, a0, a1, a2, a3, a4, a5, a6, a7) (q, b0, b1, b2, b3, b4, b5, b6, b7) false (decide_eq_false HNE.out)
        dsimp only [beV] at hq
        clear hxc HNE
        by_cases h0 : 0 < k
        · have hlp := HLT.out h0
          have hpv := HPV.out h0
          obtain ⟨p, hp⟩ : ∃ p, c.getD (k - 1) chZ = p := ⟨_, rfl⟩
          rw [hp] at hlp hpv
          obtain ⟨⟨ps, pg⟩, pr⟩ := p
          have hkk : ((k : Int) - 1) = ((k - 1 : Nat) : Int) := by omega
          have j0 : X.cell? ⟨bb, off + (k - 1) * 20, none⟩ = some (.int .i64 ps) := (HBX.out.cell (p := ⟨bb, _, none⟩) hbb).trans (hpv 0 (by decide))
          have j1 : X.cell? ⟨bb, off + (k - 1) * 20 + 1, none⟩ = some (.int .i64 pg) := (HBX.out.cell (p := ⟨bb, _, none⟩) hbb).trans (hpv 1 (by decide))
          have hbp : bb < X.heap.size := Nat.lt_of_lt_of_le hbb HBX.out.size
          have h0' : (0 : Int) < (k : Int) := by omega
          unfold hlt at hlp
          dsimp only at hlp
          clear hpv hp
          by_cases hs : ps < s
          · have hs1 : ¬ s < ps := by omega
            have hs2 : (s == ps) = false := by simp; omega
            clear hlp
            have HBN : Hid (∀ n, Below W2.heap.size W2 (X.drewN n)) := Lib.hid (fun n => nb_drewN HBX.out)
            go_quiet (fail)
            clear j0 j1 hbp k0 k1 k2 k3 k4 k5 k6 k7 k8 k9 k10 k11 k12 k13 k14 k15 k16 k17 k18 k19 hq
            go_wp2
            go_roundw
            case rel => exact ⟨k + 1, by omega, by go_num, HBN.out _⟩
            case measure => simp [intOf]; omega
          · have hs0 : ps = s ∧ pg < g := by omega
            obtain ⟨rfl, hg⟩ := hs0
            have hg' : ¬ g ≤ pg := by omega
            have hs1 : ¬ ps < ps := by omega
            clear hlp hs
            have HBN : Hid (∀ n, Below W2.heap.size W2 (X.drewN n)) := Lib.hid (fun n => nb_drewN HBX.out)
            go_quiet (fail)
            clear j0 j1 hbp k0 k1 k2 k3 k4 k5 k6 k7 k8 k9 k10 k11 k12 k13 k14 k15 k16 k17 k18 k19 hq
            go_wp2
            go_roundw
            case rel => exact ⟨k + 1, by omega, by go_num, HBN.out _⟩
            case measure => simp [intOf]; omega
        · have h0' : ¬ (0 : Int) < (k : Int) := by omega
          have HBN : Hid (∀ n, Below W2.heap.size W2 (X.drewN n)) := Lib.hid (fun n => nb_drewN HBX.out)
          go_quiet (fail)
          clear k0 k1 k2 k3 k4 k5 k6 k7 k8 k9 k10 k11 k12 k13 k14 k15 k16 k17 k18 k19 hq
          go_wp2
          go_roundw
          case rel => exact ⟨k + 1, by omega, by go_num, HBN.out _⟩
          case measure => simp [intOf]; omega
      · obtain rfl : k = n := by omega
        have HBE := Lib.hid (nb_trans HB2.out hB.out)
        go_wp2
        go_ret
        exact ⟨rfl, HBE.out⟩
namespace diffLeast
theorem own : ownKnob Tryd.prog.godebug = none := by kernel_rfl
theorem laidOut : laidOutB Tryd.prog = true := by kernel_rfl

set_option maxRecDepth 100000 in
set_option maxHeartbeats 4000000 in
theorem lifted (os : Os) (started : os.Started) (H : Type) (enc : TypeId × Value → H) :
    ReturnsInHanded {} Tryd.checked os 8 .any (fun w args => (Rows.diffLeastSpec.pre enc Tryd.prog Tryd.f8 Rows.diffLeastRow.domain false w args ∧ laidMetH Tryd.prog Rows.diffLeastRow.laid w) ∧ sizedMet enc Tryd.prog Tryd.f8 (OpenSpec.ofChange Rows.diffLeastSpec) false w args)
      (Rows.diffLeastSpec.post enc Tryd.prog Tryd.f8 false true false false) := by
  refine returnsInHanded_laid_shaped (C := Tryd.checked) (X := fun w _ => laidMetH Tryd.prog Rows.diffLeastRow.laid w) (fun _ _ _ hh h => h.of_heap hh) own started (by kernel_rfl) Tryd.func8
    (ChangeSpec.witness_shaped (enc := enc) (C := Tryd.checked) (os := os) (X := fun w _ => laidMetH Tryd.prog Rows.diffLeastRow.laid w) false (World.laidAll Tryd.prog os Rows.diffLeastRow.laid) #[.slice none 0 0, .slice none 0 0] 8 (World.laidAll_os _ _ _)
      (World.shaped_of_ZipB (by kernel_rfl) (by kernel_rfl)) (by kernel_rfl) (by kernel_rfl) (by kernel_rfl)
      (by rw [MakeChecks.laidMetH_plain _ _ _ (by kernel_rfl)]; exact laidMet_laidAll _ (by kernel_rfl) (by kernel_rfl))) ?_
  intro W base args ds gs before hval0 hW hcnd hsz hlaid hshape
  have hval : ∀ (j : Nat) t v, Tryd.f8.params[j]? = some t → args[j]? = some v → Value.okWide Tryd.prog W .any base t v := hval0
  have hW' := hW
  obtain ⟨p, q, hA0, hV, rfl, hfz, hnd⟩ := hW
  have hA : DataW.TrodAll enc Tryd.prog W 0 (fun _ => true) true Tryd.f8.params.toList args.toList ds p := hA0
  rw [Tryd.params8] at hA hval
  obtain ⟨v0, vs0, d0, ds0, p0, q0, hargs, rfl, rfl, h0, r0⟩ := trodAll_cons hA
  obtain ⟨v1, vs1, d1, ds1, p1, q1, rfl, rfl, rfl, h1, r1⟩ := trodAll_cons r0
  obtain ⟨rfl, rfl, rfl⟩ := trodAll_nil r1
  obtain rfl : args = #[v0, v1] := by cases args; simp_all
  obtain ⟨rfl, rfl⟩ := trodVars_none hV
  have k0' := h0
  have lt0 : ∀ x ∈ p0, x.block < W.heap.size := by obtain ⟨m, hm⟩ := h0; exact DataW.trod_lt m _ _ _ hm
  have k1' := h1
  have lt1 : ∀ x ∈ p1, x.block < W.heap.size := by obtain ⟨m, hm⟩ := h1; exact DataW.trod_lt m _ _ _ hm
  obtain ⟨z0, i0, j0⟩ : ∃ zs, Reads elRo W v0 zs ∧ ∀ x ∈ zs, I64 x.1.1 ∧ I64 x.1.2 := by
    obtain ⟨a0, len0, cap0, rfl⟩ := okWide_slice Tryd.underlying22 (hval 0 22 v0 rfl rfl)
    exact Reads_ofP elRo (fun x => I64 x.1.1 ∧ I64 x.1.2) Tryd.underlying22 (by kernel_rfl) ro_dec h0
  obtain ⟨z1, i1, j1⟩ : ∃ zs, Reads elRo W v1 zs ∧ ∀ x ∈ zs, I64 x.1.1 ∧ I64 x.1.2 := by
    obtain ⟨a0, len0, cap0, rfl⟩ := okWide_slice Tryd.underlying22 (hval 1 22 v1 rfl rfl)
    exact Reads_ofP elRo (fun x => I64 x.1.1 ∧ I64 x.1.2) Tryd.underlying22 (by kernel_rfl) ro_dec h1
  rw [Tryd.params8] at hsz
  have s0 : z0.length * 88 ≤ 140737488351232 := by
    obtain ⟨aa, cc, ee, _⟩ := i0
    have hh := k0'
    rw [ee] at hh
    exact trod_len Tryd.underlying22 (show Tryd.prog.bytesOf 33 = 88 by kernel_rfl) hh (fun el sp hd => sized_slice hsz (j := 0) (t := 22) rfl (by rw [hd]; rfl) Tryd.underlying22)
  have s1 : z1.length * 88 ≤ 140737488351232 := by
    obtain ⟨aa, cc, ee, _⟩ := i1
    have hh := k1'
    rw [ee] at hh
    exact trod_len Tryd.underlying22 (show Tryd.prog.bytesOf 33 = 88 by kernel_rfl) hh (fun el sp hd => sized_slice hsz (j := 1) (t := 22) rfl (by rw [hd]; rfl) Tryd.underlying22)
  clear hA0 hval0
  refine (diffLeast_walk v0 z0 j0 v1 z1 j1 W (DVars.of hlaid hshape) i0 i1 s0 s1).mono fun e W' ⟨he, bel⟩ => ?_
  subst he
  exact ⟨_, rfl, _, _, _, [], _, [], hW', trodAll_mk1 (shut_bool Tryd.underlying4 _), (trodAll_cons_mk (Below.trod laidOut (by kernel_rfl) (of_decide_eq_true (by kernel_rfl)) k0' bel lt0) (trodAll_cons_mk (Below.trod laidOut (by kernel_rfl) (of_decide_eq_true (by kernel_rfl)) k1' bel lt1) trodAll_mk0)), rfl, bel.frame _, fun h => by cases h⟩
end diffLeast

theorem diffLeast_proved : Rows.DiffLeastSaid :=
  OpenClaim.holds_of_wide 8 Tryd.f8 rfl rfl rfl rfl rfl rfl rfl ⟨rfl, rfl, rfl, rfl, rfl⟩ rfl rfl rfl rfl rfl (by kernel_rfl) Tryd.func8 (by kernel_rfl)
    (of_decide_eq_true (by kernel_rfl)) (by unfold Func.isWrapper; first | (rw [if_pos (by decide +kernel)]; kernel_rfl) | (rw [if_neg (by decide +kernel)]; exact ⟨rfl, rfl⟩))
    (fun os started H enc _ => diffLeast.lifted os started H enc)
theorem diffLeast_card : Rows.DiffLeastCardSaid :=
  Claim7.holds_tied_plain_at .later [] [.data] true (true, "5744bf50b583b4f895a874b1d353a44e716c7019805afb55676c9ca9fd18b970") true diffLeast_proved (fun _ h => by cases h) (by kernel_rfl) (fun _ h => by cases h) diffLeast_row_tie rfl ⟨rfl, rfl⟩ (by kernel_rfl) rfl
    (fun f fn hf hfn => by
      obtain rfl : f = 8 := Option.some.inj ((show Tryd.prog.funcNamed Rows.diffLeastRow.func = some 8 by kernel_rfl).symm.trans hf) |>.symm
      obtain rfl : fn = Tryd.f8 := (Option.some.inj (Tryd.func8.symm.trans hfn)).symm
      exact ⟨by kernel_rfl, fun j t ht => by
        rw [Tryd.params8] at ht
        have hm : t ∈ [22, 22] := by simpa using Array.mem_of_getElem? ht
        have hall : ([22, 22].all fun u => !Tryd.prog.wantsStandIn u) = true := by kernel_rfl
        exact (show Tryd.prog.wantsStandIn t = false by simpa using List.all_eq_true.1 hall t hm)⟩)
    (by kernel_rfl)

end Go.Proofs.YtcmpaohefihijaaDoor

/- Whatever was done, its state is printed, and loaded of its text it is the same: the statement TextZoo. -/
import Derived.Test.YtndhomjfjhohoaaGreatDoorTextSame
import Derived.Test.YtndhomjfjhohoaaGreatDoorPTold
import Derived.Test.YtndhomjfjhohoaaGreatDoorCardKit
import Derived.Test.YtndhomjfjhohoaaGreatDoorGroundA
import Derived.Test.YtndhomjfjhohoaaGreatDoorGroundD
import Derived.Test.YtndhomjfjhohoaaGreatDoorKeptZoo
namespace Go.Proofs.YtndhomjfjhohoaaGreatDoor
set_option maxRecDepth 8000
open Go Go.ChangeShapes Go.WideShapes Go.ChangeAt Go.RowKit
set_option linter.unusedVariables false

theorem SttIs.cells {w : World} {B : Nat} {vg vr vb : Value} {s : Stt} (h : SttIs w B vg vr vb s) : ∃ ga gl gc ra rl rc ba bl bc, vg = .slice ga gl gc ∧ vr = .slice ra rl rc ∧ vb = .slice ba bl bc := by
  obtain ⟨ga3, gc3, hge, -⟩ := h.g.reads
  obtain ⟨ra3, rc3, hre, -⟩ := h.r.reads
  obtain ⟨ba3, bc3, hbe, -⟩ := h.b.reads
  exact ⟨_, _, _, _, _, _, _, _, _, hge, hre, hbe⟩
theorem ZOk.prE {s : Zs} (h : ZOk s) : prE (gensL s.l) s.rows s.bs = 0 := by
  have h1 : upS s.rows = true := by
    refine decide_eq_true ?_
    rw [List.pairwise_map]
    exact h.w.up.imp (fun hh => by omega)
  have h2 : upC s.bs = true := by
    refine decide_eq_true ?_
    rw [List.pairwise_map]
    exact h.f.sorted.imp (fun hh => by unfold hlt at hh; omega)
  rw [Go.Proofs.YtndhomjfjhohoaaGreatDoor.prE, if_pos h.back.1, h1, h2]; rfl

set_option maxRecDepth 100000 in
set_option maxHeartbeats 8000000 in
theorem textZoo_walk (u0 : Value) (z0 : List Opm) (j0 : ∀ x ∈ z0, OpOk x) (w : World) (hv : VarsIs w) (i0 : Reads elOp w u0 z0) (s0 : z0.length * 128 ≤ 140737488351232) :
    Calls Tryz.prog 6 #[u0] w fun e w' => e = .returned (.bool true) ∧ Below w.heap.size w w' := by
  have HR := Lib.hid i0
  have HOS := Lib.hid j0
  have HV := Lib.hid hv
  obtain ⟨oa, oc, hue, -⟩ := i0
  subst hue
  clear j0 hv
  go_enter Tryz.func6, Tryz.ntmps6
  go_wp2_with fail
  refine (told_any _ HV.out).mono ?_
  rintro e w0 ⟨rfl, hb0⟩
  have HB0 := Lib.hid hb0
  clear hb0
  go_wp2_with fail
  refine (kept_any _).mono ?_
  rintro e w1 ⟨rfl, hb1⟩
  have HB1 := Lib.hid (nb_trans HB0.out hb1)
  clear hb1
  go_wp2_with fail
  refine (done_any _ z0 _ (HR.out.later HB1.out) HOS.out).mono ?_
  rintro e w2 ⟨p, F, rfl, hz, hF, hb2⟩
  have HZ := Lib.hid hz
  have HB2 := Lib.hid (nb_trans HB1.out hb2)
  have HOK : Hid (ZOk (doneZ z0)) := Lib.hid (ZOk.done z0)
  clear hz hF hb2
  obtain ⟨s, hs⟩ : ∃ s, doneZ z0 = s := ⟨_, rfl⟩
  rw [hs] at HZ HOK
  clear hs
  have HBK := Lib.hid HOK.out.back
  go_wp2_with fail
  refine (zooState_any p F s _ HZ.out HOK.out).mono ?_
  rintro e w3 ⟨vg, vr, vb, rfl, hst, hb3⟩
  have HST := Lib.hid hst
  have HB3 := Lib.hid hb3
  have HB3' := Lib.hid (nb_trans HB2.out hb3)
  clear hst hb3
  go_wp2_with fail
  refine (print_any _ _ _ (gensL s.l) s.rows s.bs _ (Ints.ofReads HST.out.g.reads) HST.out.r.reads HST.out.b.reads (HV.out.later HB3'.out)).mono ?_
  rintro e w4 ⟨rfl, hb4⟩
  have HB4 := Lib.hid (nb_trans HB3'.out hb4)
  have HB4z := Lib.hid (nb_trans HB3.out hb4)
  have hpe := HOK.out.prE
  rw [show prT (gensL s.l) s.rows s.bs = textT (gensL s.l) s.rows s.bs from if_pos hpe, hpe]
  have HLN := Lib.hid (text_len HBK.out.1)
  have HFN := Lib.hid (Fine.of HBK.out.1).1
  have HPA := Lib.hid (parse_any (textT (gensL s.l) s.rows s.bs) w4 (by have := HLN.out; omega) (HV.out.later HB4.out))
  obtain ⟨n, hn⟩ : ∃ n, (textT (gensL s.l) s.rows s.bs).length = n := ⟨_, rfl⟩
  obtain ⟨z2, hz2⟩ : ∃ z, paE (textT (gensL s.l) s.rows s.bs) = z := ⟨_, rfl⟩
  obtain ⟨s2, hs2⟩ : ∃ z, paS (textT (gensL s.l) s.rows s.bs) = z := ⟨_, rfl⟩
  have HPT : Hid (n ≤ 6000 → z2 = 0 ∧ s2 = ⟨gensL s.l, s.rows.map nR, s.bs⟩) := Lib.hid (fun h => by
    have := paE_text hpe (by rw [hn]; exact h)
    exact ⟨hz2.symm.trans this.1, hs2.symm.trans this.2⟩)
  have HPL : Hid (6000 < n → z2 = 2) := Lib.hid (fun h => by rw [← hz2, paE, if_pos (by omega)])
  have hbsz : (bs (textT (gensL s.l) s.rows s.bs)).size = n := (bs_size _).trans hn
  unfold ParsePost at HPA
  rw [hz2, hs2] at HPA
  clear hpe hb4 hn hz2 hs2
  generalize textT (gensL s.l) s.rows s.bs = t at *
  go_wp2_with fail
  refine HPA.out.mono ?_
  rintro e w5 ⟨xg, xr, xb, rfl, hpt, hb5⟩
  obtain ⟨xa, xl, xc, ya, yl, yc, ta, tl, tc, rfl, rfl, rfl⟩ := hpt.cells
  have hb6 := nb_alloc hb5 (.cells #[.slice xa xl xc, .slice ya yl yc, .slice ta tl tc] 26)
  have HB6 := Lib.hid (nb_trans HB4.out hb6)
  have HB6z := Lib.hid (nb_trans HB4z.out hb6)
  have hpt6 := hpt.later (nb_alloc (Below.refl _ _) (.cells #[.slice xa xl xc, .slice ya yl yc, .slice ta tl tc] 26))
  by_cases h6 : n ≤ 6000
  · obtain ⟨rfl, rfl⟩ := HPT.out h6
    have HLD := Lib.hid (zooLoad_any _ _ _ (gensL s.l) s.rows s.bs _ (Ints.ofReads hpt6.g.reads) (hpt6.r.reads.nR HFN.out.ri) hpt6.b.reads)
    clear hpt hb5 hb6 hpt6
    go_wp2_with fail
    refine HLD.out.mono ?_
    rintro e w7 ⟨u7, rfl, hb7, -, hgood⟩
    obtain ⟨q, G, rfl, hq, -⟩ := hgood HBK.out.1
    rw [HBK.out.2] at hq
    rw [HBK.out.1]
    have HQ := Lib.hid hq
    have HB7 := Lib.hid (nb_trans HB6.out hb7)
    have HB7z := Lib.hid (nb_trans HB6z.out hb7)
    clear hgood hq hb7
    go_wp2_with fail
    refine (zooState_any q G s _ HQ.out HOK.out).mono ?_
    rintro e w8 ⟨cg, cr, cb, rfl, hxt, hb8⟩
    have HXT := Lib.hid hxt
    have HB8 := Lib.hid (nb_trans HB7.out hb8)
    have HB8z := Lib.hid (nb_trans HB7z.out hb8)
    clear hxt hb8
    go_wp2_with fail
    refine (zooState_any p F s _ (HZ.out.later HB8z.out) HOK.out).mono ?_
    rintro e w9 ⟨dg, dr, db, rfl, hyt, hb9⟩
    have HYT := Lib.hid hyt
    have HSM := Lib.hid (sameSt_any _ (HXT.out.later hb9) hyt)
    have HB9 := Lib.hid (nb_trans HB8.out hb9)
    clear hyt hb9
    go_wp2_with fail
    refine HSM.out.mono ?_
    rintro e w10 ⟨rfl, hb10⟩
    have HB10 := Lib.hid (nb_trans HB9.out hb10)
    clear hb10
    go_wp2
    go_ret
    exact ⟨rfl, HB10.out⟩
  · obtain rfl := HPL.out (by omega)
    have HLD := Lib.hid (zooLoad_any _ _ _ s2.g s2.r s2.b _ (Ints.ofReads hpt6.g.reads) hpt6.r.reads hpt6.b.reads)
    clear hpt hb5 hb6 hpt6
    go_wp2_with fail
    refine HLD.out.mono ?_
    rintro e w7 ⟨u7, rfl, hb7, -, -⟩
    have HB7 := Lib.hid (nb_trans HB6.out hb7)
    generalize zldE s2.g s2.r s2.b = z7 at *
    clear hb7
    go_wp2
    go_ret
    exact ⟨rfl, HB7.out⟩

namespace textZoo
theorem own : ownKnob Tryz.prog.godebug = none := by kernel_rfl
theorem laidOut : laidOutB Tryz.prog = true := by kernel_rfl

set_option maxRecDepth 100000 in
set_option maxHeartbeats 4000000 in
theorem lifted (os : Os) (started : os.Started) (H : Type) (enc : TypeId × Value → H) :
    ReturnsInHanded {} Tryz.checked os 6 .any (fun w args => (Rows.textZooSpec.pre enc Tryz.prog Tryz.f6 Rows.textZooRow.domain false w args ∧ laidMetH Tryz.prog Rows.textZooRow.laid w) ∧ sizedMet enc Tryz.prog Tryz.f6 (OpenSpec.ofChange Rows.textZooSpec) false w args)
      (Rows.textZooSpec.post enc Tryz.prog Tryz.f6 false true false false) := by
  refine returnsInHanded_laid_shaped (C := Tryz.checked) (X := fun w _ => laidMetH Tryz.prog Rows.textZooRow.laid w) (fun _ _ _ hh h => h.of_heap hh) own started (by kernel_rfl) Tryz.func6
    (ChangeSpec.witness_shaped (enc := enc) (C := Tryz.checked) (os := os) (X := fun w _ => laidMetH Tryz.prog Rows.textZooRow.laid w) false (World.laidAll Tryz.prog os Rows.textZooRow.laid) #[.slice none 0 0] 8 (World.laidAll_os _ _ _)
      (World.shaped_of_ZipB (by kernel_rfl) (by kernel_rfl)) (by kernel_rfl) (by kernel_rfl) (by kernel_rfl)
      (by rw [MakeChecks.laidMetH_plain _ _ _ (by kernel_rfl)]; exact laidMet_laidAll _ (by kernel_rfl) (by kernel_rfl))) ?_
  intro W base args ds gs before hval0 hW hcnd hsz hlaid hshape
  have hval : ∀ (j : Nat) t v, Tryz.f6.params[j]? = some t → args[j]? = some v → Value.okWide Tryz.prog W .any base t v := hval0
  have hW' := hW
  obtain ⟨p, q, hA0, hV, rfl, hfz, hnd⟩ := hW
  have hA : DataW.TrodAll enc Tryz.prog W 0 (fun _ => true) true Tryz.f6.params.toList args.toList ds p := hA0
  rw [Tryz.params6] at hA hval
  obtain ⟨v0, vs0, d0, ds0, p0, q0, hargs, rfl, rfl, h0, r0⟩ := trodAll_cons hA
  obtain ⟨rfl, rfl, rfl⟩ := trodAll_nil r0
  obtain rfl : args = #[v0] := by cases args; simp_all
  obtain ⟨rfl, rfl⟩ := trodVars_none hV
  have k0' := h0
  have lt0 : ∀ x ∈ p0, x.block < W.heap.size := by obtain ⟨m, hm⟩ := h0; exact DataW.trod_lt m _ _ _ hm
  obtain ⟨z0, i0, j0⟩ : ∃ zs, Reads elOp W v0 zs ∧ ∀ x ∈ zs, OpOk x := by
    obtain ⟨a0, len0, cap0, rfl⟩ := okWide_slice Tryz.underlying37 (hval 0 37 v0 rfl rfl)
    exact Reads_ofP elOp OpOk Tryz.underlying37 (by kernel_rfl) op_dec h0
  rw [Tryz.params6] at hsz
  have s0 : z0.length * 128 ≤ 140737488351232 := by
    obtain ⟨aa, cc, ee, _⟩ := i0
    have hh := k0'
    rw [ee] at hh
    exact trod_len Tryz.underlying37 (show Tryz.prog.bytesOf 103 = 128 by kernel_rfl) hh (fun el sp hd => sized_slice hsz (j := 0) (t := 37) rfl (by rw [hd]; rfl) Tryz.underlying37)
  clear hA0 hval0
  refine (textZoo_walk v0 z0 j0 W (VarsIs.of hlaid hshape) i0 s0).mono fun e W' ⟨he, bel⟩ => ?_
  subst he
  exact ⟨_, rfl, _, _, _, [], _, [], hW', trodAll_mk1 (shut_bool Tryz.underlying4 _), (trodAll_cons_mk (Below.trod laidOut (by kernel_rfl) (of_decide_eq_true (by kernel_rfl)) k0' bel lt0) trodAll_mk0), rfl, bel.frame _, fun h => by cases h⟩
end textZoo

theorem textZoo_proved : Rows.TextZooSaid :=
  OpenClaim.holds_of_wide 6 Tryz.f6 rfl rfl rfl rfl rfl rfl rfl ⟨rfl, rfl, rfl, rfl, rfl⟩ rfl rfl rfl rfl rfl (by kernel_rfl) Tryz.func6 (by kernel_rfl)
    (of_decide_eq_true (by kernel_rfl)) (by unfold Func.isWrapper; first | (rw [if_pos (by decide +kernel)]; kernel_rfl) | (rw [if_neg (by decide +kernel)]; exact ⟨rfl, rfl⟩))
    (fun os started H enc _ => textZoo.lifted os started H enc)
theorem textZoo_card : Rows.TextZooCardSaid :=
  Claim7.holds_tied_plain_at .later [] [.data, .data, .data, .data, .sentinel, .sentinel, .pinned] true (true, "51adf19e7b0457040110f153bed93bd756ae1ee273793b6025d405c32f9e54b0") true textZoo_proved (fun _ h => by cases h) (by kernel_rfl) (fun _ h => by cases h) textZoo_row_tie rfl ⟨rfl, rfl⟩ (by kernel_rfl) rfl
    (fun f fn hf hfn => by
      obtain rfl : f = 6 := Option.some.inj ((show Tryz.prog.funcNamed Rows.textZooRow.func = some 6 by kernel_rfl).symm.trans hf) |>.symm
      obtain rfl : fn = Tryz.f6 := (Option.some.inj (Tryz.func6.symm.trans hfn)).symm
      exact ⟨by kernel_rfl, fun j t ht => by
        rw [Tryz.params6] at ht
        have hm : t ∈ [37] := by simpa using Array.mem_of_getElem? ht
        have hall : ([37].all fun u => !Tryz.prog.wantsStandIn u) = true := by kernel_rfl
        exact (show Tryz.prog.wantsStandIn t = false by simpa using List.all_eq_true.1 hall t hm)⟩)
    (by kernel_rfl)

end Go.Proofs.YtndhomjfjhohoaaGreatDoor

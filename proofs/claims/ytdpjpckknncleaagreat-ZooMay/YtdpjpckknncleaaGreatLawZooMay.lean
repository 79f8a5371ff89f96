/- Whatever was done to a zoo, its state may be, and loaded it is the same: the statement ZooMay. No condition. -/
import Derived.Test.YtdpjpckknncleaaGreatGroundA
import Derived.Test.YtdpjpckknncleaaGreatKeptZoo
namespace Go.Proofs.YtdpjpckknncleaaGreat
set_option maxRecDepth 8000
open Go.ChangeShapes Go.WideShapes Go.ChangeAt Go.RowKit
set_option linter.unusedVariables false

set_option maxRecDepth 100000 in
set_option maxHeartbeats 8000000 in
theorem zooMay_walk (u0 : Value) (z0 : List Opm) (j0 : ∀ x ∈ z0, OpOk x) (w : World) (i0 : Reads elOp w u0 z0) :
    Calls Tryz.prog 7 #[u0] w fun e w' => e = .returned (.bool true) ∧ Below w.heap.size w w' := by
  have HR := Lib.hid i0
  have HOS := Lib.hid j0
  obtain ⟨oa, oc, hue, -⟩ := i0
  subst hue
  clear j0
  go_enter Tryz.func7, Tryz.ntmps7
  go_wp2_with fail
  refine (kept_any _).mono ?_
  rintro e w1 ⟨rfl, hb1⟩
  have HB1 := Lib.hid hb1
  clear hb1
  go_wp2_with fail
  refine (done_any _ z0 _ (HR.out.later HB1.out) HOS.out).mono ?_
  rintro e w2 ⟨p, F, rfl, hz, hF, hb2⟩
  have HZ := Lib.hid hz
  have HB2 := Lib.hid (nb_trans HB1.out hb2)
  have HOK : Hid (ZOk (doneZ z0)) := Lib.hid (ZOk.done z0)
  clear hz hF hb2
  obtain ⟨s, hs⟩ : ∃ s, doneZ z0 = s := ⟨_, rfl⟩
  rw [hs] at HZ HOK
  clear hs
  have HBK := Lib.hid HOK.out.back
  go_wp2_with fail
  refine (zooState_any p F s _ HZ.out HOK.out).mono ?_
  rintro e w3 ⟨vg, vr, vb, rfl, hst, hb3⟩
  have HST := Lib.hid hst
  have HB3 := Lib.hid hb3
  clear hst hb3
  go_wp2_with fail
  refine (zooLoad_any _ _ _ (gensL s.l) s.rows s.bs _ (Ints.ofReads HST.out.g.reads) HST.out.r.reads HST.out.b.reads).mono ?_
  rintro e w4 ⟨u4, rfl, hb4, -, hgood⟩
  obtain ⟨q, G, rfl, hq, -⟩ := hgood HBK.out.1
  rw [HBK.out.2] at hq
  rw [HBK.out.1]
  have HQ := Lib.hid hq
  have HB4 := Lib.hid hb4
  clear hgood hq hb4
  go_wp2_with fail
  refine (zooState_any q G s _ HQ.out HOK.out).mono ?_
  rintro e w5 ⟨xg, xr, xb, rfl, hxt, hb5⟩
  have HXT := Lib.hid hxt
  have HB5 := Lib.hid hb5
  clear hxt hb5
  go_wp2_with fail
  refine (zooState_any p F s _ (HZ.out.later (nb_trans HB3.out (nb_trans HB4.out HB5.out))) HOK.out).mono ?_
  rintro e w6 ⟨yg, yr, yb, rfl, hyt, hb6⟩
  have HYT := Lib.hid hyt
  have HB6 := Lib.hid hb6
  clear hyt hb6
  go_wp2_with fail
  refine (sameSt_any _ (HXT.out.later HB6.out) HYT.out).mono ?_
  rintro e w7 ⟨rfl, hb7⟩
  have HB7 : Hid (Below w.heap.size w w7) := Lib.hid (nb_trans HB2.out (nb_trans HB3.out (nb_trans HB4.out (nb_trans HB5.out (nb_trans HB6.out hb7)))))
  clear hb7
  go_wp2
  go_ret
  exact ⟨rfl, HB7.out⟩

namespace zooMay
theorem own : ownKnob Tryz.prog.godebug = none := by kernel_rfl
theorem laidOut : laidOutB Tryz.prog = true := by kernel_rfl

set_option maxRecDepth 100000 in
set_option maxHeartbeats 4000000 in
theorem lifted (os : Os) (started : os.Started) (H : Type) (enc : TypeId × Value → H) :
    ReturnsInHanded {} Tryz.checked os 7 .any (Rows.zooMaySpec.pre6 enc Tryz.prog Tryz.f7 Rows.zooMayRow.domain false) (Rows.zooMaySpec.post enc Tryz.prog Tryz.f7 false true false false) := by
  refine returnsInHanded_of_change (C := Tryz.checked) own started (by kernel_rfl) Tryz.func7
    (ChangeSpec.witness6 (enc := enc) (C := Tryz.checked) false ⟨#[], #[.slice none 0 0], []⟩ 8 (by kernel_rfl) (by kernel_rfl) (by kernel_rfl) (by kernel_rfl)) ?_
  intro W base args ds gs before hval0 hW hcnd _
  have hval : ∀ (j : Nat) t v, Tryz.f7.params[j]? = some t → args[j]? = some v → Value.okWide Tryz.prog W .any base t v := hval0
  have hW' := hW
  obtain ⟨p, q, hA0, hV, rfl, hfz, hnd⟩ := hW
  have hA : DataW.TrodAll enc Tryz.prog W 0 (fun _ => true) true Tryz.f7.params.toList args.toList ds p := hA0
  rw [Tryz.params7] at hA hval
  obtain ⟨v0, vs0, d0, ds0, p0, q0, hargs, rfl, rfl, h0, r0⟩ := trodAll_cons hA
  obtain ⟨rfl, rfl, rfl⟩ := trodAll_nil r0
  obtain rfl : args = #[v0] := by cases args; simp_all
  obtain ⟨rfl, rfl⟩ := trodVars_none hV
  have k0' := h0
  have lt0 : ∀ x ∈ p0, x.block < W.heap.size := by obtain ⟨m, hm⟩ := h0; exact DataW.trod_lt m _ _ _ hm
  obtain ⟨z0, i0, j0⟩ : ∃ zs, Reads elOp W v0 zs ∧ ∀ x ∈ zs, OpOk x := by
    obtain ⟨a0, len0, cap0, rfl⟩ := okWide_slice Tryz.underlying22 (hval 0 22 v0 rfl rfl)
    exact Reads_ofP elOp OpOk Tryz.underlying22 (by kernel_rfl) op_dec h0
  clear hA0 hval0
  refine (zooMay_walk v0 z0 j0 W i0).mono fun e W' ⟨he, bel⟩ => ?_
  subst he
  exact ⟨_, rfl, _, _, _, [], _, [], hW', trodAll_mk1 (shut_bool Tryz.underlying4 _), (trodAll_cons_mk (Below.trod laidOut (by kernel_rfl) (of_decide_eq_true (by kernel_rfl)) k0' bel lt0) trodAll_mk0), rfl, bel.frame _, fun h => by cases h⟩
end zooMay

theorem zooMay_proved : Rows.ZooMaySaid :=
  OpenClaim.holds_of_wide 7 Tryz.f7 rfl rfl rfl rfl rfl rfl rfl ⟨rfl, rfl, rfl, rfl, rfl⟩ rfl rfl rfl rfl rfl (by kernel_rfl) Tryz.func7 (by kernel_rfl)
    (of_decide_eq_true (by kernel_rfl)) (by unfold Func.isWrapper; first | (rw [if_pos (by decide +kernel)]; kernel_rfl) | (rw [if_neg (by decide +kernel)]; exact ⟨rfl, rfl⟩))
    (fun os started H enc _ => zooMay.lifted os started H enc)

end Go.Proofs.YtdpjpckknncleaaGreat

/- For every number, List and Count return what the reference returns: the statement MaskLists. No condition. -/
import Derived.Test.YtfjlhiolfflnnaaOpen
import Derived.Test.YtfjlhiolfflnnaaLists
namespace Go.Proofs.Ytfjlhiolfflnnaa
open Go.ChangeShapes Go.WideShapes Go.ChangeAt Go.RowKit
set_option linter.unusedVariables false

set_option maxHeartbeats 1000000 in
theorem maskLists_walk (a0 : Int) (i0 : I64 a0) (w : World) :
    Calls Try.prog 4 #[.int .i64 a0] w fun e w' => e = .returned (.bool true) ∧ Below w.heap.size w w' := by
  clear i0
  have h1 : (((kinds a0).length : Int) == ((kinds a0).length : Int)) = true := by simp
  go_enter Try.func4, Try.ntmps4
  go_wp2_with fail
  refine (refKinds_any _ _).mono ?_
  rintro e w1 ⟨v1, rfl, ho1, hb1⟩
  have HI1 := Lib.hid (Ints.owns ho1)
  have HB1 := Lib.hid hb1
  clear ho1 hb1
  obtain ⟨ad, cap, rfl, _⟩ := HI1.out
  go_wp2_with fail
  refine (masked_any _).mono ?_
  rintro e w2 ⟨rfl, hb2⟩
  have HB2 := Lib.hid hb2
  clear hb2
  go_wp2_with fail
  refine (list_any _ _).mono ?_
  rintro e w3 ⟨v3, rfl, ho3, hb3⟩
  have HI3 := Lib.hid (Ints.owns ho3)
  have HB3 := Lib.hid hb3
  clear ho3 hb3
  go_wp2_with fail
  refine (eqInt_any _ _ _ _ _ HI3.out ((HI1.out.later HB2.out).later HB3.out)).mono ?_
  rintro e w4 ⟨rfl, rfl⟩
  rw [decide_eq_true rfl]
  go_wp2_with fail
  refine (count_any _ _).mono ?_
  rintro e w4 ⟨rfl, rfl⟩
  rw [show cnt a0 = ((kinds a0).length : Int) from rfl]
  go_wp2
  go_ret
  exact ⟨rfl, nb_trans (nb_trans HB1.out HB2.out) HB3.out⟩

namespace maskLists
theorem own : ownKnob Try.prog.godebug = none := by kernel_rfl
theorem laidOut : laidOutB Try.prog = true := by kernel_rfl

set_option maxRecDepth 100000 in
theorem lifted (os : Os) (started : os.Started) (H : Type) (enc : TypeId × Value → H) :
    ReturnsInHanded {} Try.checked os 4 .any (Rows.maskListsSpec.pre6 enc Try.prog Try.f4 Rows.maskListsRow.domain false) (Rows.maskListsSpec.post enc Try.prog Try.f4 false true false false) := by
  refine returnsInHanded_of_change (C := Try.checked) own started (by kernel_rfl) Try.func4
    (ChangeSpec.witness6 (enc := enc) (C := Try.checked) false ⟨#[], #[.int .i64 0], []⟩ 8 (by kernel_rfl) (by kernel_rfl) (by kernel_rfl) (by kernel_rfl)) ?_
  intro W base args ds gs before hval0 hW hcnd _
  have hval : ∀ (j : Nat) t v, Try.f4.params[j]? = some t → args[j]? = some v → Value.okWide Try.prog W .any base t v := hval0
  have hW' := hW
  obtain ⟨p, q, hA0, hV, rfl, hfz, hnd⟩ := hW
  have hA : DataW.TrodAll enc Try.prog W 0 (fun _ => true) true Try.f4.params.toList args.toList ds p := hA0
  rw [Try.params4] at hA hval
  obtain ⟨v0, vs0, d0, ds0, p0, q0, hargs, rfl, rfl, h0, r0⟩ := trodAll_cons hA
  obtain ⟨rfl, rfl, rfl⟩ := trodAll_nil r0
  obtain rfl : args = #[v0] := by cases args; simp_all
  obtain ⟨rfl, rfl⟩ := trodVars_none hV
  have k0' := h0
  have lt0 : ∀ x ∈ p0, x.block < W.heap.size := by obtain ⟨m, hm⟩ := h0; exact DataW.trod_lt m _ _ _ hm
  obtain ⟨a0, rfl, i0⟩ : ∃ a : Int, v0 = .int .i64 a ∧ I64 a := by
    obtain ⟨a, rfl, _, _, wa⟩ := open_int Try.underlying3 (hval 0 3 v0 rfl rfl) h0
    exact ⟨a, rfl, I64_of wa⟩
  clear hA0 hval0
  refine (maskLists_walk a0 i0 W).mono fun e W' ⟨he, bel⟩ => ?_
  subst he
  exact ⟨_, rfl, _, _, _, [], _, [], hW', trodAll_mk1 (shut_bool Try.underlying4 _), (trodAll_cons_mk (Below.trod laidOut (by kernel_rfl) (of_decide_eq_true (by kernel_rfl)) k0' bel lt0) trodAll_mk0), rfl, bel.frame _, fun h => by cases h⟩
end maskLists

theorem maskLists_proved : Rows.MaskListsSaid :=
  OpenClaim.holds_of_wide 4 Try.f4 rfl rfl rfl rfl rfl rfl rfl ⟨rfl, rfl, rfl, rfl, rfl⟩ rfl rfl rfl rfl rfl (by kernel_rfl) Try.func4 (by kernel_rfl)
    (of_decide_eq_true (by kernel_rfl)) (by unfold Func.isWrapper; first | (rw [if_pos (by decide +kernel)]; kernel_rfl) | (rw [if_neg (by decide +kernel)]; exact ⟨rfl, rfl⟩))
    (fun os started H enc _ => maskLists.lifted os started H enc)

end Go.Proofs.Ytfjlhiolfflnnaa

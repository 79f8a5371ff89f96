/- For every entity, CheckBeast returns what the reference returns, and the entity reads afterwards as it did: the statement MaskBeasts. No condition. -/
import Derived.Test.YtfjlhiolfflnnaaFlat
import Derived.Test.YtfjlhiolfflnnaaBeast
import Derived.Test.YtfjlhiolfflnnaaLater
namespace Go.Proofs.Ytfjlhiolfflnnaa
open Go.ChangeShapes Go.WideShapes Go.ChangeAt Go.RowKit
set_option linter.unusedVariables false

theorem checkBeast_is {m v0 v1 v2 v3 v4 v5 v6 v7 r : Int} (w : World) (h : bErr m [v0, v1, v2, v3, v4, v5, v6, v7] = r) :
    Calls Try.prog 20 #[.agg #[.int .i64 m, .int .i64 v0, .int .i64 v1, .int .i64 v2, .int .i64 v3, .int .i64 v4, .int .i64 v5, .int .i64 v6, .int .i64 v7]] w fun e w' => e = .returned (.int .i64 r) ∧ Below w.heap.size w w' :=
  (checkBeast_any m v0 v1 v2 v3 v4 v5 v6 v7 w).mono fun _ _ ⟨he, hw⟩ => ⟨by rw [← h]; exact he, by subst hw; exact nb_alloc (Below.refl _ _) _⟩
theorem refBeastCheck_is {m v0 v1 v2 v3 v4 v5 v6 v7 r : Int} (w : World) (h : bErr m [v0, v1, v2, v3, v4, v5, v6, v7] = r) :
    Calls Try.prog 21 #[.agg #[.int .i64 m, .int .i64 v0, .int .i64 v1, .int .i64 v2, .int .i64 v3, .int .i64 v4, .int .i64 v5, .int .i64 v6, .int .i64 v7]] w fun e w' => e = .returned (.int .i64 r) ∧ Below w.heap.size w w' :=
  (refBeastCheck_any m v0 v1 v2 v3 v4 v5 v6 v7 w).mono fun _ _ ⟨he, hw⟩ => ⟨by rw [← h]; exact he, by subst hw; exact nb_alloc (Below.refl _ _) _⟩

set_option maxHeartbeats 2000000 in
theorem maskBeasts_walk (m0 v0_0 v0_1 v0_2 v0_3 v0_4 v0_5 v0_6 v0_7 : Int) (w : World) :
    Calls Try.prog 6 #[.agg #[.int .i64 m0, .int .i64 v0_0, .int .i64 v0_1, .int .i64 v0_2, .int .i64 v0_3, .int .i64 v0_4, .int .i64 v0_5, .int .i64 v0_6, .int .i64 v0_7]] w fun e w' => e = .returned (.bool true) ∧ Below w.heap.size w w' := by
  have h2 : bErr 256 [0, 0, 0, 0, 0, 0, 0, 0] = 1 := by decide
  generalize h1 : bErr m0 [v0_0, v0_1, v0_2, v0_3, v0_4, v0_5, v0_6, v0_7] = r at *
  have h3 : (r == r) = true := by simp
  have k0 : ∀ x : Later (w.alloc (.cells #[.int .i64 m0, .int .i64 v0_0, .int .i64 v0_1, .int .i64 v0_2, .int .i64 v0_3, .int .i64 v0_4, .int .i64 v0_5, .int .i64 v0_6, .int .i64 v0_7] 37)), x.w.cell? ⟨w.heap.size, 0, none⟩ = some (.int .i64 m0) := fun x => x.cell (by simp)
  have k1 : ∀ x : Later (w.alloc (.cells #[.int .i64 m0, .int .i64 v0_0, .int .i64 v0_1, .int .i64 v0_2, .int .i64 v0_3, .int .i64 v0_4, .int .i64 v0_5, .int .i64 v0_6, .int .i64 v0_7] 37)), x.w.cell? ⟨w.heap.size, 1, none⟩ = some (.int .i64 v0_0) := fun x => x.cell (by simp)
  have k2 : ∀ x : Later (w.alloc (.cells #[.int .i64 m0, .int .i64 v0_0, .int .i64 v0_1, .int .i64 v0_2, .int .i64 v0_3, .int .i64 v0_4, .int .i64 v0_5, .int .i64 v0_6, .int .i64 v0_7] 37)), x.w.cell? ⟨w.heap.size, 2, none⟩ = some (.int .i64 v0_1) := fun x => x.cell (by simp)
  have k3 : ∀ x : Later (w.alloc (.cells #[.int .i64 m0, .int .i64 v0_0, .int .i64 v0_1, .int .i64 v0_2, .int .i64 v0_3, .int .i64 v0_4, .int .i64 v0_5, .int .i64 v0_6, .int .i64 v0_7] 37)), x.w.cell? ⟨w.heap.size, 3, none⟩ = some (.int .i64 v0_2) := fun x => x.cell (by simp)
  have k4 : ∀ x : Later (w.alloc (.cells #[.int .i64 m0, .int .i64 v0_0, .int .i64 v0_1, .int .i64 v0_2, .int .i64 v0_3, .int .i64 v0_4, .int .i64 v0_5, .int .i64 v0_6, .int .i64 v0_7] 37)), x.w.cell? ⟨w.heap.size, 4, none⟩ = some (.int .i64 v0_3) := fun x => x.cell (by simp)
  have k5 : ∀ x : Later (w.alloc (.cells #[.int .i64 m0, .int .i64 v0_0, .int .i64 v0_1, .int .i64 v0_2, .int .i64 v0_3, .int .i64 v0_4, .int .i64 v0_5, .int .i64 v0_6, .int .i64 v0_7] 37)), x.w.cell? ⟨w.heap.size, 5, none⟩ = some (.int .i64 v0_4) := fun x => x.cell (by simp)
  have k6 : ∀ x : Later (w.alloc (.cells #[.int .i64 m0, .int .i64 v0_0, .int .i64 v0_1, .int .i64 v0_2, .int .i64 v0_3, .int .i64 v0_4, .int .i64 v0_5, .int .i64 v0_6, .int .i64 v0_7] 37)), x.w.cell? ⟨w.heap.size, 6, none⟩ = some (.int .i64 v0_5) := fun x => x.cell (by simp)
  have k7 : ∀ x : Later (w.alloc (.cells #[.int .i64 m0, .int .i64 v0_0, .int .i64 v0_1, .int .i64 v0_2, .int .i64 v0_3, .int .i64 v0_4, .int .i64 v0_5, .int .i64 v0_6, .int .i64 v0_7] 37)), x.w.cell? ⟨w.heap.size, 7, none⟩ = some (.int .i64 v0_6) := fun x => x.cell (by simp)
  have k8 : ∀ x : Later (w.alloc (.cells #[.int .i64 m0, .int .i64 v0_0, .int .i64 v0_1, .int .i64 v0_2, .int .i64 v0_3, .int .i64 v0_4, .int .i64 v0_5, .int .i64 v0_6, .int .i64 v0_7] 37)), x.w.cell? ⟨w.heap.size, 8, none⟩ = some (.int .i64 v0_7) := fun x => x.cell (by simp)
  go_enter Try.func6, Try.ntmps6
  go_wp2_with fail
  refine wp_region_later (by kernel_rfl) (by kernel_rfl) ?_
  repeat (go_big_quiet_step ((first | (go_at_call 20; first | exact Calls.later (checkBeast_is (r := r) _ (by assumption)) | exact Calls.later (checkBeast_is (r := 1) _ (by assumption))) | (go_at_call 21; exact Calls.later (refBeastCheck_is (r := r) _ (by assumption))))))
  refine wpQuiet_nil ?_
  rintro _ ⟨nq, rfl⟩
  go_wp2
  go_ret
  exact ⟨rfl, nb_trans (nb_alloc (Below.refl _ _) _) nq.below⟩

namespace maskBeasts
theorem own : ownKnob Try.prog.godebug = none := by kernel_rfl
theorem laidOut : laidOutB Try.prog = true := by kernel_rfl

set_option maxRecDepth 100000 in
theorem lifted (os : Os) (started : os.Started) (H : Type) (enc : TypeId × Value → H) :
    ReturnsInHanded {} Try.checked os 6 .any (Rows.maskBeastsSpec.pre6 enc Try.prog Try.f6 Rows.maskBeastsRow.domain false) (Rows.maskBeastsSpec.post enc Try.prog Try.f6 false true false false) := by
  refine returnsInHanded_of_change (C := Try.checked) own started (by kernel_rfl) Try.func6
    (ChangeSpec.witness6 (enc := enc) (C := Try.checked) false ⟨#[], #[.agg #[.int .i64 0, .int .i64 0, .int .i64 0, .int .i64 0, .int .i64 0, .int .i64 0, .int .i64 0, .int .i64 0, .int .i64 0]], []⟩ 8 (by kernel_rfl) (by kernel_rfl) (by kernel_rfl) (by kernel_rfl)) ?_
  intro W base args ds gs before hval0 hW hcnd _
  have hval : ∀ (j : Nat) t v, Try.f6.params[j]? = some t → args[j]? = some v → Value.okWide Try.prog W .any base t v := hval0
  have hW' := hW
  obtain ⟨p, q, hA0, hV, rfl, hfz, hnd⟩ := hW
  have hA : DataW.TrodAll enc Try.prog W 0 (fun _ => true) true Try.f6.params.toList args.toList ds p := hA0
  rw [Try.params6] at hA hval
  obtain ⟨v0, vs0, d0, ds0, p0, q0, hargs, rfl, rfl, h0, r0⟩ := trodAll_cons hA
  obtain ⟨rfl, rfl, rfl⟩ := trodAll_nil r0
  obtain rfl : args = #[v0] := by cases args; simp_all
  obtain ⟨rfl, rfl⟩ := trodVars_none hV
  have k0' := h0
  have lt0 : ∀ x ∈ p0, x.block < W.heap.size := by obtain ⟨m, hm⟩ := h0; exact DataW.trod_lt m _ _ _ hm
  obtain ⟨m0, v0_0, v0_1, v0_2, v0_3, v0_4, v0_5, v0_6, v0_7, rfl⟩ : ∃ m x0 x1 x2 x3 x4 x5 x6 x7 : Int, v0 = .agg #[.int .i64 m, .int .i64 x0, .int .i64 x1, .int .i64 x2, .int .i64 x3, .int .i64 x4, .int .i64 x5, .int .i64 x6, .int .i64 x7] := by
    obtain ⟨zs, hl, rfl, _⟩ := open_flat 4 9 Try.underlying37 (by kernel_rfl) (by kernel_rfl) (hval 0 37 v0 rfl rfl) h0
    obtain ⟨m, x0, x1, x2, x3, x4, x5, x6, x7, rfl⟩ := list9 hl
    exact ⟨m, x0, x1, x2, x3, x4, x5, x6, x7, rfl⟩
  clear hA0 hval0
  refine (maskBeasts_walk m0 v0_0 v0_1 v0_2 v0_3 v0_4 v0_5 v0_6 v0_7 W).mono fun e W' ⟨he, bel⟩ => ?_
  subst he
  exact ⟨_, rfl, _, _, _, [], _, [], hW', trodAll_mk1 (shut_bool Try.underlying4 _), (trodAll_cons_mk (Below.trod laidOut (by kernel_rfl) (of_decide_eq_true (by kernel_rfl)) k0' bel lt0) trodAll_mk0), rfl, bel.frame _, fun h => by cases h⟩
end maskBeasts

theorem maskBeasts_proved : Rows.MaskBeastsSaid :=
  OpenClaim.holds_of_wide 6 Try.f6 rfl rfl rfl rfl rfl rfl rfl ⟨rfl, rfl, rfl, rfl, rfl⟩ rfl rfl rfl rfl rfl (by kernel_rfl) Try.func6 (by kernel_rfl)
    (of_decide_eq_true (by kernel_rfl)) (by unfold Func.isWrapper; first | (rw [if_pos (by decide +kernel)]; kernel_rfl) | (rw [if_neg (by decide +kernel)]; exact ⟨rfl, rfl⟩))
    (fun os started H enc _ => maskBeasts.lifted os started H enc)

end Go.Proofs.Ytfjlhiolfflnnaa

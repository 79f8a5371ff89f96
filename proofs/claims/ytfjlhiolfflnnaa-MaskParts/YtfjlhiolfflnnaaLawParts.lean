/- A set matches a query exactly if it matches each part of it; every set matches the empty query, and the query that needs just it: the statement MaskParts. No condition. -/
import Derived.Test.YtfjlhiolfflnnaaOpen
import Derived.Test.YtfjlhiolfflnnaaKeepMasked
import Derived.Test.YtfjlhiolfflnnaaRefMatches
import Derived.Test.YtfjlhiolfflnnaaLater
namespace Go.Proofs.Ytfjlhiolfflnnaa
open Go.ChangeShapes Go.WideShapes Go.ChangeAt Go.RowKit
set_option linter.unusedVariables false
namespace maskParts

theorem and_self (m : Int) (h : I64 m) : bits .and .i64 m m = m := i64_ext (and_I64 _ _) h fun k hk => by rw [tb_and _ _ k hk, Bool.and_self]
theorem and_zero (m : Int) : bits .and .i64 m 0 = 0 := i64_ext (and_I64 _ _) ⟨by decide, by decide⟩ fun k hk => by rw [tb_and _ _ k hk, tb_zero, Bool.and_false]
theorem part1 (m a : Int) : matchB m a 0 0 = (bits .and .i64 m a == a) := by simp [matchB, and_zero]
theorem part2 (m b : Int) : matchB m 0 b 0 = (bits .and .i64 m b == 0) := by simp [matchB, and_zero]
theorem part3 (m c : Int) : matchB m 0 0 c = ((c == 0) || (bits .and .i64 m c != 0)) := by simp [matchB, and_zero]
theorem parts (m a b c : Int) : matchB m a b c = (matchB m a 0 0 && matchB m 0 b 0 && matchB m 0 0 c) := by rw [part1, part2, part3]; rfl
end maskParts
open maskParts

theorem matches_is {m a b c : Int} {r : Bool} (w : World) (h : matchB m a b c = r) :
    Calls Try.prog 18 #[.int .i64 m, .agg #[.int .i64 a, .int .i64 b, .int .i64 c]] w fun e w' => e = .returned (.bool r) ∧ Below w.heap.size w w' :=
  (matches_any m a b c w).mono fun _ _ ⟨he, hw⟩ => ⟨by rw [← h]; exact he, by subst hw; exact nb_alloc (Below.refl _ _) _⟩

set_option maxHeartbeats 4000000 in
theorem maskParts_walk (a0 : Int) (i0 : I64 a0) (a1 b1 c1 : Int) (i1 : I64 a1) (j1 : I64 b1) (k1 : I64 c1) (w : World) :
    Calls Try.prog 10 #[.int .i64 a0, .agg #[.int .i64 a1, .int .i64 b1, .int .i64 c1]] w fun e w' => e = .returned (.bool true) ∧ Below w.heap.size w w' := by
  have HP := Lib.hid (parts a0 a1 b1 c1)
  have h5 : matchB a0 0 0 0 = true := by rw [part1, and_zero]; rfl
  have h6 : matchB a0 a0 0 0 = true := by rw [part1, and_self _ i0]; simp
  clear i0 i1 j1 k1
  cases h1 : matchB a0 a1 0 0 <;> cases h2 : matchB a0 0 b1 0 <;> cases h3 : matchB a0 0 0 c1
  all_goals
    rw [h1, h2, h3] at HP
    have h4 := HP.out
    simp only [Bool.and_true, Bool.and_false] at h4
    have k0 : ∀ x : Later (w.alloc (.cells #[.int .i64 a1, .int .i64 b1, .int .i64 c1] 33)), x.w.cell? ⟨w.heap.size, 0, none⟩ = some (.int .i64 a1) := fun x => x.cell (by simp)
    have k1 : ∀ x : Later (w.alloc (.cells #[.int .i64 a1, .int .i64 b1, .int .i64 c1] 33)), x.w.cell? ⟨w.heap.size, 1, none⟩ = some (.int .i64 b1) := fun x => x.cell (by simp)
    have k2 : ∀ x : Later (w.alloc (.cells #[.int .i64 a1, .int .i64 b1, .int .i64 c1] 33)), x.w.cell? ⟨w.heap.size, 2, none⟩ = some (.int .i64 c1) := fun x => x.cell (by simp)
    go_enter Try.func10, Try.ntmps10
    go_wp2_with fail
    refine wp_region_later (by kernel_rfl) (by kernel_rfl) ?_
    repeat (go_big_quiet_step ((first | (go_at_call 24; exact Calls.later (keepMasked_any _)) | (go_at_call 18; first | exact Calls.later (matches_is (r := true) _ (by assumption)) | exact Calls.later (matches_is (r := false) _ (by assumption))))))
    refine wpQuiet_nil ?_
    rintro _ ⟨nq, rfl⟩
    go_wp2
    go_ret
    exact ⟨rfl, nb_trans (nb_alloc (Below.refl _ _) _) nq.below⟩

namespace maskParts
theorem own : ownKnob Try.prog.godebug = none := by kernel_rfl
theorem laidOut : laidOutB Try.prog = true := by kernel_rfl

set_option maxRecDepth 100000 in
theorem lifted (os : Os) (started : os.Started) (H : Type) (enc : TypeId × Value → H) :
    ReturnsInHanded {} Try.checked os 10 .any (Rows.maskPartsSpec.pre6 enc Try.prog Try.f10 Rows.maskPartsRow.domain false) (Rows.maskPartsSpec.post enc Try.prog Try.f10 false true false false) := by
  refine returnsInHanded_of_change (C := Try.checked) own started (by kernel_rfl) Try.func10
    (ChangeSpec.witness6 (enc := enc) (C := Try.checked) false ⟨#[], #[.int .i64 0, .agg #[.int .i64 0, .int .i64 0, .int .i64 0]], []⟩ 8 (by kernel_rfl) (by kernel_rfl) (by kernel_rfl) (by kernel_rfl)) ?_
  intro W base args ds gs before hval0 hW hcnd _
  have hval : ∀ (j : Nat) t v, Try.f10.params[j]? = some t → args[j]? = some v → Value.okWide Try.prog W .any base t v := hval0
  have hW' := hW
  obtain ⟨p, q, hA0, hV, rfl, hfz, hnd⟩ := hW
  have hA : DataW.TrodAll enc Try.prog W 0 (fun _ => true) true Try.f10.params.toList args.toList ds p := hA0
  rw [Try.params10] at hA hval
  obtain ⟨v0, vs0, d0, ds0, p0, q0, hargs, rfl, rfl, h0, r0⟩ := trodAll_cons hA
  obtain ⟨v1, vs1, d1, ds1, p1, q1, rfl, rfl, rfl, h1, r1⟩ := trodAll_cons r0
  obtain ⟨rfl, rfl, rfl⟩ := trodAll_nil r1
  obtain rfl : args = #[v0, v1] := by cases args; simp_all
  obtain ⟨rfl, rfl⟩ := trodVars_none hV
  have k0' := h0
  have lt0 : ∀ x ∈ p0, x.block < W.heap.size := by obtain ⟨m, hm⟩ := h0; exact DataW.trod_lt m _ _ _ hm
  have k1' := h1
  have lt1 : ∀ x ∈ p1, x.block < W.heap.size := by obtain ⟨m, hm⟩ := h1; exact DataW.trod_lt m _ _ _ hm
  obtain ⟨a0, rfl, i0⟩ : ∃ a : Int, v0 = .int .i64 a ∧ I64 a := by
    obtain ⟨a, rfl, _, _, wa⟩ := open_int Try.underlying3 (hval 0 3 v0 rfl rfl) h0
    exact ⟨a, rfl, I64_of wa⟩
  obtain ⟨a1, b1, c1, rfl, i1, j1, k1⟩ : ∃ a b c : Int, v1 = .agg #[.int .i64 a, .int .i64 b, .int .i64 c] ∧ I64 a ∧ I64 b ∧ I64 c := by
    obtain ⟨c0, c1, c2, y0, y1, y2, m, rfl, _, _, hy0, hy1, hy2⟩ := Go.Joins.open_agg3 Try.underlying33 (by kernel_rfl) (show Try.prog.cellsOf 33 = 3 by kernel_rfl) (hval 1 33 v1 rfl rfl) h1
    obtain ⟨a, e0, _, wa⟩ := DataW.trod_int Try.underlying3 hy0
    obtain ⟨b, e1, _, wb⟩ := DataW.trod_int Try.underlying3 hy1
    obtain ⟨c, e2, _, wc⟩ := DataW.trod_int Try.underlying3 hy2
    simp at e0 e1 e2
    exact ⟨a, b, c, by rw [e0, e1, e2], I64_of wa, I64_of wb, I64_of wc⟩
  clear hA0 hval0
  refine (maskParts_walk a0 i0 a1 b1 c1 i1 j1 k1 W).mono fun e W' ⟨he, bel⟩ => ?_
  subst he
  exact ⟨_, rfl, _, _, _, [], _, [], hW', trodAll_mk1 (shut_bool Try.underlying4 _), (trodAll_cons_mk (Below.trod laidOut (by kernel_rfl) (of_decide_eq_true (by kernel_rfl)) k0' bel lt0) (trodAll_cons_mk (Below.trod laidOut (by kernel_rfl) (of_decide_eq_true (by kernel_rfl)) k1' bel lt1) trodAll_mk0)), rfl, bel.frame _, fun h => by cases h⟩
end maskParts

theorem maskParts_proved : Rows.MaskPartsSaid :=
  OpenClaim.holds_of_wide 10 Try.f10 rfl rfl rfl rfl rfl rfl rfl ⟨rfl, rfl, rfl, rfl, rfl⟩ rfl rfl rfl rfl rfl (by kernel_rfl) Try.func10 (by kernel_rfl)
    (of_decide_eq_true (by kernel_rfl)) (by unfold Func.isWrapper; first | (rw [if_pos (by decide +kernel)]; kernel_rfl) | (rw [if_neg (by decide +kernel)]; exact ⟨rfl, rfl⟩))
    (fun os started H enc _ => maskParts.lifted os started H enc)

end Go.Proofs.Ytfjlhiolfflnnaa

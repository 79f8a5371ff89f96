/- More components match no fewer queries of Need and Any, fewer components no fewer of Not: the statement MaskMore. No condition. -/
import Derived.Test.YtfjlhiolfflnnaaOpen
import Derived.Test.YtfjlhiolfflnnaaKeepMasked
import Derived.Test.YtfjlhiolfflnnaaRefMatches
import Derived.Test.YtfjlhiolfflnnaaLater
import Derived.BigRegion
namespace Go.Proofs.Ytfjlhiolfflnnaa
open Go.ChangeShapes Go.WideShapes Go.ChangeAt Go.RowKit
set_option linter.unusedVariables false
namespace maskMore

theorem more_needs {m o a c : Int} (ha : I64 a) (h : matchB m a 0 c = true) : matchB (bits .or .i64 m o) a 0 c = true := by
  rw [matchB_iff _ _ _ _ ha, Bool.and_eq_true, okTo_iff, anyTo_iff] at *
  refine ⟨fun j hj => ⟨fun hh => ?_, fun hh => absurd hh (by rw [tb_zero]; decide)⟩, h.2.imp id fun ⟨j, hj, hc, hm⟩ => ⟨j, hj, hc, by rw [tb_or _ _ j hj, hm]; rfl⟩⟩
  rw [tb_or _ _ j hj, (h.1 j hj).1 hh]; rfl
theorem fewer_nots {m o b : Int} (h : matchB (bits .or .i64 m o) 0 b 0 = true) : matchB m 0 b 0 = true := by
  rw [matchB_iff _ _ _ _ ⟨by decide, by decide⟩, Bool.and_eq_true, okTo_iff, anyTo_iff] at *
  refine ⟨fun j hj => ⟨fun hh => absurd hh (by rw [tb_zero]; decide), fun hh => ?_⟩, .inl rfl⟩
  have := (h.1 j hj).2 hh
  rw [tb_or _ _ j hj] at this
  revert this; cases tb m j <;> simp
end maskMore
open maskMore

set_option maxHeartbeats 2000000 in
theorem maskMore_walk (a0 : Int) (i0 : I64 a0) (a1 : Int) (i1 : I64 a1) (a2 b2 c2 : Int) (i2 : I64 a2) (j2 : I64 b2) (k2 : I64 c2) (w : World) :
    Calls Try.prog 9 #[.int .i64 a0, .int .i64 a1, .agg #[.int .i64 a2, .int .i64 b2, .int .i64 c2]] w fun e w' => e = .returned (.bool true) ∧ Below w.heap.size w w' := by
  have N1 := Lib.hid (fun h => more_needs (m := a0) (o := a1) (c := c2) i2 h)
  have N2 := Lib.hid (fun h => fewer_nots (m := a0) (o := a1) (b := b2) h)
  clear i0 i1 i2 j2 k2
  go_enter Try.func9, Try.ntmps9
  go_wp2_with fail
  refine (keepMasked_any _).mono ?_
  rintro e w1 ⟨rfl, hb⟩
  have HB := Lib.hid (nb_trans (nb_alloc (Below.refl _ _) _) hb)
  have c0 : w1.cell? ⟨w.heap.size, 0, none⟩ = some (.int .i64 a2) := by rw [hb.cell (p := ⟨w.heap.size, 0, none⟩) (by simp)]; simp
  have c1 : w1.cell? ⟨w.heap.size, 1, none⟩ = some (.int .i64 b2) := by rw [hb.cell (p := ⟨w.heap.size, 1, none⟩) (by simp)]; simp
  have c2' : w1.cell? ⟨w.heap.size, 2, none⟩ = some (.int .i64 c2) := by rw [hb.cell (p := ⟨w.heap.size, 2, none⟩) (by simp)]; simp
  have hsz : w.heap.size < w1.heap.size := by have := hb.size; simp at this; omega
  clear hb
  go_wp2_with fail
  go_region
  all_goals
    cases hA : matchB a0 a2 0 c2 <;> cases hC : matchB (bits .or .i64 a0 a1) 0 b2 0
    all_goals
      first | have hB := N1.out hA | skip
      first | have hD := N2.out hC | skip
      go_wp2_with (first | (go_at_call 18; refine (matches_any _ _ _ _ _).mono ?_; rintro e w' ⟨rfl, rfl⟩))
      go_ret
      refine ⟨rfl, ?_⟩
      repeat (first | exact HB.out | refine nb_alloc ?_ _ | refine Below.drew ?_)

namespace maskMore
theorem own : ownKnob Try.prog.godebug = none := by kernel_rfl
theorem laidOut : laidOutB Try.prog = true := by kernel_rfl

set_option maxRecDepth 100000 in
theorem lifted (os : Os) (started : os.Started) (H : Type) (enc : TypeId × Value → H) :
    ReturnsInHanded {} Try.checked os 9 .any (Rows.maskMoreSpec.pre6 enc Try.prog Try.f9 Rows.maskMoreRow.domain false) (Rows.maskMoreSpec.post enc Try.prog Try.f9 false true false false) := by
  refine returnsInHanded_of_change (C := Try.checked) own started (by kernel_rfl) Try.func9
    (ChangeSpec.witness6 (enc := enc) (C := Try.checked) false ⟨#[], #[.int .i64 0, .int .i64 0, .agg #[.int .i64 0, .int .i64 0, .int .i64 0]], []⟩ 8 (by kernel_rfl) (by kernel_rfl) (by kernel_rfl) (by kernel_rfl)) ?_
  intro W base args ds gs before hval0 hW hcnd _
  have hval : ∀ (j : Nat) t v, Try.f9.params[j]? = some t → args[j]? = some v → Value.okWide Try.prog W .any base t v := hval0
  have hW' := hW
  obtain ⟨p, q, hA0, hV, rfl, hfz, hnd⟩ := hW
  have hA : DataW.TrodAll enc Try.prog W 0 (fun _ => true) true Try.f9.params.toList args.toList ds p := hA0
  rw [Try.params9] at hA hval
  obtain ⟨v0, vs0, d0, ds0, p0, q0, hargs, rfl, rfl, h0, r0⟩ := trodAll_cons hA
  obtain ⟨v1, vs1, d1, ds1, p1, q1, rfl, rfl, rfl, h1, r1⟩ := trodAll_cons r0
  obtain ⟨v2, vs2, d2, ds2, p2, q2, rfl, rfl, rfl, h2, r2⟩ := trodAll_cons r1
  obtain ⟨rfl, rfl, rfl⟩ := trodAll_nil r2
  obtain rfl : args = #[v0, v1, v2] := by cases args; simp_all
  obtain ⟨rfl, rfl⟩ := trodVars_none hV
  have k0' := h0
  have lt0 : ∀ x ∈ p0, x.block < W.heap.size := by obtain ⟨m, hm⟩ := h0; exact DataW.trod_lt m _ _ _ hm
  have k1' := h1
  have lt1 : ∀ x ∈ p1, x.block < W.heap.size := by obtain ⟨m, hm⟩ := h1; exact DataW.trod_lt m _ _ _ hm
  have k2' := h2
  have lt2 : ∀ x ∈ p2, x.block < W.heap.size := by obtain ⟨m, hm⟩ := h2; exact DataW.trod_lt m _ _ _ hm
  obtain ⟨a0, rfl, i0⟩ : ∃ a : Int, v0 = .int .i64 a ∧ I64 a := by
    obtain ⟨a, rfl, _, _, wa⟩ := open_int Try.underlying3 (hval 0 3 v0 rfl rfl) h0
    exact ⟨a, rfl, I64_of wa⟩
  obtain ⟨a1, rfl, i1⟩ : ∃ a : Int, v1 = .int .i64 a ∧ I64 a := by
    obtain ⟨a, rfl, _, _, wa⟩ := open_int Try.underlying3 (hval 1 3 v1 rfl rfl) h1
    exact ⟨a, rfl, I64_of wa⟩
  obtain ⟨a2, b2, c2, rfl, i2, j2, k2⟩ : ∃ a b c : Int, v2 = .agg #[.int .i64 a, .int .i64 b, .int .i64 c] ∧ I64 a ∧ I64 b ∧ I64 c := by
    obtain ⟨c0, c1, c2, y0, y1, y2, m, rfl, _, _, hy0, hy1, hy2⟩ := Go.Joins.open_agg3 Try.underlying33 (by kernel_rfl) (show Try.prog.cellsOf 33 = 3 by kernel_rfl) (hval 2 33 v2 rfl rfl) h2
    obtain ⟨a, e0, _, wa⟩ := DataW.trod_int Try.underlying3 hy0
    obtain ⟨b, e1, _, wb⟩ := DataW.trod_int Try.underlying3 hy1
    obtain ⟨c, e2, _, wc⟩ := DataW.trod_int Try.underlying3 hy2
    simp at e0 e1 e2
    exact ⟨a, b, c, by rw [e0, e1, e2], I64_of wa, I64_of wb, I64_of wc⟩
  clear hA0 hval0
  refine (maskMore_walk a0 i0 a1 i1 a2 b2 c2 i2 j2 k2 W).mono fun e W' ⟨he, bel⟩ => ?_
  subst he
  exact ⟨_, rfl, _, _, _, [], _, [], hW', trodAll_mk1 (shut_bool Try.underlying4 _), (trodAll_cons_mk (Below.trod laidOut (by kernel_rfl) (of_decide_eq_true (by kernel_rfl)) k0' bel lt0) (trodAll_cons_mk (Below.trod laidOut (by kernel_rfl) (of_decide_eq_true (by kernel_rfl)) k1' bel lt1) (trodAll_cons_mk (Below.trod laidOut (by kernel_rfl) (of_decide_eq_true (by kernel_rfl)) k2' bel lt2) trodAll_mk0))), rfl, bel.frame _, fun h => by cases h⟩
end maskMore

theorem maskMore_proved : Rows.MaskMoreSaid :=
  OpenClaim.holds_of_wide 9 Try.f9 rfl rfl rfl rfl rfl rfl rfl ⟨rfl, rfl, rfl, rfl, rfl⟩ rfl rfl rfl rfl rfl (by kernel_rfl) Try.func9 (by kernel_rfl)
    (of_decide_eq_true (by kernel_rfl)) (by unfold Func.isWrapper; first | (rw [if_pos (by decide +kernel)]; kernel_rfl) | (rw [if_neg (by decide +kernel)]; exact ⟨rfl, rfl⟩))
    (fun os started H enc _ => maskMore.lifted os started H enc)

end Go.Proofs.Ytfjlhiolfflnnaa

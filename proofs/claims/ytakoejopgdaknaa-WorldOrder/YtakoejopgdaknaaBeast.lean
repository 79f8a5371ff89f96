/- The contracts of CheckBeast and of the reference's BeastCheck: the first error of an entity. -/
import Derived.Test.YtakoejopgdaknaaLists
import Derived.Test.YtakoejopgdaknaaBeastModel
namespace Go.Proofs.Ytakoejopgdaknaa
set_option maxRecDepth 8000
open Go.RowKit

/-- an element of an array of eight ints that is written out -/
theorem index8 (v0 v1 v2 v3 v4 v5 v6 v7 : Int) (k : Nat) (h : k < 8) (w : World) : (Instr.index 34 (.agg #[.int .i64 v0, .int .i64 v1, .int .i64 v2, .int .i64 v3, .int .i64 v4, .int .i64 v5, .int .i64 v6, .int .i64 v7]) (.int .i64 (k : Int))).run Try.prog w = .ok (.int .i64 ([v0, v1, v2, v3, v4, v5, v6, v7].getD k 0)) w := by
  obtain rfl | rfl | rfl | rfl | rfl | rfl | rfl | rfl : k = 0 ∨ k = 1 ∨ k = 2 ∨ k = 3 ∨ k = 4 ∨ k = 5 ∨ k = 6 ∨ k = 7 := by omega
  all_goals kernel_rfl

set_option maxHeartbeats 2000000 in
theorem checkBeast_any (m v0 v1 v2 v3 v4 v5 v6 v7 : Int) (w : World) :
    Calls Try.prog 54 #[.agg #[.int .i64 m, .int .i64 v0, .int .i64 v1, .int .i64 v2, .int .i64 v3, .int .i64 v4, .int .i64 v5, .int .i64 v6, .int .i64 v7]] w fun e w' => e = .returned (.int .i64 (bErr m [v0, v1, v2, v3, v4, v5, v6, v7])) ∧ w.alloc (.cells #[.int .i64 m, .int .i64 v0, .int .i64 v1, .int .i64 v2, .int .i64 v3, .int .i64 v4, .int .i64 v5, .int .i64 v6, .int .i64 v7] 36) = w' := by
  have HIX := Lib.hid (index8 v0 v1 v2 v3 v4 v5 v6 v7)
  have HE : Hid ([v0, v1, v2, v3, v4, v5, v6, v7] = [v0, v1, v2, v3, v4, v5, v6, v7]) := Lib.hid rfl
  generalize [v0, v1, v2, v3, v4, v5, v6, v7] = vs at *
  clear HE
  cases hm : inB m 0 255
  · have HR := Lib.hid (bErr_kinds (vs := vs) hm)
    go_enter Try.func54, Try.ntmps54
    go_wp2_with (first | (go_at_call 68; refine (isSet_any _ _).mono ?_; rintro e w' ⟨rfl, rfl⟩))
    go_ret
    exact ⟨ret_int HR.out.symm, rfl⟩
  · have HM := Lib.hid hm
    go_enter Try.func54, Try.ntmps54
    go_wp2_with (first | (go_at_call 68; refine (isSet_any _ _).mono ?_; rintro e w' ⟨rfl, rfl⟩))
    go_loop [11] (fun i => ∃ k : Nat, k ≤ 8 ∧ i = .int .i64 k ∧ Hid (bTo m vs k = 0)) (fun i => 8 - (intOf i).toNat)
    case atStart => exact ⟨0, by omega, rfl, rfl⟩
    case round =>
      obtain ⟨k, hk, rfl, hb⟩ := hrel
      by_cases hlt : k < 8
      · have hix := HIX.out k hlt
        have HS : Hid (∀ c, bStep m k (vs.getD k 0) = c → c ≠ 0 → bErr m vs = c) := Lib.hid (fun c h1 h2 => bErr_stop HM.out hb.out hlt h1 h2)
        have HN := Lib.hid (bTo_next hb.out)
        generalize vs.getD k 0 = x at *
        cases h1 : tb m k <;> cases h2 : (x != 0) <;> cases h3 : inB x (-1000000000) 1000000000
        all_goals
          have HB := Lib.hid (bStep_eq h1 h2 h3)
          first | obtain ⟨b1, b2⟩ := inB_t h3 | (rcases inB_f h3 with b1 | b1)
          all_goals
            clear h3
            go_wp2_with (first | (go_at_call 76; refine (has_any _ _ _ (by omega) (by omega)).mono ?_; rintro e w' ⟨rfl, rfl⟩; rw [Int.toNat_natCast]))
            first
              | (go_ret; exact ⟨ret_int (HS.out _ HB.out (by decide)).symm, rfl⟩)
              | (go_round
                 case rel => exact ⟨k + 1, by omega, by go_num, by rw [HN.out, HB.out]; rfl⟩
                 case measure => simp [intOf]; omega)
      · obtain rfl : k = 8 := by omega
        have HR := Lib.hid (bErr_end HM.out hb.out)
        go_wp2
        go_ret
        exact ⟨ret_int HR.out.symm, rfl⟩
set_option maxHeartbeats 2000000 in
theorem refBeastCheck_any (m v0 v1 v2 v3 v4 v5 v6 v7 : Int) (w : World) :
    Calls Try.prog 60 #[.agg #[.int .i64 m, .int .i64 v0, .int .i64 v1, .int .i64 v2, .int .i64 v3, .int .i64 v4, .int .i64 v5, .int .i64 v6, .int .i64 v7]] w fun e w' => e = .returned (.int .i64 (bErr m [v0, v1, v2, v3, v4, v5, v6, v7])) ∧ w.alloc (.cells #[.int .i64 m, .int .i64 v0, .int .i64 v1, .int .i64 v2, .int .i64 v3, .int .i64 v4, .int .i64 v5, .int .i64 v6, .int .i64 v7] 36) = w' := by
  have HIX := Lib.hid (index8 v0 v1 v2 v3 v4 v5 v6 v7)
  have HE : Hid ([v0, v1, v2, v3, v4, v5, v6, v7] = [v0, v1, v2, v3, v4, v5, v6, v7]) := Lib.hid rfl
  generalize [v0, v1, v2, v3, v4, v5, v6, v7] = vs at *
  clear HE
  cases hm : inB m 0 255
  · have HR := Lib.hid (bErr_kinds (vs := vs) hm)
    go_enter Try.func60, Try.ntmps60
    go_wp2_with (first | (go_at_call 65; refine (outside_any _ _ _ _).mono ?_; rintro e w' ⟨rfl, rfl⟩))
    go_ret
    exact ⟨ret_int HR.out.symm, rfl⟩
  · have HM := Lib.hid hm
    go_enter Try.func60, Try.ntmps60
    go_wp2_with (first | (go_at_call 65; refine (outside_any _ _ _ _).mono ?_; rintro e w' ⟨rfl, rfl⟩))
    go_loop [10] (fun i => ∃ k : Nat, k ≤ 8 ∧ i = .int .i64 k ∧ Hid (bTo m vs k = 0)) (fun i => 8 - (intOf i).toNat)
    case atStart => exact ⟨0, by omega, rfl, rfl⟩
    case round =>
      obtain ⟨k, hk, rfl, hb⟩ := hrel
      by_cases hlt : k < 8
      · have hix := HIX.out k hlt
        have HS : Hid (∀ c, bStep m k (vs.getD k 0) = c → c ≠ 0 → bErr m vs = c) := Lib.hid (fun c h1 h2 => bErr_stop HM.out hb.out hlt h1 h2)
        have HN := Lib.hid (bTo_next hb.out)
        generalize vs.getD k 0 = x at *
        cases h1 : tb m k <;> cases h2 : (x != 0) <;> cases h3 : inB x (-1000000000) 1000000000
        all_goals
          have HB := Lib.hid (bStep_eq h1 h2 h3)
          all_goals
            go_wp2_with (first | (go_at_call 25; refine (refHasKind_any _ _ _ (by omega) (by omega)).mono ?_; rintro e w' ⟨rfl, rfl⟩; rw [Int.toNat_natCast]) | (go_at_call 65; refine (outside_any _ _ _ _).mono ?_; rintro e w' ⟨rfl, rfl⟩))
            first
              | (go_ret; exact ⟨ret_int (HS.out _ HB.out (by decide)).symm, rfl⟩)
              | (go_round
                 case rel => exact ⟨k + 1, by omega, by go_num, by rw [HN.out, HB.out]; rfl⟩
                 case measure => simp [intOf]; omega)
      · obtain rfl : k = 8 := by omega
        have HR := Lib.hid (bErr_end HM.out hb.out)
        go_wp2
        go_ret
        exact ⟨ret_int HR.out.symm, rfl⟩
end Go.Proofs.Ytakoejopgdaknaa

/- The contracts of CheckBeast and of the reference's BeastCheck: the first error of an entity. -/
import Derived.Test.YtdlbljheobkfaaaLists
namespace Go.Proofs.Ytdlbljheobkfaaa
open Go.RowKit

/-- the error at component i: its value is n -/
def bStep (m : Int) (i : Nat) (n : Int) : Int := if !tb m i && n != 0 then 4 else if inB n (-1000000000) 1000000000 then 0 else 1
/-- the first error among the first k components -/
def bTo (m : Int) (vs : List Int) : Nat → Int
  | 0 => 0
  | k + 1 => if bTo m vs k = 0 then bStep m k (vs.getD k 0) else bTo m vs k
/-- the first error of an entity -/
def bErr (m : Int) (vs : List Int) : Int := if inB m 0 255 then bTo m vs 8 else 1

theorem bTo_next {m : Int} {vs : List Int} {k : Nat} (h : bTo m vs k = 0) : bTo m vs (k + 1) = bStep m k (vs.getD k 0) := by rw [bTo, if_pos h]
theorem bTo_stop {m : Int} {vs : List Int} {k : Nat} (h : bTo m vs k ≠ 0) : ∀ j, k ≤ j → bTo m vs j = bTo m vs k := by
  intro j hj
  induction j with
  | zero => obtain rfl : k = 0 := by omega
            rfl
  | succ j ih =>
    by_cases e : k = j + 1
    · rw [e]
    · rw [bTo, if_neg (by rw [ih (by omega)]; exact h), ih (by omega)]
theorem bErr_stop {m : Int} {vs : List Int} {k : Nat} {c : Int} (hm : inB m 0 255 = true) (h : bTo m vs k = 0) (hk : k < 8) (hs : bStep m k (vs.getD k 0) = c) (hc : c ≠ 0) : bErr m vs = c := by
  have h1 := bTo_next h
  rw [bErr, if_pos hm, bTo_stop (k := k + 1) (by rw [h1, hs]; exact hc) 8 (by omega), h1, hs]
theorem bErr_end {m : Int} {vs : List Int} (hm : inB m 0 255 = true) (h : bTo m vs 8 = 0) : bErr m vs = 0 := by rw [bErr, if_pos hm, h]
theorem bErr_kinds {m : Int} {vs : List Int} (hm : inB m 0 255 = false) : bErr m vs = 1 := by rw [bErr, if_neg (by rw [hm]; decide)]
theorem bStep_eq {m n : Int} {i : Nat} {x y z : Bool} (h1 : tb m i = x) (h2 : (n != 0) = y) (h3 : inB n (-1000000000) 1000000000 = z) : bStep m i n = if !x && y then 4 else if z then 0 else 1 := by
  subst h1 h2 h3; rfl

/-- an element of an array of eight ints that is written out -/
theorem index8 (v0 v1 v2 v3 v4 v5 v6 v7 : Int) (k : Nat) (h : k < 8) (w : World) : (Instr.index 33 (.agg #[.int .i64 v0, .int .i64 v1, .int .i64 v2, .int .i64 v3, .int .i64 v4, .int .i64 v5, .int .i64 v6, .int .i64 v7]) (.int .i64 (k : Int))).run Try.prog w = .ok (.int .i64 ([v0, v1, v2, v3, v4, v5, v6, v7].getD k 0)) w := by
  obtain rfl | rfl | rfl | rfl | rfl | rfl | rfl | rfl : k = 0 ∨ k = 1 ∨ k = 2 ∨ k = 3 ∨ k = 4 ∨ k = 5 ∨ k = 6 ∨ k = 7 := by omega
  all_goals kernel_rfl

set_option maxHeartbeats 2000000 in
theorem checkBeast_any (m v0 v1 v2 v3 v4 v5 v6 v7 : Int) (w : World) :
    Calls Try.prog 26 #[.agg #[.int .i64 m, .int .i64 v0, .int .i64 v1, .int .i64 v2, .int .i64 v3, .int .i64 v4, .int .i64 v5, .int .i64 v6, .int .i64 v7]] w fun e w' => e = .returned (.int .i64 (bErr m [v0, v1, v2, v3, v4, v5, v6, v7])) ∧ w.alloc (.cells #[.int .i64 m, .int .i64 v0, .int .i64 v1, .int .i64 v2, .int .i64 v3, .int .i64 v4, .int .i64 v5, .int .i64 v6, .int .i64 v7] 35) = w' := by
  have HIX := Lib.hid (index8 v0 v1 v2 v3 v4 v5 v6 v7)
  have HE : Hid ([v0, v1, v2, v3, v4, v5, v6, v7] = [v0, v1, v2, v3, v4, v5, v6, v7]) := Lib.hid rfl
  generalize [v0, v1, v2, v3, v4, v5, v6, v7] = vs at *
  clear HE
  cases hm : inB m 0 255
  · have HR := Lib.hid (bErr_kinds (vs := vs) hm)
    go_enter Try.func26, Try.ntmps26
    go_wp2_with (first | (go_at_call 42; refine (isSet_any _ _).mono ?_; rintro e w' ⟨rfl, rfl⟩))
    go_ret
    exact ⟨ret_int HR.out.symm, rfl⟩
  · have HM := Lib.hid hm
    go_enter Try.func26, Try.ntmps26
    go_wp2_with (first | (go_at_call 42; refine (isSet_any _ _).mono ?_; rintro e w' ⟨rfl, rfl⟩))
    go_loop [11] (fun i => ∃ k : Nat, k ≤ 8 ∧ i = .int .i64 k ∧ Hid (bTo m vs k = 0)) (fun i => 8 - (intOf i).toNat)
    case atStart => exact ⟨0, by omega, rfl, rfl⟩
    case round =>
      obtain ⟨k, hk, rfl, hb⟩ := hrel
      by_cases hlt : k < 8
      · have hix := HIX.out k hlt
        have HS : Hid (∀ c, bStep m k (vs.getD k 0) = c → c ≠ 0 → bErr m vs = c) := Lib.hid (fun c h1 h2 => bErr_stop HM.out hb.out hlt h1 h2)
        have HN := Lib.hid (bTo_next hb.out)
        generalize vs.getD k 0 = x at *
        cases h1 : tb m k <;> cases h2 : (x != 0) <;> cases h3 : inB x (-1000000000) 1000000000
        all_goals
          have HB := Lib.hid (bStep_eq h1 h2 h3)
          first | obtain ⟨b1, b2⟩ := inB_t h3 | (rcases inB_f h3 with b1 | b1)
          all_goals
            clear h3
            go_wp2_with (first | (go_at_call 41; refine (has_any _ _ _ (by omega) (by omega)).mono ?_; rintro e w' ⟨rfl, rfl⟩; rw [Int.toNat_natCast]))
            first
              | (go_ret; exact ⟨ret_int (HS.out _ HB.out (by decide)).symm, rfl⟩)
              | (go_round
                 case rel => exact ⟨k + 1, by omega, by go_num, by rw [HN.out, HB.out]; rfl⟩
                 case measure => simp [intOf]; omega)
      · obtain rfl : k = 8 := by omega
        have HR := Lib.hid (bErr_end HM.out hb.out)
        go_wp2
        go_ret
        exact ⟨ret_int HR.out.symm, rfl⟩
set_option maxHeartbeats 2000000 in
theorem refBeastCheck_any (m v0 v1 v2 v3 v4 v5 v6 v7 : Int) (w : World) :
    Calls Try.prog 29 #[.agg #[.int .i64 m, .int .i64 v0, .int .i64 v1, .int .i64 v2, .int .i64 v3, .int .i64 v4, .int .i64 v5, .int .i64 v6, .int .i64 v7]] w fun e w' => e = .returned (.int .i64 (bErr m [v0, v1, v2, v3, v4, v5, v6, v7])) ∧ w.alloc (.cells #[.int .i64 m, .int .i64 v0, .int .i64 v1, .int .i64 v2, .int .i64 v3, .int .i64 v4, .int .i64 v5, .int .i64 v6, .int .i64 v7] 35) = w' := by
  have HIX := Lib.hid (index8 v0 v1 v2 v3 v4 v5 v6 v7)
  have HE : Hid ([v0, v1, v2, v3, v4, v5, v6, v7] = [v0, v1, v2, v3, v4, v5, v6, v7]) := Lib.hid rfl
  generalize [v0, v1, v2, v3, v4, v5, v6, v7] = vs at *
  clear HE
  cases hm : inB m 0 255
  · have HR := Lib.hid (bErr_kinds (vs := vs) hm)
    go_enter Try.func29, Try.ntmps29
    go_wp2_with (first | (go_at_call 33; refine (outside_any _ _ _ _).mono ?_; rintro e w' ⟨rfl, rfl⟩))
    go_ret
    exact ⟨ret_int HR.out.symm, rfl⟩
  · have HM := Lib.hid hm
    go_enter Try.func29, Try.ntmps29
    go_wp2_with (first | (go_at_call 33; refine (outside_any _ _ _ _).mono ?_; rintro e w' ⟨rfl, rfl⟩))
    go_loop [10] (fun i => ∃ k : Nat, k ≤ 8 ∧ i = .int .i64 k ∧ Hid (bTo m vs k = 0)) (fun i => 8 - (intOf i).toNat)
    case atStart => exact ⟨0, by omega, rfl, rfl⟩
    case round =>
      obtain ⟨k, hk, rfl, hb⟩ := hrel
      by_cases hlt : k < 8
      · have hix := HIX.out k hlt
        have HS : Hid (∀ c, bStep m k (vs.getD k 0) = c → c ≠ 0 → bErr m vs = c) := Lib.hid (fun c h1 h2 => bErr_stop HM.out hb.out hlt h1 h2)
        have HN := Lib.hid (bTo_next hb.out)
        generalize vs.getD k 0 = x at *
        cases h1 : tb m k <;> cases h2 : (x != 0) <;> cases h3 : inB x (-1000000000) 1000000000
        all_goals
          have HB := Lib.hid (bStep_eq h1 h2 h3)
          all_goals
            go_wp2_with (first | (go_at_call 23; refine (refHasKind_any _ _ _ (by omega) (by omega)).mono ?_; rintro e w' ⟨rfl, rfl⟩; rw [Int.toNat_natCast]) | (go_at_call 33; refine (outside_any _ _ _ _).mono ?_; rintro e w' ⟨rfl, rfl⟩))
            first
              | (go_ret; exact ⟨ret_int (HS.out _ HB.out (by decide)).symm, rfl⟩)
              | (go_round
                 case rel => exact ⟨k + 1, by omega, by go_num, by rw [HN.out, HB.out]; rfl⟩
                 case measure => simp [intOf]; omega)
      · obtain rfl : k = 8 := by omega
        have HR := Lib.hid (bErr_end HM.out hb.out)
        go_wp2
        go_ret
        exact ⟨ret_int HR.out.symm, rfl⟩
end Go.Proofs.Ytdlbljheobkfaaa

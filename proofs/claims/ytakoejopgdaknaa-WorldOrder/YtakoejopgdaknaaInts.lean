/- A slice value that reads as a list of ints; the contracts of mask.Of, of the reference's MaskOf, Has and power, and of the closed facts 'masked'. -/
import Derived.Test.YtakoejopgdaknaaBase
import Derived.Test.YtakoejopgdaknaaPlain
namespace Go.Proofs.Ytakoejopgdaknaa
set_option maxRecDepth 8000
open Go.RowKit

/-- In world w the value v is a slice whose elements are zs (nil for an empty list, or not). -/
def Ints (w : World) (v : Value) (zs : List Int) : Prop :=
  ∃ a cap, v = .slice a zs.length cap ∧ zs.length ≤ cap ∧ cap ≤ maxLen ∧ ∀ k, k < zs.length → ∃ b off, a = some ⟨b, off, none⟩ ∧ b < w.heap.size ∧ w.cell? ⟨b, off + k, none⟩ = some (.int .i64 (zs.getD k 0))

/-- Either it is empty, or it has an address and cells. -/
theorem Ints.open {w : World} {v : Value} {zs : List Int} (h : Ints w v zs) :
    zs.length ≤ maxLen ∧ ((∃ a cap, v = .slice a zs.length cap ∧ zs.length ≤ 0) ∨ ∃ b off cap, v = .slice (some ⟨b, off, none⟩) zs.length cap ∧ b < w.heap.size ∧ zs.length ≤ cap ∧ cap ≤ maxLen ∧ ∀ k, k < zs.length → w.cell? ⟨b, off + k, none⟩ = some (.int .i64 (zs.getD k 0))) := by
  obtain ⟨a, cap, rfl, hl, hm, h⟩ := h
  refine ⟨Nat.le_trans hl hm, ?_⟩
  by_cases e : zs.length = 0
  · exact .inl ⟨a, cap, rfl, by omega⟩
  · obtain ⟨b, off, rfl, hb, _⟩ := h 0 (by omega)
    refine .inr ⟨b, off, cap, rfl, hb, hl, hm, fun k hk => ?_⟩
    obtain ⟨b', off', e, _, h⟩ := h k hk
    simp only [Option.some.injEq, Addr.mk.injEq] at e
    obtain ⟨rfl, rfl, _⟩ := e
    exact h

/-- It reads so in every later world. -/
theorem Ints.later {w w' : World} {v : Value} {zs : List Int} (h : Ints w v zs) (hb : Below w.heap.size w w') : Ints w' v zs := by
  obtain ⟨a, cap, rfl, hl, hm, h⟩ := h
  refine ⟨a, cap, rfl, hl, hm, fun k hk => ?_⟩
  obtain ⟨b, off, e, hlt, hc⟩ := h k hk
  exact ⟨b, off, e, Nat.lt_of_lt_of_le hlt hb.size, by rw [hb.cell (p := ⟨b, off + k, none⟩) hlt]; exact hc⟩

/-- Its first j elements. -/
theorem Ints.cut {w : World} {zs : List Int} {b off cap j : Nat} (hb : b < w.heap.size) (hl : zs.length ≤ cap) (hm : cap ≤ maxLen) (h : ∀ k, k < zs.length → w.cell? ⟨b, off + k, none⟩ = some (.int .i64 (zs.getD k 0))) (hj : j ≤ zs.length) :
    Ints w (.slice (some ⟨b, off, none⟩) j cap) (zs.take j) := by
  have e : (zs.take j).length = j := by simp; omega
  refine ⟨some ⟨b, off, none⟩, cap, by rw [e], by omega, hm, fun k hk => ⟨b, off, rfl, hb, ?_⟩⟩
  rw [getD_take (by omega)]
  exact h k (by omega)

set_option maxHeartbeats 400000 in
theorem power_any (z : Int) (w : World) (h0 : 0 ≤ z) (h7 : z ≤ 7) :
    Calls Try.prog 53 #[.int .i64 z] w fun e w' => e = .returned (.int .i64 (2 ^ z.toNat)) ∧ w = w' := by
  obtain ⟨n, rfl⟩ := Int.eq_ofNat_of_zero_le h0
  rw [Int.toNat_natCast]
  go_enter Try.func53, Try.ntmps53
  go_wp2
  go_loop [3, 5] (fun p i => ∃ k : Nat, k ≤ n ∧ i = .int .i64 k ∧ p = .int .i64 (2 ^ k)) (fun _ i => n - (intOf i).toNat)
  case atStart => exact ⟨0, by omega, rfl, rfl⟩
  case round =>
    obtain ⟨k, hk, rfl, rfl⟩ := hrel
    obtain ⟨p1, p2⟩ := pow_le7 k (by omega)
    have HP : Hid ((2 : Int) ^ (k + 1) = 2 ^ k * 2) := Lib.hid (Int.pow_succ _ _)
    by_cases hlt : k < n
    · generalize (2 : Int) ^ k = q at *
      go_wp2
      go_round
      case rel => exact ⟨k + 1, by omega, by go_num, by rw [HP.out]⟩
      case measure => simp [intOf]; omega
    · obtain rfl : k = n := by omega
      go_wp2
      go_ret
      exact ⟨rfl, rfl⟩

theorem inB_isK (z : Int) : inB z 0 7 = isK z := rfl
theorem ret_pair {p : Int × Int} {a b : Int} (h : p = (a, b)) : Ending.returned (.tuple #[.int .i64 a, .int .i64 b]) = .returned (.tuple #[.int .i64 p.1, .int .i64 p.2]) := by rw [h]

set_option maxHeartbeats 1000000 in
theorem of_any (v : Value) (zs : List Int) (w : World) (h : Ints w v zs) :
    Calls Try.prog 74 #[v] w fun e w' => e = .returned (.tuple #[.int .i64 (ofR zs).1, .int .i64 (ofR zs).2]) ∧ w = w' := by
  obtain ⟨hm, h⟩ := h.open
  unfold maxLen at hm
  generalize hn : zs.length = n at *
  have HN := Lib.hid hn
  clear hn
  rcases h with ⟨a, cap, rfl, hz⟩ | ⟨b, off, cap, rfl, hb, hlc, hcm, hc⟩
  all_goals
    go_enter Try.func74, Try.ntmps74
    go_wp2
    go_loop [11] (fun i => ∃ k : Nat, k ≤ n ∧ i = .int .i64 k ∧ Hid (∀ j, j < k → isK (zs.getD j 0) = true)) (fun i => n - (intOf i).toNat)
    case atStart => exact ⟨0, by omega, rfl, fun j hj => by omega⟩
    case round =>
      obtain ⟨k, hk, rfl, hno⟩ := hrel
      by_cases hlt : k < n
      · first
          | omega
          | (have hck := hc k hlt
             clear hc
             have HG : Hid (isK (zs.getD k 0) = false → ofR zs = (0, 1)) := Lib.hid (fun h => ofR_arg (by rw [HN.out]; exact hlt) h)
             generalize hg : zs.getD k 0 = y at *
             have HY := Lib.hid hg
             clear hg
             cases hy : inB y 0 7
             all_goals
               have HK : Hid (isK y = _) := Lib.hid (inB_isK y ▸ hy)
               go_wp2_with (first | (go_at_call 98; refine (isKind_any _ _).mono ?_; rintro e w' ⟨rfl, rfl⟩))
             · go_ret2
               exact ⟨ret_pair (HG.out HK.out), rfl⟩
             · go_round
               case rel => exact ⟨k + 1, by omega, by go_num, fun j hj => if e : j = k then by rw [e, HY.out]; exact HK.out else hno.out j (by omega)⟩
               case measure => simp [intOf]; omega)
      · obtain rfl : k = n := by omega
        have HA : Hid (zs.all isK = true) := Lib.hid (all_of (by rw [HN.out]; exact hno.out))
        clear hno
        go_wp2
        go_loop [6, 21] (fun m i => ∃ j : Nat, j ≤ k ∧ i = .int .i64 j ∧ m = .int .i64 (setOf (zs.take j)) ∧ Hid ((zs.take j).Nodup)) (fun _ i => k - (intOf i).toNat)
        case atStart => exact ⟨0, by omega, rfl, rfl, by simp [Hid]⟩
        case round =>
          obtain ⟨j, hj, rfl, rfl, hnd⟩ := hrel
          by_cases hjk : j < k
          · first
              | omega
              | (have hck := hc j hjk
                 clear hc
                 have HAT := Lib.hid (all_take HA.out j)
                 have hyk := isK_iff.1 (List.all_eq_true.1 HA.out _ (getD_mem (show j < zs.length by rw [HN.out]; exact hjk)))
                 have HT := Lib.hid (take_snoc (show j < zs.length by rw [HN.out]; exact hjk))
                 have HTW : Hid (zs.getD j 0 ∈ zs.take j → ofR zs = (0, 6)) := Lib.hid (fun h => ofR_twice HA.out (by rw [HN.out]; exact hjk) h)
                 generalize hg : zs.getD j 0 = y at *
                 clear hg
                 obtain ⟨y0, y7⟩ := hyk
                 have HB := Lib.hid (tb_setOf HAT.out y0 y7)
                 have hw2 := wrap_small y.toNat (by omega)
                 have HSN := Lib.hid (setOf_snoc (zs.take j) y)
                 generalize hs : setOf (zs.take j) = s at *
                 clear hs
                 cases hb2 : tb s y.toNat
                 all_goals
                   go_wp2_with (first | (go_at_call 76; refine (has_any _ _ _ (by omega) (by omega)).mono ?_; rintro e w' ⟨rfl, rfl⟩))
                 · go_round
                   case rel => exact ⟨j + 1, by omega, by go_num, by rw [HT.out, HSN.out], by rw [HT.out]; exact nodup_snoc hnd.out (fun hc => by rw [HB.out, decide_eq_true hc] at hb2; cases hb2)⟩
                   case measure => simp [intOf]; omega
                 · go_ret2
                   exact ⟨ret_pair (HTW.out (of_decide_eq_true (by rw [← HB.out]; exact hb2))), rfl⟩)
          · obtain rfl : j = k := by omega
            have HL : Hid (zs.take j = zs) := Lib.hid (List.take_of_length_le (by rw [HN.out]; exact Nat.le_refl _))
            rw [HL.out] at hnd
            rw [HL.out]
            have HR := Lib.hid (ofR_ok HA.out hnd.out)
            go_wp2
            go_ret2
            exact ⟨ret_pair HR.out, rfl⟩

theorem add_I64 {l : List Int} {z : Int} (h : ∀ x ∈ l, 0 ≤ x ∧ x ≤ 7) (h0 : 0 ≤ z) (h7 : z ≤ 7) : 0 ≤ setOf l ∧ setOf l ≤ 255 ∧ 1 ≤ (2 : Int) ^ z.toNat ∧ (2 : Int) ^ z.toNat ≤ 128 :=
  ⟨(setOf_facts l h).1, (setOf_facts l h).2.1, (pow_le7 z.toNat (by omega)).2, (pow_le7 z.toNat (by omega)).1⟩

/-- A slice literal of two ints, newly made. -/
theorem Ints.two (w : World) (x y : Int) (t : TypeId) : Ints (w.alloc (.cells #[.int .i64 x, .int .i64 y] t)) (.slice (some ⟨w.heap.size, 0, none⟩) 2 2) [x, y] := by
  refine ⟨_, 2, rfl, by simp, by simp [maxLen], fun k hk => ⟨_, _, rfl, by simp, ?_⟩⟩
  simp at hk
  match k, hk with
  | 0, _ => simp
  | 1, _ => simp

end Go.Proofs.Ytakoejopgdaknaa

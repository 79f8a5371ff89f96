/- A slice value that reads as a list of ints; the contracts of mask.Of, of the reference's MaskOf, Has and power, and of the closed facts 'masked'. -/
import Derived.Test.YtdlbljheobkfaaaBase
import Derived.Test.YtdlbljheobkfaaaPlain
namespace Go.Proofs.Ytdlbljheobkfaaa
open Go.RowKit

/-- In world w the value v is a slice whose elements are zs (nil for an empty list, or not). -/
def Ints (w : World) (v : Value) (zs : List Int) : Prop :=
  ∃ a cap, v = .slice a zs.length cap ∧ zs.length ≤ cap ∧ cap ≤ maxLen ∧ ∀ k, k < zs.length → ∃ b off, a = some ⟨b, off, none⟩ ∧ b < w.heap.size ∧ w.cell? ⟨b, off + k, none⟩ = some (.int .i64 (zs.getD k 0))

/-- Either it is empty, or it has an address and cells. -/
theorem Ints.open {w : World} {v : Value} {zs : List Int} (h : Ints w v zs) :
    zs.length ≤ maxLen ∧ ((∃ a cap, v = .slice a zs.length cap ∧ zs.length ≤ 0) ∨ ∃ b off cap, v = .slice (some ⟨b, off, none⟩) zs.length cap ∧ b < w.heap.size ∧ zs.length ≤ cap ∧ cap ≤ maxLen ∧ ∀ k, k < zs.length → w.cell? ⟨b, off + k, none⟩ = some (.int .i64 (zs.getD k 0))) := by
  obtain ⟨a, cap, rfl, hl, hm, h⟩ := h
  refine ⟨Nat.le_trans hl hm, ?_⟩
  by_cases e : zs.length = 0
  · exact .inl ⟨a, cap, rfl, by omega⟩
  · obtain ⟨b, off, rfl, hb, _⟩ := h 0 (by omega)
    refine .inr ⟨b, off, cap, rfl, hb, hl, hm, fun k hk => ?_⟩
    obtain ⟨b', off', e, _, h⟩ := h k hk
    simp only [Option.some.injEq, Addr.mk.injEq] at e
    obtain ⟨rfl, rfl, _⟩ := e
    exact h

/-- It reads so in every later world. -/
theorem Ints.later {w w' : World} {v : Value} {zs : List Int} (h : Ints w v zs) (hb : Below w.heap.size w w') : Ints w' v zs := by
  obtain ⟨a, cap, rfl, hl, hm, h⟩ := h
  refine ⟨a, cap, rfl, hl, hm, fun k hk => ?_⟩
  obtain ⟨b, off, e, hlt, hc⟩ := h k hk
  exact ⟨b, off, e, Nat.lt_of_lt_of_le hlt hb.size, by rw [hb.cell (p := ⟨b, off + k, none⟩) hlt]; exact hc⟩

/-- Its first j elements. -/
theorem Ints.cut {w : World} {zs : List Int} {b off cap j : Nat} (hb : b < w.heap.size) (hl : zs.length ≤ cap) (hm : cap ≤ maxLen) (h : ∀ k, k < zs.length → w.cell? ⟨b, off + k, none⟩ = some (.int .i64 (zs.getD k 0))) (hj : j ≤ zs.length) :
    Ints w (.slice (some ⟨b, off, none⟩) j cap) (zs.take j) := by
  have e : (zs.take j).length = j := by simp; omega
  refine ⟨some ⟨b, off, none⟩, cap, by rw [e], by omega, hm, fun k hk => ⟨b, off, rfl, hb, ?_⟩⟩
  rw [getD_take (by omega)]
  exact h k (by omega)

set_option maxHeartbeats 400000 in
theorem power_any (z : Int) (w : World) (h0 : 0 ≤ z) (h7 : z ≤ 7) :
    Calls Try.prog 39 #[.int .i64 z] w fun e w' => e = .returned (.int .i64 (2 ^ z.toNat)) ∧ w = w' := by
  obtain ⟨n, rfl⟩ := Int.eq_ofNat_of_zero_le h0
  rw [Int.toNat_natCast]
  go_enter Try.func39, Try.ntmps39
  go_wp2
  go_loop [3, 5] (fun p i => ∃ k : Nat, k ≤ n ∧ i = .int .i64 k ∧ p = .int .i64 (2 ^ k)) (fun _ i => n - (intOf i).toNat)
  case atStart => exact ⟨0, by omega, rfl, rfl⟩
  case round =>
    obtain ⟨k, hk, rfl, rfl⟩ := hrel
    obtain ⟨p1, p2⟩ := pow_le7 k (by omega)
    have HP : Hid ((2 : Int) ^ (k + 1) = 2 ^ k * 2) := Lib.hid (Int.pow_succ _ _)
    by_cases hlt : k < n
    · generalize (2 : Int) ^ k = q at *
      go_wp2
      go_round
      case rel => exact ⟨k + 1, by omega, by go_num, by rw [HP.out]⟩
      case measure => simp [intOf]; omega
    · obtain rfl : k = n := by omega
      go_wp2
      go_ret
      exact ⟨rfl, rfl⟩

theorem inB_isK (z : Int) : inB z 0 7 = isK z := rfl
theorem ret_pair {p : Int × Int} {a b : Int} (h : p = (a, b)) : Ending.returned (.tuple #[.int .i64 a, .int .i64 b]) = .returned (.tuple #[.int .i64 p.1, .int .i64 p.2]) := by rw [h]

theorem add_I64 {l : List Int} {z : Int} (h : ∀ x ∈ l, 0 ≤ x ∧ x ≤ 7) (h0 : 0 ≤ z) (h7 : z ≤ 7) : 0 ≤ setOf l ∧ setOf l ≤ 255 ∧ 1 ≤ (2 : Int) ^ z.toNat ∧ (2 : Int) ^ z.toNat ≤ 128 :=
  ⟨(setOf_facts l h).1, (setOf_facts l h).2.1, (pow_le7 z.toNat (by omega)).2, (pow_le7 z.toNat (by omega)).1⟩

/-- A slice literal of two ints, newly made. -/
theorem Ints.two (w : World) (x y : Int) (t : TypeId) : Ints (w.alloc (.cells #[.int .i64 x, .int .i64 y] t)) (.slice (some ⟨w.heap.size, 0, none⟩) 2 2) [x, y] := by
  refine ⟨_, 2, rfl, by simp, by simp [maxLen], fun k hk => ⟨_, _, rfl, by simp, ?_⟩⟩
  simp at hk
  match k, hk with
  | 0, _ => simp
  | 1, _ => simp

end Go.Proofs.Ytdlbljheobkfaaa

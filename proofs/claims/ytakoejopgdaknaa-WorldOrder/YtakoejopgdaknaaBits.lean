/- Plain facts on the bits of a 64-bit integer: bit k of m is m / 2^k modulo 2; two integers of 64 bits with the same bits are equal; 'and' and 'or' bit by bit. No Go in sight. -/
import Derived.WalkKit
namespace Go.Proofs.Ytakoejopgdaknaa

/-- bit k of m, in two's complement -/
def tb (m : Int) (k : Nat) : Bool := m / 2 ^ k % 2 == 1

/-- m fits Go's int -/
def I64 (m : Int) : Prop := -9223372036854775808 ≤ m ∧ m ≤ 9223372036854775807

theorem div_emod_bits (m : Int) (k : Nat) (h : k < 64) : m % 18446744073709551616 / 2 ^ k % 2 = m / 2 ^ k % 2 := by
  have e : (18446744073709551616 : Int) = 2 ^ (63 - k) * 2 * 2 ^ k := by
    rw [show (2 : Int) ^ (63 - k) * 2 * 2 ^ k = 2 ^ (63 - k) * 2 ^ k * 2 from by ac_rfl, ← Int.pow_add, show 63 - k + k = 63 from by omega]; rfl
  have hp : (2 : Int) ^ k ≠ 0 := Int.pow_ne_zero (by decide)
  have d : m / 2 ^ k = (m % 18446744073709551616) / 2 ^ k + (m / 18446744073709551616) * (2 ^ (63 - k) * 2) := by
    have hm : m = m % 18446744073709551616 + (m / 18446744073709551616 * (2 ^ (63 - k) * 2)) * 2 ^ k := by
      rw [Int.mul_assoc, ← e]; omega
    generalize m % 18446744073709551616 = r at *
    generalize m / 18446744073709551616 = q at *
    rw [hm, Int.add_mul_ediv_right _ _ hp]
  rw [d, show (m / 18446744073709551616) * (2 ^ (63 - k) * 2) = ((m / 18446744073709551616) * 2 ^ (63 - k)) * 2 from by ac_rfl, Int.add_mul_emod_self_right]

theorem bv_tb (m : Int) (k : Nat) (h : k < 64) : (BitVec.ofInt 64 m).getLsbD k = tb m k := by
  rw [BitVec.getLsbD, BitVec.toNat_ofInt, Nat.testBit_eq_decide_div_mod_eq, tb, ← div_emod_bits m k h]
  have h0 : (0 : Int) ≤ m % 18446744073709551616 := Int.emod_nonneg _ (by decide)
  have e2 : ((2 ^ 64 : Nat) : Int) = 18446744073709551616 := by rfl
  rw [e2]
  obtain ⟨n, hn⟩ := Int.eq_ofNat_of_zero_le h0
  rw [hn, Int.toNat_natCast]
  rw [Bool.eq_iff_iff]; simp only [decide_eq_true_eq, beq_iff_eq]
  have : ((n : Int) / 2 ^ k % 2) = ((n / 2 ^ k % 2 : Nat) : Int) := by simp
  rw [this]; omega

theorem wrap_i64_toNat (b : BitVec 64) : IntKind.i64.wrap (b.toNat : Int) = b.toInt := by
  have hb := b.isLt
  rw [IntKind.wrap_i64, BitVec.toInt_eq_toNat_cond]
  split <;> omega

theorem ofInt_inj {a b : Int} (ha : I64 a) (hb : I64 b) (h : BitVec.ofInt 64 a = BitVec.ofInt 64 b) : a = b := by
  have := congrArg BitVec.toInt h
  obtain ⟨a0, a1⟩ := ha
  obtain ⟨b0, b1⟩ := hb
  rw [BitVec.toInt_ofInt, BitVec.toInt_ofInt, Int.bmod_eq_of_le (by omega) (by omega), Int.bmod_eq_of_le (by omega) (by omega)] at this
  exact this

theorem i64_ext {a b : Int} (ha : I64 a) (hb : I64 b) (h : ∀ k, k < 64 → tb a k = tb b k) : a = b :=
  ofInt_inj ha hb (BitVec.eq_of_getLsbD_eq fun k hk => by rw [bv_tb a k hk, bv_tb b k hk, h k hk])

theorem toInt_i64 (b : BitVec 64) : I64 b.toInt := by
  have h1 := BitVec.le_toInt b
  have h2 := BitVec.toInt_lt (x := b)
  constructor <;> omega

theorem bits_i64_and (a b : Int) : bits .and .i64 a b = (BitVec.ofInt 64 a &&& BitVec.ofInt 64 b).toInt := wrap_i64_toNat _
theorem bits_i64_or (a b : Int) : bits .or .i64 a b = (BitVec.ofInt 64 a ||| BitVec.ofInt 64 b).toInt := wrap_i64_toNat _

theorem and_I64 (a b : Int) : I64 (bits .and .i64 a b) := by rw [bits_i64_and]; exact toInt_i64 _
theorem or_I64 (a b : Int) : I64 (bits .or .i64 a b) := by rw [bits_i64_or]; exact toInt_i64 _

theorem tb_and (a b : Int) (k : Nat) (h : k < 64) : tb (bits .and .i64 a b) k = (tb a k && tb b k) := by
  rw [← bv_tb _ k h, bits_i64_and, BitVec.ofInt_toInt, BitVec.getLsbD_and, bv_tb a k h, bv_tb b k h]
theorem tb_or (a b : Int) (k : Nat) (h : k < 64) : tb (bits .or .i64 a b) k = (tb a k || tb b k) := by
  rw [← bv_tb _ k h, bits_i64_or, BitVec.ofInt_toInt, BitVec.getLsbD_or, bv_tb a k h, bv_tb b k h]

theorem pow_pos2 (k : Nat) : (0 : Int) < 2 ^ k := Int.pow_pos (by decide)
theorem pow_lt64 (k : Nat) (h : k < 64) : (2 : Int) ^ k < 18446744073709551616 := by
  have : (2 : Nat) ^ k < 2 ^ 64 := Nat.pow_lt_pow_right (by decide) h
  have e : ((2 ^ k : Nat) : Int) = (2 : Int) ^ k := by simp
  omega

theorem tb_rest2 (x : Int) (k : Nat) : tb (x % 2) k = (decide (k = 0) && tb x 0) := by
  unfold tb
  cases k with
  | zero => simp
  | succ n =>
    have h1 : (2 : Int) ≤ 2 ^ (n + 1) := by have := pow_pos2 n; rw [Int.pow_succ]; omega
    rw [Int.ediv_eq_zero_of_lt (by omega) (by omega)]; simp

theorem tb_one (k : Nat) : tb 1 k = decide (k = 0) := by
  have := tb_rest2 1 k
  simpa [tb] using this

theorem and_one (x : Int) : bits .and .i64 x 1 = x % 2 := by
  refine i64_ext (and_I64 _ _) ⟨by omega, by omega⟩ fun k hk => ?_
  rw [tb_and _ _ k hk, tb_rest2, tb_one]
  by_cases h : k = 0 <;> simp [h]

theorem wrap_u64_pow (k : Nat) (h : k < 64) : IntKind.u64.wrap (2 ^ k) = 2 ^ k := by
  have h1 := pow_lt64 k h
  have h0 := pow_pos2 k
  rw [IntKind.wrap_u64]
  exact Int.emod_eq_of_lt (by omega) h1

theorem bit_eq (m : Int) (k : Nat) (h : k < 64) : ((IntKind.u64.wrap ((IntKind.u64.wrap m).tdiv (IntKind.u64.wrap (2 ^ k)))).tmod 2 == 1) = tb m k := by
  have h0 := pow_pos2 k
  rw [wrap_u64_pow k h, IntKind.wrap_u64, IntKind.wrap_u64]
  have hm : 0 ≤ m % 18446744073709551616 := Int.emod_nonneg _ (by decide)
  have hm' : m % 18446744073709551616 < 18446744073709551616 := Int.emod_lt_of_pos _ (by decide)
  rw [Int.tdiv_eq_ediv_of_nonneg hm]
  have hd : 0 ≤ m % 18446744073709551616 / 2 ^ k := Int.ediv_nonneg hm (by omega)
  have hd' : m % 18446744073709551616 / 2 ^ k < 18446744073709551616 := by
    have := Int.ediv_le_self (2 ^ k) hm
    omega
  rw [Int.emod_eq_of_lt hd hd', Int.tmod_eq_emod_of_nonneg hd, div_emod_bits m k h]
  rfl

theorem tb_zero (k : Nat) : tb 0 k = false := by simp [tb]

end Go.Proofs.Ytakoejopgdaknaa

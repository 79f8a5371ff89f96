/- Contracts and plain facts, several texts in one. -/
import Derived.WalkKit
import Derived.Test.YtnmlapoiilckhaaDoorRows
import Derived.WalkSpells
import Derived.WalkLawsBesides
import Derived.Lib.Hide
import Derived.Deep.RegionWith
import Derived.Deep.RegionHeld3
import Derived.ProofKit
import Derived.OpenShut
import Derived.ShutString
import Derived.ChangeOld
import Derived.Below
import Derived.Lib.SmallJoins
import Derived.Deep.AppendLies
import Derived.BigQuiet
import Derived.Deep.QuietTactic
import Derived.Deep.Slices
import Derived.SizedLaws
import Derived.Maps.Range
import Derived.Maps.RangeWalk
import Derived.DeepKeys4
import Derived.Maps.OwnSet
/- Plain facts on the bits of a 64-bit integer: bit k of m is m / 2^k modulo 2; two integers of 64 bits with the same bits are equal; 'and' and 'or' bit by bit. No Go in sight. -/
namespace Go.Proofs.YtnmlapoiilckhaaDoor

/-- bit k of m, in two's complement -/
def tb (m : Int) (k : Nat) : Bool := m / 2 ^ k % 2 == 1

/-- m fits Go's int -/
def I64 (m : Int) : Prop := -9223372036854775808 ≤ m ∧ m ≤ 9223372036854775807

theorem div_emod_bits (m : Int) (k : Nat) (h : k < 64) : m % 18446744073709551616 / 2 ^ k % 2 = m / 2 ^ k % 2 := by
  have e : (18446744073709551616 : Int) = 2 ^ (63 - k) * 2 * 2 ^ k := by
    rw [show (2 : Int) ^ (63 - k) * 2 * 2 ^ k = 2 ^ (63 - k) * 2 ^ k * 2 from by ac_rfl, ← Int.pow_add, show 63 - k + k = 63 from by omega]; rfl
  have hp : (2 : Int) ^ k ≠ 0 := Int.pow_ne_zero (by decide)
  have d : m / 2 ^ k = (m % 18446744073709551616) / 2 ^ k + (m / 18446744073709551616) * (2 ^ (63 - k) * 2) := by
    have hm : m = m % 18446744073709551616 + (m / 18446744073709551616 * (2 ^ (63 - k) * 2)) * 2 ^ k := by
      rw [Int.mul_assoc, ← e]; omega
    generalize m % 18446744073709551616 = r at *
    generalize m / 18446744073709551616 = q at *
    rw [hm, Int.add_mul_ediv_right _ _ hp]
  rw [d, show (m / 18446744073709551616) * (2 ^ (63 - k) * 2) = ((m / 18446744073709551616) * 2 ^ (63 - k)) * 2 from by ac_rfl, Int.add_mul_emod_self_right]

theorem bv_tb (m : Int) (k : Nat) (h : k < 64) : (BitVec.ofInt 64 m).getLsbD k = tb m k := by
  rw [BitVec.getLsbD, BitVec.toNat_ofInt, Nat.testBit_eq_decide_div_mod_eq, tb, ← div_emod_bits m k h]
  have h0 : (0 : Int) ≤ m % 18446744073709551616 := Int.emod_nonneg _ (by decide)
  have e2 : ((2 ^ 64 : Nat) : Int) = 18446744073709551616 := by rfl
  rw [e2]
  obtain ⟨n, hn⟩ := Int.eq_ofNat_of_zero_le h0
  rw [hn, Int.toNat_natCast]
  rw [Bool.eq_iff_iff]; simp only [decide_eq_true_eq, beq_iff_eq]
  have : ((n : Int) / 2 ^ k % 2) = ((n / 2 ^ k % 2 : Nat) : Int) := by simp
  rw [this]; omega

theorem wrap_i64_toNat (b : BitVec 64) : IntKind.i64.wrap (b.toNat : Int) = b.toInt := by
  have hb := b.isLt
  rw [IntKind.wrap_i64, BitVec.toInt_eq_toNat_cond]
  split <;> omega

theorem ofInt_inj {a b : Int} (ha : I64 a) (hb : I64 b) (h : BitVec.ofInt 64 a = BitVec.ofInt 64 b) : a = b := by
  have := congrArg BitVec.toInt h
  obtain ⟨a0, a1⟩ := ha
  obtain ⟨b0, b1⟩ := hb
  rw [BitVec.toInt_ofInt, BitVec.toInt_ofInt, Int.bmod_eq_of_le (by omega) (by omega), Int.bmod_eq_of_le (by omega) (by omega)] at this
  exact this

theorem i64_ext {a b : Int} (ha : I64 a) (hb : I64 b) (h : ∀ k, k < 64 → tb a k = tb b k) : a = b :=
  ofInt_inj ha hb (BitVec.eq_of_getLsbD_eq fun k hk => by rw [bv_tb a k hk, bv_tb b k hk, h k hk])

theorem toInt_i64 (b : BitVec 64) : I64 b.toInt := by
  have h1 := BitVec.le_toInt b
  have h2 := BitVec.toInt_lt (x := b)
  constructor <;> omega

theorem bits_i64_and (a b : Int) : bits .and .i64 a b = (BitVec.ofInt 64 a &&& BitVec.ofInt 64 b).toInt := wrap_i64_toNat _
theorem bits_i64_or (a b : Int) : bits .or .i64 a b = (BitVec.ofInt 64 a ||| BitVec.ofInt 64 b).toInt := wrap_i64_toNat _

theorem and_I64 (a b : Int) : I64 (bits .and .i64 a b) := by rw [bits_i64_and]; exact toInt_i64 _
theorem or_I64 (a b : Int) : I64 (bits .or .i64 a b) := by rw [bits_i64_or]; exact toInt_i64 _

theorem tb_and (a b : Int) (k : Nat) (h : k < 64) : tb (bits .and .i64 a b) k = (tb a k && tb b k) := by
  rw [← bv_tb _ k h, bits_i64_and, BitVec.ofInt_toInt, BitVec.getLsbD_and, bv_tb a k h, bv_tb b k h]
theorem tb_or (a b : Int) (k : Nat) (h : k < 64) : tb (bits .or .i64 a b) k = (tb a k || tb b k) := by
  rw [← bv_tb _ k h, bits_i64_or, BitVec.ofInt_toInt, BitVec.getLsbD_or, bv_tb a k h, bv_tb b k h]

theorem pow_pos2 (k : Nat) : (0 : Int) < 2 ^ k := Int.pow_pos (by decide)
theorem pow_lt64 (k : Nat) (h : k < 64) : (2 : Int) ^ k < 18446744073709551616 := by
  have : (2 : Nat) ^ k < 2 ^ 64 := Nat.pow_lt_pow_right (by decide) h
  have e : ((2 ^ k : Nat) : Int) = (2 : Int) ^ k := by simp
  omega

theorem tb_rest2 (x : Int) (k : Nat) : tb (x % 2) k = (decide (k = 0) && tb x 0) := by
  unfold tb
  cases k with
  | zero => simp
  | succ n =>
    have h1 : (2 : Int) ≤ 2 ^ (n + 1) := by have := pow_pos2 n; rw [Int.pow_succ]; omega
    rw [Int.ediv_eq_zero_of_lt (by omega) (by omega)]; simp

theorem tb_one (k : Nat) : tb 1 k = decide (k = 0) := by
  have := tb_rest2 1 k
  simpa [tb] using this

theorem and_one (x : Int) : bits .and .i64 x 1 = x % 2 := by
  refine i64_ext (and_I64 _ _) ⟨by omega, by omega⟩ fun k hk => ?_
  rw [tb_and _ _ k hk, tb_rest2, tb_one]
  by_cases h : k = 0 <;> simp [h]

theorem wrap_u64_pow (k : Nat) (h : k < 64) : IntKind.u64.wrap (2 ^ k) = 2 ^ k := by
  have h1 := pow_lt64 k h
  have h0 := pow_pos2 k
  rw [IntKind.wrap_u64]
  exact Int.emod_eq_of_lt (by omega) h1

theorem bit_eq (m : Int) (k : Nat) (h : k < 64) : ((IntKind.u64.wrap ((IntKind.u64.wrap m).tdiv (IntKind.u64.wrap (2 ^ k)))).tmod 2 == 1) = tb m k := by
  have h0 := pow_pos2 k
  rw [wrap_u64_pow k h, IntKind.wrap_u64, IntKind.wrap_u64]
  have hm : 0 ≤ m % 18446744073709551616 := Int.emod_nonneg _ (by decide)
  have hm' : m % 18446744073709551616 < 18446744073709551616 := Int.emod_lt_of_pos _ (by decide)
  rw [Int.tdiv_eq_ediv_of_nonneg hm]
  have hd : 0 ≤ m % 18446744073709551616 / 2 ^ k := Int.ediv_nonneg hm (by omega)
  have hd' : m % 18446744073709551616 / 2 ^ k < 18446744073709551616 := by
    have := Int.ediv_le_self (2 ^ k) hm
    omega
  rw [Int.emod_eq_of_lt hd hd', Int.tmod_eq_emod_of_nonneg hd, div_emod_bits m k h]
  rfl

theorem tb_zero (k : Nat) : tb 0 k = false := by simp [tb]

end Go.Proofs.YtnmlapoiilckhaaDoor

/- The contracts of the small functions of package mask and of its reference that the laws of stage 1 call: each returns what a plain Lean function gives, and leaves the world as it was but for new blocks. -/
namespace Go.Proofs.YtnmlapoiilckhaaDoor
set_option maxRecDepth 8000
open Go.RowKit

theorem nb_alloc {w x : World} (h : Below w.heap.size w x) (o : Obj) : Below w.heap.size w (x.alloc o) := h.alloc h.size o
theorem nb_trans {w x y : World} (h : Below w.heap.size w x) (k : Below x.heap.size x y) : Below w.heap.size w y := h.trans (k.mono h.size)

theorem ret_bool {a b : Bool} (h : a = b) : Ending.returned (.bool a) = .returned (.bool b) := by rw [h]
theorem ret_int {k : IntKind} {a b : Int} (h : a = b) : Ending.returned (.int k a) = .returned (.int k b) := by rw [h]

def inB (n lo hi : Int) : Bool := decide (lo ≤ n) && decide (n ≤ hi)
theorem inB_t {n lo hi : Int} (h : inB n lo hi = true) : lo ≤ n ∧ n ≤ hi := by simpa [inB] using h
theorem inB_f {n lo hi : Int} (h : inB n lo hi = false) : n < lo ∨ hi < n := by
  simp [inB] at h; omega

set_option maxHeartbeats 400000 in
theorem isSet_any (m : Int) (w : World) :
    Calls Tryd.prog 46 #[.int .i64 m] w fun e w' => e = .returned (.bool (inB m 0 255)) ∧ w = w' := by
  go_enter Tryd.func46, Tryd.ntmps46
  go_wp2
  all_goals (go_ret; refine ⟨ret_bool (Bool.eq_iff_iff.2 ?_), rfl⟩; simp [inB]; try omega)

set_option maxHeartbeats 400000 in
theorem outside_any (n lo hi : Int) (w : World) :
    Calls Tryd.prog 41 #[.int .i64 n, .int .i64 lo, .int .i64 hi] w fun e w' => e = .returned (.bool (!inB n lo hi)) ∧ w = w' := by
  go_enter Tryd.func41, Tryd.ntmps41
  go_wp2
  all_goals (go_ret; refine ⟨ret_bool (Bool.eq_iff_iff.2 ?_), rfl⟩; simp [inB]; try omega)

/-- the first error of a query: 0 or 1 -/
def qErr (a b c : Int) : Int := if inB a 0 255 && inB b 0 255 && inB c 0 255 then 0 else 1
theorem qErr_eq {x y z : Bool} {a b c : Int} (ha : inB a 0 255 = x) (hb : inB b 0 255 = y) (hc : inB c 0 255 = z) : qErr a b c = if x && y && z then 0 else 1 := by
  subst ha hb hc; rfl

set_option maxHeartbeats 400000 in
theorem has_any (m k : Int) (w : World) (h0 : 0 ≤ k) (h1 : k ≤ 63) :
    Calls Tryd.prog 47 #[.int .i64 m, .int .i64 k] w fun e w' => e = .returned (.bool (tb m k.toNat)) ∧ w = w' := by
  go_enter Tryd.func47, Tryd.ntmps47
  go_wp2
  go_ret
  exact ⟨ret_bool (by rw [and_one]; rfl), rfl⟩

/-- what Matches answers -/
def matchB (m a b c : Int) : Bool := (bits .and .i64 m a == a) && (bits .and .i64 m b == 0) && ((c == 0) || (bits .and .i64 m c != 0))

end Go.Proofs.YtnmlapoiilckhaaDoor

/- Plain facts on lists of component numbers and their sets: no Go in sight. -/
namespace Go.Proofs.YtnmlapoiilckhaaDoor

theorem getD_mem {zs : List Int} {k : Nat} (h : k < zs.length) : zs.getD k 0 ∈ zs := by
  rw [List.getD_eq_getElem?_getD, List.getElem?_eq_getElem h]; exact List.getElem_mem _
theorem not_mem_of {zs : List Int} {x : Int} (h : ∀ j, j < zs.length → zs.getD j 0 ≠ x) : x ∉ zs := by
  intro hx
  obtain ⟨j, hj, e⟩ := List.getElem_of_mem hx
  exact h j hj (by rw [List.getD_eq_getElem?_getD, List.getElem?_eq_getElem hj]; simpa using e)
theorem take_snoc {zs : List Int} {k : Nat} (h : k < zs.length) : zs.take (k + 1) = zs.take k ++ [zs.getD k 0] := by
  rw [List.take_succ_eq_append_getElem h, List.getD_eq_getElem?_getD, List.getElem?_eq_getElem h]; rfl
theorem getD_take {zs : List Int} {k j : Nat} (h : j < k) : (zs.take k).getD j 0 = zs.getD j 0 := by
  simp [List.getD_eq_getElem?_getD, h]

/-- is it a component? -/
def isK (z : Int) : Bool := decide (0 ≤ z) && decide (z ≤ 7)
theorem isK_iff {z : Int} : isK z = true ↔ 0 ≤ z ∧ z ≤ 7 := by simp [isK]

/-- the set of a list of components -/
def setOf (l : List Int) : Int := l.foldl (fun m z => bits .or .i64 m (2 ^ z.toNat)) 0
theorem setOf_snoc (l : List Int) (z : Int) : setOf (l ++ [z]) = bits .or .i64 (setOf l) (2 ^ z.toNat) := by simp [setOf]

/-- what Of returns: the set and the error's number -/
def ofR (l : List Int) : Int × Int := if l.all isK then (if l.Nodup then (setOf l, 0) else (0, 6)) else (0, 1)

theorem tb_pow (z j : Nat) (hz : z < 8) (hj : j < 64) : tb (2 ^ z) j = decide (j = z) := by
  have : ∀ z : Fin 8, ∀ j : Fin 64, tb (2 ^ z.val) j.val = decide (j.val = z.val) := by decide +kernel
  exact this ⟨z, hz⟩ ⟨j, hj⟩

theorem or_small (m : Int) (z : Nat) (h0 : 0 ≤ m) (h1 : m ≤ 255) (hz : z < 8) :
    0 ≤ bits .or .i64 m (2 ^ z) ∧ bits .or .i64 m (2 ^ z) ≤ 255 ∧ (tb m z = false → bits .or .i64 m (2 ^ z) = m + 2 ^ z) := by
  have : ∀ m : Fin 256, ∀ z : Fin 8, 0 ≤ bits .or .i64 (m.val : Int) (2 ^ z.val) ∧ bits .or .i64 (m.val : Int) (2 ^ z.val) ≤ 255 ∧ (tb (m.val : Int) z.val = false → bits .or .i64 (m.val : Int) (2 ^ z.val) = (m.val : Int) + 2 ^ z.val) := by decide +kernel
  obtain ⟨n, rfl⟩ := Int.eq_ofNat_of_zero_le h0
  exact this ⟨n, by omega⟩ ⟨z, hz⟩

theorem setOf_facts (l : List Int) (h : ∀ z ∈ l, 0 ≤ z ∧ z ≤ 7) : 0 ≤ setOf l ∧ setOf l ≤ 255 ∧ ∀ j, j < 64 → tb (setOf l) j = decide ((j : Int) ∈ l) := by
  have key : ∀ n, ∀ l : List Int, l.length = n → (∀ z ∈ l, 0 ≤ z ∧ z ≤ 7) → 0 ≤ setOf l ∧ setOf l ≤ 255 ∧ ∀ j, j < 64 → tb (setOf l) j = decide ((j : Int) ∈ l) := by
    intro n
    induction n with
    | zero =>
      intro l hl _
      obtain rfl : l = [] := List.length_eq_zero_iff.1 hl
      exact ⟨by decide, by decide, fun j _ => by simp [setOf, tb_zero]⟩
    | succ n ih =>
      intro l hl h
      have hne : l ≠ [] := by intro e; subst e; simp at hl
      have e := List.dropLast_concat_getLast hne
      generalize l.dropLast = d at e
      generalize l.getLast hne = z at e
      subst e
      simp at hl
      obtain ⟨a, b, c⟩ := ih d hl (fun x hx => h x (by simp [hx]))
      obtain ⟨z0, z7⟩ := h z (by simp)
      rw [setOf_snoc]
      obtain ⟨o0, o1, _⟩ := or_small (setOf d) z.toNat a b (by omega)
      refine ⟨o0, o1, fun j hj => ?_⟩
      rw [tb_or _ _ j hj, c j hj, tb_pow _ j (by omega) hj]
      have hjz : j = z.toNat ↔ (j : Int) = z := by omega
      rw [Bool.eq_iff_iff]; simp [hjz]
  exact key l.length l rfl h

theorem setOf_add (l : List Int) (z : Int) (h : ∀ x ∈ l, 0 ≤ x ∧ x ≤ 7) (h0 : 0 ≤ z) (h7 : z ≤ 7) (hz : z ∉ l) : bits .or .i64 (setOf l) (2 ^ z.toNat) = setOf l + 2 ^ z.toNat := by
  obtain ⟨a, b, c⟩ := setOf_facts l h
  refine (or_small (setOf l) z.toNat a b (by omega)).2.2 ?_
  rw [c _ (by omega)]
  simp only [decide_eq_false_iff_not]
  rwa [Int.toNat_of_nonneg h0]

theorem all_of {l : List Int} (h : ∀ j, j < l.length → isK (l.getD j 0) = true) : l.all isK = true := by
  rw [List.all_eq_true]
  intro x hx
  obtain ⟨j, hj, e⟩ := List.getElem_of_mem hx
  have := h j hj
  rw [List.getD_eq_getElem?_getD, List.getElem?_eq_getElem hj] at this
  simpa [e] using this
theorem all_take {l : List Int} (h : l.all isK = true) (k : Nat) : ∀ z ∈ l.take k, 0 ≤ z ∧ z ≤ 7 := fun z hz =>
  isK_iff.1 (List.all_eq_true.1 h z (List.mem_of_mem_take hz))
theorem ofR_arg {l : List Int} {k : Nat} (hk : k < l.length) (h : isK (l.getD k 0) = false) : ofR l = (0, 1) := by
  unfold ofR
  rw [if_neg]
  intro e
  have := List.all_eq_true.1 e _ (getD_mem hk)
  rw [h] at this; cases this
theorem nodup_snoc {l : List Int} {z : Int} (h : l.Nodup) (hz : z ∉ l) : (l ++ [z]).Nodup := by
  rw [List.nodup_append]
  refine ⟨h, by simp, fun a ha b hb => ?_⟩
  simp at hb; subst hb
  intro e; subst e; exact hz ha
theorem ofR_twice {l : List Int} {k : Nat} (ha : l.all isK = true) (hk : k < l.length) (h : l.getD k 0 ∈ l.take k) : ofR l = (0, 6) := by
  unfold ofR
  rw [if_pos ha, if_neg]
  intro e
  have : (l.take (k + 1)).Nodup := e.sublist (List.take_sublist _ _)
  rw [take_snoc hk, List.nodup_append] at this
  exact this.2.2 _ h (l.getD k 0) (by simp) rfl
theorem ofR_ok {l : List Int} (ha : l.all isK = true) (h : l.Nodup) : ofR l = (setOf l, 0) := by
  unfold ofR
  rw [if_pos ha, if_pos h]

/-- what has answers at a component, of the set of the first k -/
theorem tb_setOf {l : List Int} (h : ∀ x ∈ l, 0 ≤ x ∧ x ≤ 7) {z : Int} (h0 : 0 ≤ z) (h7 : z ≤ 7) : tb (setOf l) z.toNat = decide (z ∈ l) := by
  rw [(setOf_facts l h).2.2 _ (by omega), Int.toNat_of_nonneg h0]

theorem wrap_small (z : Nat) (h : z < 8) : IntKind.i64.wrap (2 ^ z) = 2 ^ z := by
  have : ∀ z : Fin 8, IntKind.i64.wrap (2 ^ z.val) = 2 ^ z.val := by decide +kernel
  exact this ⟨z, h⟩
theorem pow_le7 (z : Nat) (h : z < 8) : (2 : Int) ^ z ≤ 128 ∧ (1 : Int) ≤ 2 ^ z := by
  have : ∀ z : Fin 8, (2 : Int) ^ z.val ≤ 128 ∧ (1 : Int) ≤ 2 ^ z.val := by decide +kernel
  exact this ⟨z, h⟩

/-- the components of a set, in increasing order -/
def kindsTo (m : Int) : Nat → List Int
  | 0 => []
  | k + 1 => if tb m k then kindsTo m k ++ [(k : Int)] else kindsTo m k
def kinds (m : Int) : List Int := kindsTo m 8
/-- how many there are -/
def cnt (m : Int) : Int := (kinds m).length

theorem mod256 (m : Int) (k : Nat) (h : k < 64) : tb (m % 256) k = (decide (k < 8) && tb m k) := by
  unfold tb
  by_cases hk : k < 8
  · have e : m % 256 / 2 ^ k % 2 = m / 2 ^ k % 2 := by
      match k, hk with
      | 0, _ => omega
      | 1, _ => omega
      | 2, _ => omega
      | 3, _ => omega
      | 4, _ => omega
      | 5, _ => omega
      | 6, _ => omega
      | 7, _ => omega
    rw [e]; simp [hk]
  · have h2 : (256 : Int) ≤ 2 ^ k := by
      have : (2 : Nat) ^ 8 ≤ 2 ^ k := Nat.pow_le_pow_right (by decide) (by omega)
      have e : ((2 ^ k : Nat) : Int) = (2 : Int) ^ k := by simp
      omega
    rw [Int.ediv_eq_zero_of_lt (by omega) (by omega)]; simp [hk]

theorem tb_255 (k : Nat) (h : k < 64) : tb 255 k = decide (k < 8) := by
  have : ∀ k : Fin 64, tb 255 k.val = decide (k.val < 8) := by decide +kernel
  exact this ⟨k, h⟩
theorem and_255 (m : Int) : bits .and .i64 m 255 = m % 256 := by
  refine i64_ext (and_I64 _ _) ⟨by omega, by omega⟩ fun k hk => ?_
  rw [tb_and _ _ k hk, mod256 m k hk, tb_255 k hk, Bool.and_comm]
theorem kindsTo_mod (m : Int) (k : Nat) (h : k ≤ 8) : kindsTo (m % 256) k = kindsTo m k := by
  induction k with
  | zero => rfl
  | succ k ih => rw [kindsTo, kindsTo, ih (by omega), mod256 m k (by omega)]; simp [show k < 8 by omega]
theorem kinds_mod (m : Int) : kinds (m % 256) = kinds m := kindsTo_mod m 8 (by omega)
theorem cnt_mod (m : Int) : cnt (m % 256) = cnt m := by rw [cnt, kinds_mod]; rfl
theorem kindsTo_len (m : Int) (k : Nat) : (kindsTo m k).length ≤ k := by
  induction k with
  | zero => simp [kindsTo]
  | succ k ih =>
    rw [kindsTo]
    split
    · rw [List.length_append]; simp; omega
    · omega
theorem of_fin256 {p : Int → Prop} (h : ∀ n : Fin 256, p (n.val : Int)) (x : Int) (h0 : 0 ≤ x) (h1 : x ≤ 255) : p x := by
  obtain ⟨n, rfl⟩ := Int.eq_ofNat_of_zero_le h0
  exact h ⟨n, by omega⟩
/-- what OnesCount64 reckons -/
def oc (x : Int) : Int :=
  let a := IntKind.u64.wrap (bits .and .u64 (x / 2) 6148914691236517205 + bits .and .u64 x 6148914691236517205)
  let b := IntKind.u64.wrap (bits .and .u64 (a / 4) 3689348814741910323 + bits .and .u64 a 3689348814741910323)
  let c := bits .and .u64 (IntKind.u64.wrap (b / 16 + b)) 1085102592571150095
  let d := IntKind.u64.wrap (c + c / 256)
  let e := IntKind.u64.wrap (d + d / 65536)
  let f := IntKind.u64.wrap (e + e / 4294967296)
  bits .and .i64 (RowKit.wrap64 f) 127
theorem oc_eq (x : Int) (h0 : 0 ≤ x) (h1 : x ≤ 255) : oc x = cnt x := of_fin256 (p := fun x => oc x = cnt x) (by decide +kernel) x h0 h1

theorem mem_kindsTo {m : Int} {k : Nat} {z : Int} : z ∈ kindsTo m k ↔ ∃ j, j < k ∧ z = (j : Int) ∧ tb m j = true := by
  induction k with
  | zero => simp [kindsTo]
  | succ k ih =>
    rw [kindsTo]
    constructor
    · intro h
      split at h
      · rename_i hb
        rw [List.mem_append] at h
        rcases h with h | h
        · obtain ⟨j, hj, e⟩ := ih.1 h; exact ⟨j, by omega, e⟩
        · simp at h; exact ⟨k, by omega, h, hb⟩
      · obtain ⟨j, hj, e⟩ := ih.1 h; exact ⟨j, by omega, e⟩
    · rintro ⟨j, hj, e, hb⟩
      by_cases hk : j = k
      · subst hk; rw [if_pos hb]; simp [e]
      · have := ih.2 ⟨j, by omega, e, hb⟩
        split <;> simp [this]
theorem nodup_kindsTo (m : Int) (k : Nat) : (kindsTo m k).Nodup := by
  induction k with
  | zero => simp [kindsTo]
  | succ k ih =>
    rw [kindsTo]
    split
    · refine nodup_snoc ih ?_
      intro h
      obtain ⟨j, hj, e, _⟩ := mem_kindsTo.1 h
      omega
    · exact ih
end Go.Proofs.YtnmlapoiilckhaaDoor

/- A slice value that reads as a list of ints; the contracts of mask.Of, of the reference's MaskOf, Has and power, and of the closed facts 'masked'. -/
namespace Go.Proofs.YtnmlapoiilckhaaDoor
set_option maxRecDepth 8000
open Go.RowKit

/-- In world w the value v is a slice whose elements are zs (nil for an empty list, or not). -/
def Ints (w : World) (v : Value) (zs : List Int) : Prop :=
  ∃ a cap, v = .slice a zs.length cap ∧ zs.length ≤ cap ∧ cap ≤ maxLen ∧ ∀ k, k < zs.length → ∃ b off, a = some ⟨b, off, none⟩ ∧ b < w.heap.size ∧ w.cell? ⟨b, off + k, none⟩ = some (.int .i64 (zs.getD k 0))

/-- Either it is empty, or it has an address and cells. -/
theorem Ints.open {w : World} {v : Value} {zs : List Int} (h : Ints w v zs) :
    zs.length ≤ maxLen ∧ ((∃ a cap, v = .slice a zs.length cap ∧ zs.length ≤ 0) ∨ ∃ b off cap, v = .slice (some ⟨b, off, none⟩) zs.length cap ∧ b < w.heap.size ∧ zs.length ≤ cap ∧ cap ≤ maxLen ∧ ∀ k, k < zs.length → w.cell? ⟨b, off + k, none⟩ = some (.int .i64 (zs.getD k 0))) := by
  obtain ⟨a, cap, rfl, hl, hm, h⟩ := h
  refine ⟨Nat.le_trans hl hm, ?_⟩
  by_cases e : zs.length = 0
  · exact .inl ⟨a, cap, rfl, by omega⟩
  · obtain ⟨b, off, rfl, hb, _⟩ := h 0 (by omega)
    refine .inr ⟨b, off, cap, rfl, hb, hl, hm, fun k hk => ?_⟩
    obtain ⟨b', off', e, _, h⟩ := h k hk
    simp only [Option.some.injEq, Addr.mk.injEq] at e
    obtain ⟨rfl, rfl, _⟩ := e
    exact h

/-- It reads so in every later world. -/
theorem Ints.later {w w' : World} {v : Value} {zs : List Int} (h : Ints w v zs) (hb : Below w.heap.size w w') : Ints w' v zs := by
  obtain ⟨a, cap, rfl, hl, hm, h⟩ := h
  refine ⟨a, cap, rfl, hl, hm, fun k hk => ?_⟩
  obtain ⟨b, off, e, hlt, hc⟩ := h k hk
  exact ⟨b, off, e, Nat.lt_of_lt_of_le hlt hb.size, by rw [hb.cell (p := ⟨b, off + k, none⟩) hlt]; exact hc⟩

/-- Its first j elements. -/
theorem Ints.cut {w : World} {zs : List Int} {b off cap j : Nat} (hb : b < w.heap.size) (hl : zs.length ≤ cap) (hm : cap ≤ maxLen) (h : ∀ k, k < zs.length → w.cell? ⟨b, off + k, none⟩ = some (.int .i64 (zs.getD k 0))) (hj : j ≤ zs.length) :
    Ints w (.slice (some ⟨b, off, none⟩) j cap) (zs.take j) := by
  have e : (zs.take j).length = j := by simp; omega
  refine ⟨some ⟨b, off, none⟩, cap, by rw [e], by omega, hm, fun k hk => ⟨b, off, rfl, hb, ?_⟩⟩
  rw [getD_take (by omega)]
  exact h k (by omega)

set_option maxHeartbeats 400000 in
theorem power_any (z : Int) (w : World) (h0 : 0 ≤ z) (h7 : z ≤ 7) :
    Calls Tryd.prog 67 #[.int .i64 z] w fun e w' => e = .returned (.int .i64 (2 ^ z.toNat)) ∧ w = w' := by
  obtain ⟨n, rfl⟩ := Int.eq_ofNat_of_zero_le h0
  rw [Int.toNat_natCast]
  go_enter Tryd.func67, Tryd.ntmps67
  go_wp2
  go_loop [3, 5] (fun p i => ∃ k : Nat, k ≤ n ∧ i = .int .i64 k ∧ p = .int .i64 (2 ^ k)) (fun _ i => n - (intOf i).toNat)
  case atStart => exact ⟨0, by omega, rfl, rfl⟩
  case round =>
    obtain ⟨k, hk, rfl, rfl⟩ := hrel
    obtain ⟨p1, p2⟩ := pow_le7 k (by omega)
    have HP : Hid ((2 : Int) ^ (k + 1) = 2 ^ k * 2) := Lib.hid (Int.pow_succ _ _)
    by_cases hlt : k < n
    · generalize (2 : Int) ^ k = q at *
      go_wp2
      go_round
      case rel => exact ⟨k + 1, by omega, by go_num, by rw [HP.out]⟩
      case measure => simp [intOf]; omega
    · obtain rfl : k = n := by omega
      go_wp2
      go_ret
      exact ⟨rfl, rfl⟩

theorem inB_isK (z : Int) : inB z 0 7 = isK z := rfl
theorem ret_pair {p : Int × Int} {a b : Int} (h : p = (a, b)) : Ending.returned (.tuple #[.int .i64 a, .int .i64 b]) = .returned (.tuple #[.int .i64 p.1, .int .i64 p.2]) := by rw [h]

theorem add_I64 {l : List Int} {z : Int} (h : ∀ x ∈ l, 0 ≤ x ∧ x ≤ 7) (h0 : 0 ≤ z) (h7 : z ≤ 7) : 0 ≤ setOf l ∧ setOf l ≤ 255 ∧ 1 ≤ (2 : Int) ^ z.toNat ∧ (2 : Int) ^ z.toNat ≤ 128 :=
  ⟨(setOf_facts l h).1, (setOf_facts l h).2.1, (pow_le7 z.toNat (by omega)).2, (pow_le7 z.toNat (by omega)).1⟩

/-- A slice literal of two ints, newly made. -/
theorem Ints.two (w : World) (x y : Int) (t : TypeId) : Ints (w.alloc (.cells #[.int .i64 x, .int .i64 y] t)) (.slice (some ⟨w.heap.size, 0, none⟩) 2 2) [x, y] := by
  refine ⟨_, 2, rfl, by simp, by simp [maxLen], fun k hk => ⟨_, _, rfl, by simp, ?_⟩⟩
  simp at hk
  match k, hk with
  | 0, _ => simp
  | 1, _ => simp

end Go.Proofs.YtnmlapoiilckhaaDoor

/- How the arguments of the laws of stage 1 are opened: an int fits 64 bits; a slice of ints that came in reads as a list. -/
namespace Go.Proofs.YtnmlapoiilckhaaDoor
open Go.ChangeShapes Go.WideShapes Go.ChangeAt Go.RowKit

theorem I64_of {a : Int} (h : (Lit.int .i64 a).wf = true) : I64 a := by
  have := bounds_i64 h
  exact this
theorem Ints_of {H : Type} {enc : TypeId × Value → H} {P : Program} {W : World} {base : Nat} {held : Bool} {T E : TypeId} {a : Option Addr} {len cap : Nat} {d : DataW H} {p : List MemPlace}
    (hT : P.underlying T = some (.slice E)) (hE : P.underlying E = some (.int .i64)) (hC : P.cellsOf E = 1) (h : DataW.Trod enc P W base (fun _ => true) held T (.slice a len cap) d p) :
    ∃ zs, Ints W (.slice a len cap) zs := by
  obtain ⟨fuel, hf⟩ := h
  rcases open_ints hT hE hC hf with ⟨hcs, _⟩ | ⟨x, l, c, zs, hcs, _, hl, hm, hz, _, hcell, hwz⟩
  · simp [Value.cells] at hcs
    obtain ⟨rfl, rfl, rfl⟩ := hcs
    exact ⟨[], none, 0, rfl, by simp, by simp [maxLen], fun k hk => by simp at hk⟩
  · simp [Value.cells] at hcs
    obtain ⟨rfl, rfl, rfl⟩ := hcs
    simp at hz
    have e : (zs.take len).length = len := by simp; omega
    refine ⟨zs.take len, some x, cap, by rw [e], by omega, hm, fun k hk => ?_⟩
    have hc := hcell k (by omega)
    have hs : x.spot = none := by simpa [Addr.add] using World.cell?_spot (hcell 0 (by omega))
    obtain ⟨b, off, spot⟩ := x
    simp only at hs
    subst hs
    have hc' : W.cell? ⟨b, off + k, none⟩ = some (.int .i64 (zs.getD k 0)) := by
      rw [← hc]
      by_cases e : k = 0
      · subst e; rfl
      · simp [Addr.add, e]
    refine ⟨b, off, rfl, World.block_lt_of_cell? _ _ hc', ?_⟩
    rw [getD_take (by omega)]
    exact hc'
end Go.Proofs.YtnmlapoiilckhaaDoor

/- The first error of an entity. -/
namespace Go.Proofs.YtnmlapoiilckhaaDoor
open Go.RowKit

/-- the error at component i: its value is n -/
def bStep (m : Int) (i : Nat) (n : Int) : Int := if !tb m i && n != 0 then 4 else if inB n (-1000000000) 1000000000 then 0 else 1
/-- the first error among the first k components -/
def bTo (m : Int) (vs : List Int) : Nat → Int
  | 0 => 0
  | k + 1 => if bTo m vs k = 0 then bStep m k (vs.getD k 0) else bTo m vs k
/-- the first error of an entity -/
def bErr (m : Int) (vs : List Int) : Int := if inB m 0 255 then bTo m vs 8 else 1

theorem bTo_next {m : Int} {vs : List Int} {k : Nat} (h : bTo m vs k = 0) : bTo m vs (k + 1) = bStep m k (vs.getD k 0) := by rw [bTo, if_pos h]
theorem bTo_stop {m : Int} {vs : List Int} {k : Nat} (h : bTo m vs k ≠ 0) : ∀ j, k ≤ j → bTo m vs j = bTo m vs k := by
  intro j hj
  induction j with
  | zero => obtain rfl : k = 0 := by omega
            rfl
  | succ j ih =>
    by_cases e : k = j + 1
    · rw [e]
    · rw [bTo, if_neg (by rw [ih (by omega)]; exact h), ih (by omega)]
theorem bErr_stop {m : Int} {vs : List Int} {k : Nat} {c : Int} (hm : inB m 0 255 = true) (h : bTo m vs k = 0) (hk : k < 8) (hs : bStep m k (vs.getD k 0) = c) (hc : c ≠ 0) : bErr m vs = c := by
  have h1 := bTo_next h
  rw [bErr, if_pos hm, bTo_stop (k := k + 1) (by rw [h1, hs]; exact hc) 8 (by omega), h1, hs]
theorem bErr_end {m : Int} {vs : List Int} (hm : inB m 0 255 = true) (h : bTo m vs 8 = 0) : bErr m vs = 0 := by rw [bErr, if_pos hm, h]
theorem bErr_kinds {m : Int} {vs : List Int} (hm : inB m 0 255 = false) : bErr m vs = 1 := by rw [bErr, if_neg (by rw [hm]; decide)]
theorem bStep_eq {m n : Int} {i : Nat} {x y z : Bool} (h1 : tb m i = x) (h2 : (n != 0) = y) (h3 : inB n (-1000000000) 1000000000 = z) : bStep m i n = if !x && y then 4 else if z then 0 else 1 := by
  subst h1 h2 h3; rfl

end Go.Proofs.YtnmlapoiilckhaaDoor

/- Memory that a call owns: which blocks may turn (Kept), slices that read as lists of elements of several cells (Reads), slices of the call's own (Owns). -/
namespace Go.Proofs.YtnmlapoiilckhaaDoor
open Go.RowKit

/-- w' is w but for the blocks of F and for new blocks. -/
structure Kept (F : Nat → Prop) (w w' : World) : Prop where
  os : w'.os = w.os
  tape : w'.tape = w.tape
  output : w'.output = w.output
  size : w.heap.size ≤ w'.heap.size
  block : ∀ k, k < w.heap.size → ¬ F k → w'.heap[k]? = w.heap[k]?

theorem Kept.refl (F : Nat → Prop) (w : World) : Kept F w w := ⟨rfl, rfl, rfl, Nat.le_refl _, fun _ _ _ => rfl⟩
theorem Kept.trans {F G : Nat → Prop} {a b c : World} (h : Kept F a b) (k : Kept G b c) (hg : ∀ i, G i → F i ∨ a.heap.size ≤ i) : Kept F a c :=
  ⟨k.os.trans h.os, k.tape.trans h.tape, k.output.trans h.output, Nat.le_trans h.size k.size, fun i hi hf =>
    (k.block i (Nat.lt_of_lt_of_le hi h.size) (fun g => (hg i g).elim hf (fun e => by omega))).trans (h.block i hi hf)⟩
theorem Kept.mono {F G : Nat → Prop} {w w' : World} (h : Kept F w w') (hg : ∀ i, F i → G i ∨ w.heap.size ≤ i) : Kept G w w' :=
  ⟨h.os, h.tape, h.output, h.size, fun i hi hf => h.block i hi (fun g => (hg i g).elim hf (fun e => by omega))⟩
theorem Kept.ofBelow {F : Nat → Prop} {w w' : World} (h : Below w.heap.size w w') : Kept F w w' := ⟨h.os, h.tape, h.output, h.size, fun k hk _ => h.block k hk⟩
theorem Kept.below {F : Nat → Prop} {w w' : World} {B : Nat} (h : Kept F w w') (hB : B ≤ w.heap.size) (hF : ∀ k, F k → B ≤ k) : Below B w w' :=
  ⟨h.os, h.tape, h.output, h.size, fun k hk => h.block k (by omega) (fun f => by have := hF k f; omega)⟩
theorem Kept.alloc (F : Nat → Prop) (w : World) (o : Obj) : Kept F w (w.alloc o) := ⟨rfl, rfl, rfl, by simp, fun k hk _ => Below.heap_alloc w o k hk⟩
theorem Kept.setCell {F : Nat → Prop} (w : World) {p : Addr} (hp : F p.block) (u : Value) : Kept F w (w.setCell p u) :=
  ⟨rfl, rfl, rfl, by simp [World.setCell], fun k _ hf => heap_setCell_other _ _ _ _ (fun e => hf (by rw [e]; exact hp))⟩
theorem Kept.grown {F : Nat → Prop} {w w' : World} {row : Option Nat} (hg : w.grownBy w' row) (hr : ∀ k, row = some k → F k) : Kept F w w' :=
  ⟨hg.os, hg.tape, hg.output, hg.size, fun k hk hf => hg.block k hk (fun e => hf (hr k e.symm))⟩
theorem Kept.drew (F : Nat → Prop) (w : World) : Kept F w w.drew := ⟨rfl, rfl, rfl, Nat.le_refl _, fun _ _ _ => rfl⟩
theorem Kept.cell {F : Nat → Prop} {w w' : World} (h : Kept F w w') {p : Addr} (hp : p.block < w.heap.size) (hf : ¬ F p.block) : w'.cell? p = w.cell? p := World.cell?_of_block (h.block p.block hp hf)
theorem Kept.cellS {F : Nat → Prop} {w w' : World} (h : Kept F w w') {p : Addr} {v : Value} (hc : w.cell? p = some v) (hf : ¬ F p.block) : w'.cell? p = some v := by
  rw [h.cell (World.block_lt_of_cell? _ _ hc) hf]; exact hc

/-- What comes of a set of own blocks: old ones of it, or new blocks. -/
def Moves (w : World) (F F' : Nat → Prop) : Prop := ∀ k, F' k → F k ∨ w.heap.size ≤ k
theorem Moves.refl (w : World) (F : Nat → Prop) : Moves w F F := fun _ h => .inl h
theorem Moves.trans {w w' : World} {F G H : Nat → Prop} (h : Moves w F G) (k : Moves w' G H) (hs : w.heap.size ≤ w'.heap.size) : Moves w F H :=
  fun i hi => (k i hi).elim (fun g => h i g) (fun e => .inr (Nat.le_trans hs e))
theorem Kept.next {F F' : Nat → Prop} {a b c : World} (h : Kept F a b) (m : Moves a F F') (k : Kept F' b c) : Kept F a c := h.trans k m
/-- Two sets of own blocks, the first turned: still apart. -/
theorem Moves.apart {w : World} {F F' G : Nat → Prop} (m : Moves w F F') (hG : ∀ k, G k → k < w.heap.size) (h : ∀ k, F k → ¬ G k) : ∀ k, F' k → ¬ G k :=
  fun k hk hg => (m k hk).elim (fun f => h k f hg) (fun e => by have := hG k hg; omega)
theorem Moves.apart' {w : World} {F F' G : Nat → Prop} (m : Moves w F F') (hG : ∀ k, G k → k < w.heap.size) (h : ∀ k, G k → ¬ F k) : ∀ k, G k → ¬ F' k :=
  fun k hk hf => (m k hf).elim (fun f => h k hk f) (fun e => by have := hG k hk; omega)
theorem Moves.above {w : World} {F F' : Nat → Prop} {B : Nat} (m : Moves w F F') (hB : B ≤ w.heap.size) (h : ∀ k, F k → B ≤ k) : ∀ k, F' k → B ≤ k :=
  fun k hk => (m k hk).elim (h k) (fun e => by omega)

/-- How an element lies in cells. -/
structure El (α : Type) where
  enc : α → List Value
  size : Nat
  zero : α
  len : ∀ x, (enc x).length = size
  pos : 0 < size
  one : ∀ x, ∀ u ∈ enc x, u.oneCell' = true

/-- In world w the value v is a slice whose elements are xs. -/
def Reads {α : Type} (E : El α) (w : World) (v : Value) (xs : List α) : Prop :=
  ∃ a cap, v = .slice a xs.length cap ∧ xs.length ≤ cap ∧ cap ≤ maxLen ∧
    ∀ k, k < xs.length → ∃ b off, a = some ⟨b, off, none⟩ ∧ b < w.heap.size ∧ ∀ j, j < E.size → w.cell? ⟨b, off + k * E.size + j, none⟩ = (E.enc (xs.getD k E.zero))[j]?

theorem Reads.open {α : Type} {E : El α} {w : World} {v : Value} {xs : List α} (h : Reads E w v xs) :
    xs.length ≤ maxLen ∧ ((∃ a cap, v = .slice a xs.length cap ∧ xs.length ≤ 0) ∨ ∃ b off cap, v = .slice (some ⟨b, off, none⟩) xs.length cap ∧ b < w.heap.size ∧ xs.length ≤ cap ∧ cap ≤ maxLen ∧
      ∀ k, k < xs.length → ∀ j, j < E.size → w.cell? ⟨b, off + k * E.size + j, none⟩ = (E.enc (xs.getD k E.zero))[j]?) := by
  obtain ⟨a, cap, rfl, hl, hm, h⟩ := h
  refine ⟨Nat.le_trans hl hm, ?_⟩
  by_cases e : xs.length = 0
  · exact .inl ⟨a, cap, rfl, by omega⟩
  · obtain ⟨b, off, rfl, hb, _⟩ := h 0 (by omega)
    refine .inr ⟨b, off, cap, rfl, hb, hl, hm, fun k hk => ?_⟩
    obtain ⟨b', off', e, _, h⟩ := h k hk
    simp only [Option.some.injEq, Addr.mk.injEq] at e
    obtain ⟨rfl, rfl, _⟩ := e
    exact h

theorem Reads.kept {α : Type} {E : El α} {F : Nat → Prop} {w w' : World} {v : Value} {xs : List α} (h : Reads E w v xs) (hk : Kept F w w') (hf : ∀ k, v.ownBlock = some k → ¬ F k) : Reads E w' v xs := by
  obtain ⟨a, cap, rfl, hl, hm, h⟩ := h
  refine ⟨a, cap, rfl, hl, hm, fun k hk' => ?_⟩
  obtain ⟨b, off, rfl, hlt, hc⟩ := h k hk'
  exact ⟨b, off, rfl, Nat.lt_of_lt_of_le hlt hk.size, fun j hj => by rw [hk.cell (p := ⟨b, off + k * E.size + j, none⟩) hlt (hf b rfl)]; exact hc j hj⟩
theorem Reads.later {α : Type} {E : El α} {w w' : World} {v : Value} {xs : List α} (h : Reads E w v xs) (hb : Below w.heap.size w w') : Reads E w' v xs :=
  h.kept (F := fun _ => False) (Kept.ofBelow hb) (fun _ _ f => f)

/-- A slice of the call's own. -/
def Owns {α : Type} (E : El α) (w : World) (T : TypeId) (v : Value) (xs : List α) : Prop := w.ownsRow 0 T E.size v xs.length (xs.flatMap E.enc)

theorem length_enc {α : Type} (E : El α) : ∀ xs : List α, (xs.flatMap E.enc).length = xs.length * E.size
  | [] => by simp
  | x :: xs => by rw [List.flatMap_cons, List.length_append, E.len, length_enc E xs, List.length_cons, Nat.add_mul]; omega
theorem enc_at {α : Type} (E : El α) : ∀ (xs : List α) (k j : Nat), k < xs.length → j < E.size → (xs.flatMap E.enc)[k * E.size + j]? = (E.enc (xs.getD k E.zero))[j]?
  | x :: xs, 0, j, _, hj => by
    rw [List.flatMap_cons, List.getElem?_append_left (by rw [E.len]; omega)]; simp
  | x :: xs, k + 1, j, hk, hj => by
    rw [List.flatMap_cons, List.getElem?_append_right (by rw [E.len, Nat.add_mul]; omega), E.len, show (k + 1) * E.size + j - E.size = k * E.size + j by rw [Nat.add_mul]; omega]
    rw [enc_at E xs k j (by simpa using hk) hj]
    simp
theorem enc_set {α : Type} (E : El α) : ∀ (xs : List α) (k j : Nat) (x : α) (u : Value), k < xs.length → j < E.size → E.enc x = (E.enc (xs.getD k E.zero)).set j u → (xs.set k x).flatMap E.enc = (xs.flatMap E.enc).set (k * E.size + j) u
  | y :: xs, 0, j, x, u, _, hj, h => by
    simp only [List.set_cons_zero, List.flatMap_cons, Nat.zero_mul, Nat.zero_add]
    rw [List.set_append_left _ _ (by rw [E.len]; exact hj), h]; simp
  | y :: xs, k + 1, j, x, u, hk, hj, h => by
    simp only [List.set_cons_succ, List.flatMap_cons]
    rw [List.set_append_right _ _ (by rw [E.len, Nat.add_mul]; omega), E.len, show (k + 1) * E.size + j - E.size = k * E.size + j by rw [Nat.add_mul]; omega]
    rw [enc_set E xs k j x u (by simpa using hk) hj (by simpa using h)]

theorem Owns.form {α : Type} {E : El α} {w : World} {T : TypeId} {v : Value} {xs : List α} (h : Owns E w T v xs) :
    (v = .slice none 0 0 ∧ xs = []) ∨ ∃ g cap cur, v = .slice (some ⟨g, 0, none⟩) xs.length cap ∧ w.heap[g]? = some (.cells cur T (0, 0)) ∧ g < w.heap.size ∧ xs.length ≤ cap ∧ cap ≤ maxLen ∧ cur.size = cap * E.size := by
  rcases h.2 with ⟨rfl, h0⟩ | ⟨g, cap, cur, rfl, _, hh, hn, hcap, hsz, htake⟩
  · exact .inl ⟨rfl, List.length_eq_zero_iff.1 h0⟩
  · exact .inr ⟨g, cap, cur, rfl, hh, (Array.getElem?_eq_some_iff.1 hh).1, hn, hcap, hsz⟩

theorem Owns.reads {α : Type} {E : El α} {w : World} {T : TypeId} {v : Value} {xs : List α} (h : Owns E w T v xs) : Reads E w v xs := by
  rcases h.form with ⟨rfl, rfl⟩ | ⟨g, cap, cur, rfl, hh, hg, hn, hcap, hsz⟩
  · exact ⟨none, 0, rfl, by simp, by simp [maxLen], fun k hk => by simp at hk⟩
  · refine ⟨_, cap, rfl, hn, hcap, fun k hk => ⟨g, 0, rfl, hg, fun j hj => ?_⟩⟩
    rw [← enc_at E xs k j hk hj, Nat.zero_add]
    exact World.ownsRow.cellAt h _ (by have : (k + 1) * E.size ≤ xs.length * E.size := Nat.mul_le_mul_right _ hk
                                       rw [Nat.add_mul] at this; omega)

theorem Owns.kept {α : Type} {E : El α} {F : Nat → Prop} {w w' : World} {T : TypeId} {v : Value} {xs : List α} (h : Owns E w T v xs) (hk : Kept F w w') (hf : ∀ k, v.ownBlock = some k → ¬ F k) : Owns E w' T v xs := by
  refine ⟨h.1, ?_⟩
  rcases h.2 with hn | ⟨g, cap, cur, rfl, hb, hgg, rest⟩
  · exact .inl hn
  · refine .inr ⟨g, cap, cur, rfl, hb, ?_, rest⟩
    rw [hk.block g (Array.getElem?_eq_some_iff.1 hgg).1 (hf g rfl)]
    exact hgg
theorem Owns.later {α : Type} {E : El α} {w w' : World} {T : TypeId} {v : Value} {xs : List α} (h : Owns E w T v xs) (hb : Below w.heap.size w w') : Owns E w' T v xs :=
  h.kept (F := fun _ => False) (Kept.ofBelow hb) (fun _ _ f => f)
theorem Owns.nil {α : Type} (E : El α) (w : World) (T : TypeId) : Owns E w T (.slice none 0 0) [] := World.ownsRow_nil _ _ _ _
theorem Owns.lt {α : Type} {E : El α} {w : World} {T : TypeId} {v : Value} {xs : List α} (h : Owns E w T v xs) {k : Nat} (hk : v.ownBlock = some k) : k < w.heap.size := (World.ownsRow.lt h k hk).2
/-- A store into a cell of element k that makes it x. -/
theorem Owns.stored {α : Type} {E : El α} {w : World} {T : TypeId} {g n cap : Nat} {xs : List α} (h : Owns E w T (.slice (some ⟨g, 0, none⟩) n cap) xs) (k j : Nat) (x : α) (u : Value)
    (hk : k < xs.length) (hj : j < E.size) (hx : E.enc x = (E.enc (xs.getD k E.zero)).set j u) :
    Owns E (w.setCell ⟨g, k * E.size + j, none⟩ u) T (.slice (some ⟨g, 0, none⟩) n cap) (xs.set k x) := by
  have e : n = xs.length := by
    rcases h.form with ⟨h', _⟩ | ⟨g', cap', cur, h', _⟩
    · cases h'
    · simpa using (Value.slice.inj h').2.1
  subst e
  have := (World.ownsRow.stored h (k * E.size + j) u).1
  unfold Owns
  rw [enc_set E xs k j x u hk hj hx, List.length_set]
  exact this

/-- A slice of the call's own, in a block from B on. -/
def OwnsF {α : Type} (E : El α) (w : World) (B : Nat) (T : TypeId) (v : Value) (xs : List α) : Prop := w.ownsRow B T E.size v xs.length (xs.flatMap E.enc)
theorem OwnsF.owns {α : Type} {E : El α} {w : World} {B : Nat} {T : TypeId} {v : Value} {xs : List α} (h : OwnsF E w B T v xs) : Owns E w T v xs := by
  refine ⟨h.1, ?_⟩
  rcases h.2 with hn | ⟨g, cap, cur, rfl, hb, rest⟩
  · exact .inl hn
  · exact .inr ⟨g, cap, cur, rfl, Nat.zero_le _, rest⟩
theorem OwnsF.reads {α : Type} {E : El α} {w : World} {B : Nat} {T : TypeId} {v : Value} {xs : List α} (h : OwnsF E w B T v xs) : Reads E w v xs := h.owns.reads
theorem OwnsF.ge {α : Type} {E : El α} {w : World} {B : Nat} {T : TypeId} {v : Value} {xs : List α} (h : OwnsF E w B T v xs) {k : Nat} (hk : v.ownBlock = some k) : B ≤ k := (World.ownsRow.lt h k hk).1
theorem OwnsF.lt {α : Type} {E : El α} {w : World} {B : Nat} {T : TypeId} {v : Value} {xs : List α} (h : OwnsF E w B T v xs) {k : Nat} (hk : v.ownBlock = some k) : k < w.heap.size := (World.ownsRow.lt h k hk).2
theorem OwnsF.kept {α : Type} {E : El α} {F : Nat → Prop} {w w' : World} {B : Nat} {T : TypeId} {v : Value} {xs : List α} (h : OwnsF E w B T v xs) (hk : Kept F w w') (hf : ∀ k, v.ownBlock = some k → ¬ F k) : OwnsF E w' B T v xs := by
  refine ⟨h.1, ?_⟩
  rcases h.2 with hn | ⟨g, cap, cur, rfl, hb, hgg, rest⟩
  · exact .inl hn
  · refine .inr ⟨g, cap, cur, rfl, hb, ?_, rest⟩
    rw [hk.block g (Array.getElem?_eq_some_iff.1 hgg).1 (hf g rfl)]
    exact hgg
theorem OwnsF.later {α : Type} {E : El α} {w w' : World} {B : Nat} {T : TypeId} {v : Value} {xs : List α} (h : OwnsF E w B T v xs) (hb : Below w.heap.size w w') : OwnsF E w' B T v xs :=
  h.kept (F := fun _ => False) (Kept.ofBelow hb) (fun _ _ f => f)
theorem OwnsF.nil {α : Type} (E : El α) (w : World) (B : Nat) (T : TypeId) : OwnsF E w B T (.slice none 0 0) [] := World.ownsRow_nil _ _ _ _
/-- behind an append of one element -/
theorem OwnsF.snoc {α : Type} {E : El α} {w : World} {B : Nat} {T : TypeId} {v : Value} {xs : List α} {x : α} (h : w.ownsRow B T E.size v (xs.length + 1) (xs.flatMap E.enc ++ E.enc x)) : OwnsF E w B T v (xs ++ [x]) := by
  unfold OwnsF; rw [List.flatMap_append, List.length_append]; simpa using h
theorem OwnsF.stored {α : Type} {E : El α} {w : World} {B : Nat} {T : TypeId} {g n cap : Nat} {xs : List α} (h : OwnsF E w B T (.slice (some ⟨g, 0, none⟩) n cap) xs) (k j : Nat) (x : α) (u : Value)
    (hk : k < xs.length) (hj : j < E.size) (hx : E.enc x = (E.enc (xs.getD k E.zero)).set j u) :
    OwnsF E (w.setCell ⟨g, k * E.size + j, none⟩ u) B T (.slice (some ⟨g, 0, none⟩) n cap) (xs.set k x) := by
  have e : n = xs.length := by
    rcases h.owns.form with ⟨h', _⟩ | ⟨g', cap', cur, h', _⟩
    · cases h'
    · simpa using (Value.slice.inj h').2.1
  subst e
  have := (World.ownsRow.stored h (k * E.size + j) u).1
  unfold OwnsF
  rw [enc_set E xs k j x u hk hj hx, List.length_set]
  exact this

/-- a variable of two cells, newly made and set -/
theorem below_var2 (w : World) (o : Obj) (u u' : Value) : Below w.heap.size w (((w.alloc o).setCell ⟨w.heap.size, 0, none⟩ u).setCell ⟨w.heap.size, 1, none⟩ u') :=
  (((Below.refl _ _).alloc (Nat.le_refl _) o).setCell (p := ⟨w.heap.size, 0, none⟩) (Nat.le_refl _) u).setCell (p := ⟨w.heap.size, 1, none⟩) (Nat.le_refl _) u'

theorem getD_set_eq {α : Type} (xs : List α) (k : Nat) (x d : α) (h : k < xs.length) : (xs.set k x).getD k d = x := by simp [List.getD_eq_getElem?_getD, h]
theorem getD_set_ne {α : Type} (xs : List α) {k j : Nat} (x d : α) (h : k ≠ j) : (xs.set k x).getD j d = xs.getD j d := by simp [List.getD_eq_getElem?_getD, List.getElem?_set_ne h]
end Go.Proofs.YtnmlapoiilckhaaDoor

/- Rows: a handle, a set, values. -/
namespace Go.Proofs.YtnmlapoiilckhaaDoor
open Go.RowKit

/-- A row: slot, generation, set, values. -/
structure Rw where
  s : Int
  g : Int
  m : Int
  f : Nat → Int
def rowZ : Rw := ⟨0, 0, 0, fun _ => 0⟩
def elRow : El Rw := { enc := fun r => [.int .i64 r.s, .int .i64 r.g, .int .i64 r.m, .int .i64 (r.f 0), .int .i64 (r.f 1), .int .i64 (r.f 2), .int .i64 (r.f 3), .int .i64 (r.f 4), .int .i64 (r.f 5), .int .i64 (r.f 6), .int .i64 (r.f 7)], size := 11, zero := rowZ, len := fun _ => rfl, pos := by decide, one := fun x u hu => by simp at hu; rcases hu with rfl | rfl | rfl | rfl | rfl | rfl | rfl | rfl | rfl | rfl | rfl <;> rfl }

def hsOf (rows : List Rw) : List (Int × Int) := rows.map fun r => (r.s, r.g)
def colOf (rows : List Rw) (k : Nat) : List Int := rows.map fun r => r.f k
theorem hsOf_len (rows : List Rw) : (hsOf rows).length = rows.length := by simp [hsOf]
theorem colOf_len (rows : List Rw) (k : Nat) : (colOf rows k).length = rows.length := by simp [colOf]
theorem hsOf_snoc (rows : List Rw) (r : Rw) : hsOf (rows ++ [r]) = hsOf rows ++ [(r.s, r.g)] := by simp [hsOf]
theorem colOf_snoc (rows : List Rw) (r : Rw) (k : Nat) : colOf (rows ++ [r]) k = colOf rows k ++ [r.f k] := by simp [colOf]
theorem getD_map {α β : Type} (f : α → β) (xs : List α) (i : Nat) (d : α) (d' : β) (h : i < xs.length) : (xs.map f).getD i d' = f (xs.getD i d) := by
  simp [List.getD_eq_getElem?_getD, List.getElem?_eq_getElem h]

def putV (r : Rw) (k : Nat) (n : Int) : Rw := { r with f := fun j => if j = k then n else r.f j }
def upd (f : Nat → Int) (j : Nat) (x : Int) : Nat → Int := fun k => if k = j then x else f k
theorem bTo_zero {m : Int} {vs : List Int} : ∀ {k : Nat}, bTo m vs k = 0 → ∀ j, j < k → bStep m j (vs.getD j 0) = 0
  | 0, _, j, hj => by omega
  | k + 1, h, j, hj => by
    rw [bTo] at h
    by_cases e : bTo m vs k = 0
    · rw [if_pos e] at h
      by_cases ej : j = k
      · rw [ej]; exact h
      · exact bTo_zero e j (by omega)
    · rw [if_neg e] at h; exact absurd h e
theorem bErr_zero {m : Int} {f : Nat → Int} (h : bErr m [f 0, f 1, f 2, f 3, f 4, f 5, f 6, f 7] = 0) : (0 ≤ m ∧ m ≤ 255) ∧ ∀ k, k < 8 → (tb m k = false → f k = 0) ∧ inB (f k) (-1000000000) 1000000000 = true := by
  unfold bErr at h
  cases hm : inB m 0 255
  · rw [hm] at h; simp at h
  · rw [hm, if_pos rfl] at h
    refine ⟨inB_t hm, fun k hk => ?_⟩
    have hs := bTo_zero h k hk
    have hv : [f 0, f 1, f 2, f 3, f 4, f 5, f 6, f 7].getD k 0 = f k := by
      obtain rfl | rfl | rfl | rfl | rfl | rfl | rfl | rfl : k = 0 ∨ k = 1 ∨ k = 2 ∨ k = 3 ∨ k = 4 ∨ k = 5 ∨ k = 6 ∨ k = 7 := by omega
      all_goals rfl
    rw [hv] at hs
    unfold bStep at hs
    constructor
    · intro ht
      rw [ht] at hs
      by_cases e : f k = 0
      · exact e
      · simp [e] at hs
    · cases hb : inB (f k) (-1000000000) 1000000000
      · rw [hb] at hs; split at hs <;> simp at hs
      · rfl
theorem bTo_ok {m : Int} {vs : List Int} : ∀ {k : Nat}, (∀ j, j < k → bStep m j (vs.getD j 0) = 0) → bTo m vs k = 0
  | 0, _ => rfl
  | k + 1, h => by rw [bTo, if_pos (bTo_ok (fun j hj => h j (by omega)))]; exact h k (by omega)
theorem bErr_ok {m : Int} {f : Nat → Int} (h0 : 0 ≤ m) (h1 : m ≤ 255) (h : ∀ k, k < 8 → (tb m k = false → f k = 0) ∧ inB (f k) (-1000000000) 1000000000 = true) : bErr m [f 0, f 1, f 2, f 3, f 4, f 5, f 6, f 7] = 0 := by
  have hm : inB m 0 255 = true := by simp [inB, h0, h1]
  refine bErr_end hm (bTo_ok (fun j hj => ?_))
  have hv : [f 0, f 1, f 2, f 3, f 4, f 5, f 6, f 7].getD j 0 = f j := by
    obtain rfl | rfl | rfl | rfl | rfl | rfl | rfl | rfl : j = 0 ∨ j = 1 ∨ j = 2 ∨ j = 3 ∨ j = 4 ∨ j = 5 ∨ j = 6 ∨ j = 7 := by omega
    all_goals rfl
  obtain ⟨h2, h3⟩ := h j hj
  rw [hv, bStep, h3]
  cases ht : tb m j
  · rw [h2 ht]; rfl
  · rfl

theorem mem_getD {α : Type} {xs : List α} {i : Nat} {d : α} (h : i < xs.length) : xs.getD i d ∈ xs := by
  rw [List.getD_eq_getElem?_getD, List.getElem?_eq_getElem h]; exact List.getElem_mem h
end Go.Proofs.YtnmlapoiilckhaaDoor

/- Slots as a plain list of pairs (generation, live): what Take, Free, Live, All and Gens do to it. -/
namespace Go.Proofs.YtnmlapoiilckhaaDoor
open Go.RowKit

def freeB (x : Int × Bool) : Bool := !x.2 && decide (x.1 < 1000000)
def firstFree (l : List (Int × Bool)) : Nat := l.findIdx freeB
def slotZ : Int × Bool := (0, false)
/-- slots, handle, error behind Take -/
def takeL (l : List (Int × Bool)) : List (Int × Bool) :=
  if firstFree l < l.length then l.set (firstFree l) ((l.getD (firstFree l) slotZ).1, true) else if l.length < 60 then l ++ [(0, true)] else l
def takeH (l : List (Int × Bool)) : Int × Int :=
  if firstFree l < l.length then ((firstFree l : Int), (l.getD (firstFree l) slotZ).1) else if l.length < 60 then ((l.length : Int), 0) else (0, 0)
def takeE (l : List (Int × Bool)) : Int := if firstFree l < l.length then 0 else if l.length < 60 then 0 else 2
def liveB (l : List (Int × Bool)) (a b : Int) : Bool := inB a 0 (l.length - 1) && ((l.getD a.toNat slotZ).1 == b && (l.getD a.toNat slotZ).2)
def freeL (l : List (Int × Bool)) (a b : Int) : List (Int × Bool) := if liveB l a b then l.set a.toNat (b + 1, false) else l
def freeE (l : List (Int × Bool)) (a b : Int) : Int := if liveB l a b then 0 else 7
/-- handles of the live ones among the first k -/
def allTo (l : List (Int × Bool)) : Nat → List (Int × Int)
  | 0 => []
  | k + 1 => if (l.getD k slotZ).2 then allTo l k ++ [((k : Int), (l.getD k slotZ).1)] else allTo l k
def allL (l : List (Int × Bool)) : List (Int × Int) := allTo l l.length
def gensL (l : List (Int × Bool)) : List Int := l.map (·.1)
/-- what slots are always like -/
structure SlotOk (l : List (Int × Bool)) : Prop where
  len : l.length ≤ 60
  gen : ∀ k, k < l.length → 0 ≤ (l.getD k slotZ).1 ∧ (l.getD k slotZ).1 ≤ 1000000
  live : ∀ k, k < l.length → (l.getD k slotZ).2 = true → (l.getD k slotZ).1 < 1000000

theorem firstFree_le (l : List (Int × Bool)) : firstFree l ≤ l.length := List.findIdx_le_length
theorem firstFree_lt {l : List (Int × Bool)} (h : firstFree l < l.length) : freeB (l.getD (firstFree l) slotZ) = true := by
  have := List.findIdx_getElem (p := freeB) (w := h)
  rw [List.getD_eq_getElem?_getD, List.getElem?_eq_getElem h]; exact this
theorem firstFree_not {l : List (Int × Bool)} {k : Nat} (h : k < firstFree l) : freeB (l.getD k slotZ) = false := by
  have hk := Nat.lt_of_lt_of_le h (firstFree_le l)
  have := List.not_of_lt_findIdx h
  rw [List.getD_eq_getElem?_getD, List.getElem?_eq_getElem hk]; simpa using this
theorem firstFree_eq {l : List (Int × Bool)} {k : Nat} (hk : k < l.length) (h : ∀ j, j < k → freeB (l.getD j slotZ) = false) (hf : freeB (l.getD k slotZ) = true) : firstFree l = k := by
  refine (List.findIdx_eq hk).2 ⟨?_, fun j hj => ?_⟩
  · rw [List.getD_eq_getElem?_getD, List.getElem?_eq_getElem hk] at hf; exact hf
  · have := h j hj
    rwa [List.getD_eq_getElem?_getD, List.getElem?_eq_getElem (by omega)] at this
theorem firstFree_none {l : List (Int × Bool)} (h : ∀ j, j < l.length → freeB (l.getD j slotZ) = false) : firstFree l = l.length := by
  rcases Nat.lt_or_ge (firstFree l) l.length with hl | hl
  · have := firstFree_lt hl; rw [h _ hl] at this; cases this
  · exact Nat.le_antisymm (firstFree_le l) hl
theorem allTo_len (l : List (Int × Bool)) : ∀ k, (allTo l k).length ≤ k
  | 0 => by simp [allTo]
  | k + 1 => by
    rw [allTo]; have := allTo_len l k
    split <;> simp <;> omega
theorem allL_len (l : List (Int × Bool)) : (allL l).length ≤ l.length := allTo_len l _

theorem getD_append_l {α : Type} (l m : List α) (k : Nat) (d : α) (h : k < l.length) : (l ++ m).getD k d = l.getD k d := by
  simp [List.getD_eq_getElem?_getD, List.getElem?_append_left h]
theorem getD_append_last {α : Type} (l : List α) (x d : α) : (l ++ [x]).getD l.length d = x := by simp [List.getD_eq_getElem?_getD]

theorem SlotOk.nil : SlotOk [] := ⟨by simp, by simp, by simp⟩
theorem SlotOk.set {l : List (Int × Bool)} (h : SlotOk l) {i : Nat} {x : Int × Bool} (h0 : 0 ≤ x.1) (h1 : x.1 ≤ 1000000) (h2 : x.2 = true → x.1 < 1000000) : SlotOk (l.set i x) := by
  refine ⟨by simpa using h.len, fun k hk => ?_, fun k hk => ?_⟩
  · by_cases e : i = k
    · subst e; rw [getD_set_eq _ _ _ _ (by simpa using hk)]; exact ⟨h0, h1⟩
    · rw [getD_set_ne _ _ _ e]; exact h.gen k (by simpa using hk)
  · by_cases e : i = k
    · subst e; rw [getD_set_eq _ _ _ _ (by simpa using hk)]; exact h2
    · rw [getD_set_ne _ _ _ e]; exact h.live k (by simpa using hk)
theorem SlotOk.take {l : List (Int × Bool)} (h : SlotOk l) : SlotOk (takeL l) := by
  unfold takeL
  split
  · rename_i hl
    have := firstFree_lt hl
    simp [freeB] at this
    exact h.set (h.gen _ hl).1 (h.gen _ hl).2 (fun _ => this.2)
  · split
    · refine ⟨by simp; omega, fun k hk => ?_, fun k hk => ?_⟩
      · rcases Nat.lt_or_ge k l.length with e | e
        · rw [getD_append_l _ _ _ _ e]; exact h.gen k e
        · obtain rfl : k = l.length := by simp at hk; omega
          rw [getD_append_last]; decide
      · rcases Nat.lt_or_ge k l.length with e | e
        · rw [getD_append_l _ _ _ _ e]; exact h.live k e
        · obtain rfl : k = l.length := by simp at hk; omega
          rw [getD_append_last]; decide
    · exact h
theorem liveB_iff {l : List (Int × Bool)} {a b : Int} : liveB l a b = true ↔ 0 ≤ a ∧ a < l.length ∧ l.getD a.toNat slotZ = (b, true) := by
  simp only [liveB, inB, Bool.and_eq_true, decide_eq_true_eq, beq_iff_eq, Prod.ext_iff]
  constructor
  · rintro ⟨⟨h0, h1⟩, h2⟩; exact ⟨h0, by omega, h2⟩
  · rintro ⟨h0, h1, h2⟩; exact ⟨⟨h0, by omega⟩, h2⟩
theorem SlotOk.free {l : List (Int × Bool)} (h : SlotOk l) (a b : Int) : SlotOk (freeL l a b) := by
  unfold freeL
  split
  · rename_i hl
    obtain ⟨h0, h1, h2⟩ := liveB_iff.1 hl
    have g := h.gen a.toNat (by omega)
    have v := h.live a.toNat (by omega)
    rw [h2] at g v
    simp at g v
    exact h.set (by simp; omega) (by simp; omega) (by simp)
  · exact h
theorem mem_allTo {l : List (Int × Bool)} {h : Int × Int} : ∀ {k : Nat}, k ≤ l.length → (h ∈ allTo l k ↔ 0 ≤ h.1 ∧ h.1 < k ∧ l.getD h.1.toNat slotZ = (h.2, true))
  | 0, _ => by simp [allTo]; omega
  | k + 1, hk => by
    have ih := mem_allTo (l := l) (h := h) (k := k) (by omega)
    have ex : ∀ x : Int × Bool, x = (x.1, x.2) := fun _ => rfl
    rw [allTo]
    by_cases e : h.1 = (k : Int)
    · have ek : h.1.toNat = k := by omega
      have no : ¬ h ∈ allTo l k := by rw [ih]; omega
      split
      · rename_i hl
        rw [List.mem_append, ek]
        simp only [no, false_or, List.mem_singleton, Prod.ext_iff, e, hl]
        constructor
        · intro hh; exact ⟨by omega, by omega, hh.2.symm, trivial⟩
        · intro hh; exact ⟨trivial, hh.2.2.1.symm⟩
      · rename_i hl
        rw [ek]
        simp only [no, false_iff, Prod.ext_iff]
        intro hh; exact hl hh.2.2.2
    · split
      · rw [List.mem_append, ih]
        have : ¬ h ∈ [((k : Int), (l.getD k slotZ).1)] := by
          simp only [List.mem_singleton, Prod.ext_iff]; exact fun hh => e hh.1
        simp only [this, or_false]
        constructor <;> (intro hh; exact ⟨hh.1, by omega, hh.2.2⟩)
      · rw [ih]
        constructor <;> (intro hh; exact ⟨hh.1, by omega, hh.2.2⟩)
theorem mem_allL {l : List (Int × Bool)} {a b : Int} : (a, b) ∈ allL l ↔ liveB l a b = true := by rw [allL, mem_allTo (Nat.le_refl _), liveB_iff]
end Go.Proofs.YtnmlapoiilckhaaDoor

/- The contracts of Count, List and of the reference's Rest, HasKind, Kinds and Eq. -/
namespace Go.Proofs.YtnmlapoiilckhaaDoor
set_option maxRecDepth 8000
open Go.RowKit

theorem rest_eq {n m : Int} (hm : 0 < m) : (n.tmod m < 0 → n.tmod m + m = n % m) ∧ (0 ≤ n.tmod m → n.tmod m = n % m) ∧ -m < n.tmod m ∧ n.tmod m < m := by
  have e := Int.tmod_eq_emod (a := n) (b := m)
  have h0 := Int.emod_nonneg n (show m ≠ 0 by omega)
  have h1 := Int.emod_lt_of_pos n hm
  split at e
  · omega
  · rename_i hd
    have hne : n % m ≠ 0 := fun h => hd (.inr (Int.dvd_of_emod_eq_zero h))
    omega

set_option maxHeartbeats 400000 in
theorem rest_any (n m : Int) (w : World) (hm : 0 < m) (hm' : m ≤ 1000000000000) :
    Calls Tryd.prog 66 #[.int .i64 n, .int .i64 m] w fun e w' => e = .returned (.int .i64 (n % m)) ∧ w = w' := by
  obtain ⟨r1, r2, b1, b2⟩ := rest_eq (n := n) hm
  have R1 := Lib.hid r1
  have R2 := Lib.hid r2
  clear r1 r2
  go_enter Tryd.func66, Tryd.ntmps66
  go_wp2
  all_goals go_ret
  · exact ⟨ret_int (R1.out ‹_›), rfl⟩
  · exact ⟨ret_int (R2.out ‹_›), rfl⟩

theorem hasKind_eq (m : Int) (k : Nat) (h : k < 8) : (m % 256 / 2 ^ k).tmod 2 = m / 2 ^ k % 2 := by
  have h0 : 0 ≤ m % 256 := by omega
  have hp := pow_pos2 k
  have hd : 0 ≤ m % 256 / 2 ^ k := Int.ediv_nonneg h0 (by omega)
  rw [Int.tmod_eq_emod_of_nonneg hd]
  match k, h with
  | 0, _ => omega
  | 1, _ => omega
  | 2, _ => omega
  | 3, _ => omega
  | 4, _ => omega
  | 5, _ => omega
  | 6, _ => omega
  | 7, _ => omega

set_option maxHeartbeats 400000 in
theorem refHasKind_any (m k : Int) (w : World) (h0 : 0 ≤ k) (h7 : k ≤ 7) :
    Calls Tryd.prog 59 #[.int .i64 m, .int .i64 k] w fun e w' => e = .returned (.bool (tb m k.toNat)) ∧ w = w' := by
  have HE := Lib.hid (hasKind_eq m k.toNat (by omega))
  have b0 : 0 ≤ m % 256 := by omega
  have b1 : m % 256 ≤ 255 := by omega
  obtain ⟨p1, p2⟩ := pow_le7 k.toNat (by omega)
  go_enter Tryd.func59, Tryd.ntmps59
  go_wp2_with fail
  refine (rest_any _ _ _ (by omega) (by omega)).mono ?_
  rintro e w' ⟨rfl, rfl⟩
  go_wp2_with fail
  refine (power_any _ _ (by omega) (by omega)).mono ?_
  rintro e w' ⟨rfl, rfl⟩
  go_wp2
  go_ret
  exact ⟨ret_bool (by rw [HE.out]; rfl), rfl⟩

theorem infoInt : (Tryd.prog.info? 3).map (fun i => (i.zero, i.size, i.bytes)) = some (some (.int .i64 0), 1, 8) := by kernel_rfl

/-- A slice of the call's own reads as its list. -/
theorem Ints.owns {w : World} {base : Nat} {e : TypeId} {v : Value} {zs : List Int} (h : w.ownsRow base e 1 v zs.length (zs.map (Value.int .i64))) : Ints w v zs := by
  obtain ⟨_, ⟨rfl, h0⟩ | ⟨g, cap, cur, rfl, hg, hh, hn, hcap, hsz, htake⟩⟩ := h
  · obtain rfl : zs = [] := List.length_eq_zero_iff.1 h0
    exact ⟨none, 0, rfl, by simp, by simp [maxLen], fun k hk => by simp at hk⟩
  · refine ⟨_, cap, rfl, hn, hcap, fun k hk => ⟨g, 0, rfl, (Array.getElem?_eq_some_iff.1 hh).1, ?_⟩⟩
    simp only [World.cell?, hh, Nat.zero_add]
    have e1 : cur[k]? = (cur.toList.take (zs.length * 1))[k]? := by simp [hk]
    have e2 : (zs.map (Value.int .i64))[k]? = some (.int .i64 (zs.getD k 0)) := by
      rw [List.getElem?_map, List.getElem?_eq_getElem hk, List.getD_eq_getElem?_getD, List.getElem?_eq_getElem hk]; rfl
    rw [e1, htake, e2]; rfl

theorem eq_of_getD {a b : List Int} (hl : a.length = b.length) (h : ∀ j, j < a.length → a.getD j 0 = b.getD j 0) : a = b := by
  refine List.ext_getElem hl fun j h1 h2 => ?_
  have := h j h1
  rwa [List.getD_eq_getElem?_getD, List.getD_eq_getElem?_getD, List.getElem?_eq_getElem h1, List.getElem?_eq_getElem h2] at this
theorem ne_of_getD {a b : List Int} {j : Nat} (h : a.getD j 0 ≠ b.getD j 0) : a ≠ b := fun e => h (by rw [e])

end Go.Proofs.YtnmlapoiilckhaaDoor

/- The contracts of CheckBeast and of the reference's BeastCheck: the first error of an entity. -/
namespace Go.Proofs.YtnmlapoiilckhaaDoor
set_option maxRecDepth 8000
open Go.RowKit

/-- an element of an array of eight ints that is written out -/
theorem index8 (v0 v1 v2 v3 v4 v5 v6 v7 : Int) (k : Nat) (h : k < 8) (w : World) : (Instr.index 29 (.agg #[.int .i64 v0, .int .i64 v1, .int .i64 v2, .int .i64 v3, .int .i64 v4, .int .i64 v5, .int .i64 v6, .int .i64 v7]) (.int .i64 (k : Int))).run Tryd.prog w = .ok (.int .i64 ([v0, v1, v2, v3, v4, v5, v6, v7].getD k 0)) w := by
  obtain rfl | rfl | rfl | rfl | rfl | rfl | rfl | rfl : k = 0 ∨ k = 1 ∨ k = 2 ∨ k = 3 ∨ k = 4 ∨ k = 5 ∨ k = 6 ∨ k = 7 := by omega
  all_goals kernel_rfl

set_option maxHeartbeats 2000000 in
theorem checkBeast_any (m v0 v1 v2 v3 v4 v5 v6 v7 : Int) (w : World) :
    Calls Tryd.prog 35 #[.agg #[.int .i64 m, .int .i64 v0, .int .i64 v1, .int .i64 v2, .int .i64 v3, .int .i64 v4, .int .i64 v5, .int .i64 v6, .int .i64 v7]] w fun e w' => e = .returned (.int .i64 (bErr m [v0, v1, v2, v3, v4, v5, v6, v7])) ∧ w.alloc (.cells #[.int .i64 m, .int .i64 v0, .int .i64 v1, .int .i64 v2, .int .i64 v3, .int .i64 v4, .int .i64 v5, .int .i64 v6, .int .i64 v7] 31) = w' := by
  have HIX := Lib.hid (index8 v0 v1 v2 v3 v4 v5 v6 v7)
  have HE : Hid ([v0, v1, v2, v3, v4, v5, v6, v7] = [v0, v1, v2, v3, v4, v5, v6, v7]) := Lib.hid rfl
  generalize [v0, v1, v2, v3, v4, v5, v6, v7] = vs at *
  clear HE
  cases hm : inB m 0 255
  · have HR := Lib.hid (bErr_kinds (vs := vs) hm)
    go_enter Tryd.func35, Tryd.ntmps35
    go_wp2_with (first | (go_at_call 46; refine (isSet_any _ _).mono ?_; rintro e w' ⟨rfl, rfl⟩))
    go_ret
    exact ⟨ret_int HR.out.symm, rfl⟩
  · have HM := Lib.hid hm
    go_enter Tryd.func35, Tryd.ntmps35
    go_wp2_with (first | (go_at_call 46; refine (isSet_any _ _).mono ?_; rintro e w' ⟨rfl, rfl⟩))
    go_loop [11] (fun i => ∃ k : Nat, k ≤ 8 ∧ i = .int .i64 k ∧ Hid (bTo m vs k = 0)) (fun i => 8 - (intOf i).toNat)
    case atStart => exact ⟨0, by omega, rfl, rfl⟩
    case round =>
      obtain ⟨k, hk, rfl, hb⟩ := hrel
      by_cases hlt : k < 8
      · have hix := HIX.out k hlt
        have HS : Hid (∀ c, bStep m k (vs.getD k 0) = c → c ≠ 0 → bErr m vs = c) := Lib.hid (fun c h1 h2 => bErr_stop HM.out hb.out hlt h1 h2)
        have HN := Lib.hid (bTo_next hb.out)
        generalize vs.getD k 0 = x at *
        cases h1 : tb m k <;> cases h2 : (x != 0) <;> cases h3 : inB x (-1000000000) 1000000000
        all_goals
          have HB := Lib.hid (bStep_eq h1 h2 h3)
          first | obtain ⟨b1, b2⟩ := inB_t h3 | (rcases inB_f h3 with b1 | b1)
          all_goals
            clear h3
            go_wp2_with (first | (go_at_call 47; refine (has_any _ _ _ (by omega) (by omega)).mono ?_; rintro e w' ⟨rfl, rfl⟩; rw [Int.toNat_natCast]))
            first
              | (go_ret; exact ⟨ret_int (HS.out _ HB.out (by decide)).symm, rfl⟩)
              | (go_round
                 case rel => exact ⟨k + 1, by omega, by go_num, by rw [HN.out, HB.out]; rfl⟩
                 case measure => simp [intOf]; omega)
      · obtain rfl : k = 8 := by omega
        have HR := Lib.hid (bErr_end HM.out hb.out)
        go_wp2
        go_ret
        exact ⟨ret_int HR.out.symm, rfl⟩
set_option maxHeartbeats 2000000 in
theorem refBeastCheck_any (m v0 v1 v2 v3 v4 v5 v6 v7 : Int) (w : World) :
    Calls Tryd.prog 42 #[.agg #[.int .i64 m, .int .i64 v0, .int .i64 v1, .int .i64 v2, .int .i64 v3, .int .i64 v4, .int .i64 v5, .int .i64 v6, .int .i64 v7]] w fun e w' => e = .returned (.int .i64 (bErr m [v0, v1, v2, v3, v4, v5, v6, v7])) ∧ w.alloc (.cells #[.int .i64 m, .int .i64 v0, .int .i64 v1, .int .i64 v2, .int .i64 v3, .int .i64 v4, .int .i64 v5, .int .i64 v6, .int .i64 v7] 31) = w' := by
  have HIX := Lib.hid (index8 v0 v1 v2 v3 v4 v5 v6 v7)
  have HE : Hid ([v0, v1, v2, v3, v4, v5, v6, v7] = [v0, v1, v2, v3, v4, v5, v6, v7]) := Lib.hid rfl
  generalize [v0, v1, v2, v3, v4, v5, v6, v7] = vs at *
  clear HE
  cases hm : inB m 0 255
  · have HR := Lib.hid (bErr_kinds (vs := vs) hm)
    go_enter Tryd.func42, Tryd.ntmps42
    go_wp2_with (first | (go_at_call 41; refine (outside_any _ _ _ _).mono ?_; rintro e w' ⟨rfl, rfl⟩))
    go_ret
    exact ⟨ret_int HR.out.symm, rfl⟩
  · have HM := Lib.hid hm
    go_enter Tryd.func42, Tryd.ntmps42
    go_wp2_with (first | (go_at_call 41; refine (outside_any _ _ _ _).mono ?_; rintro e w' ⟨rfl, rfl⟩))
    go_loop [10] (fun i => ∃ k : Nat, k ≤ 8 ∧ i = .int .i64 k ∧ Hid (bTo m vs k = 0)) (fun i => 8 - (intOf i).toNat)
    case atStart => exact ⟨0, by omega, rfl, rfl⟩
    case round =>
      obtain ⟨k, hk, rfl, hb⟩ := hrel
      by_cases hlt : k < 8
      · have hix := HIX.out k hlt
        have HS : Hid (∀ c, bStep m k (vs.getD k 0) = c → c ≠ 0 → bErr m vs = c) := Lib.hid (fun c h1 h2 => bErr_stop HM.out hb.out hlt h1 h2)
        have HN := Lib.hid (bTo_next hb.out)
        generalize vs.getD k 0 = x at *
        cases h1 : tb m k <;> cases h2 : (x != 0) <;> cases h3 : inB x (-1000000000) 1000000000
        all_goals
          have HB := Lib.hid (bStep_eq h1 h2 h3)
          all_goals
            go_wp2_with (first | (go_at_call 59; refine (refHasKind_any _ _ _ (by omega) (by omega)).mono ?_; rintro e w' ⟨rfl, rfl⟩; rw [Int.toNat_natCast]) | (go_at_call 41; refine (outside_any _ _ _ _).mono ?_; rintro e w' ⟨rfl, rfl⟩))
            first
              | (go_ret; exact ⟨ret_int (HS.out _ HB.out (by decide)).symm, rfl⟩)
              | (go_round
                 case rel => exact ⟨k + 1, by omega, by go_num, by rw [HN.out, HB.out]; rfl⟩
                 case measure => simp [intOf]; omega)
      · obtain rfl : k = 8 := by omega
        have HR := Lib.hid (bErr_end HM.out hb.out)
        go_wp2
        go_ret
        exact ⟨ret_int HR.out.symm, rfl⟩
end Go.Proofs.YtnmlapoiilckhaaDoor

/- Elements of one or two cells: ints, bools, handles; own slices of them, opened. -/
namespace Go.Proofs.YtnmlapoiilckhaaDoor
open Go.RowKit

def elHand : El (Int × Int) := { enc := fun x => [.int .i64 x.1, .int .i64 x.2], size := 2, zero := (0, 0), len := fun _ => rfl, pos := by decide, one := fun x u hu => by simp at hu; rcases hu with rfl | rfl <;> rfl }
def elInt : El Int := { enc := fun x => [.int .i64 x], size := 1, zero := 0, len := fun _ => rfl, pos := by decide, one := fun x u hu => by simp at hu; subst hu; rfl }
def elBool : El Bool := { enc := fun x => [.bool x], size := 1, zero := false, len := fun _ => rfl, pos := by decide, one := fun x u hu => by simp at hu; subst hu; rfl }
/-- The cells of slice elements of two cells, in the walk's own spelling. -/
theorem cells2 {α : Type} {E : El α} (hE : E.size = 2) {w : World} {b off n : Nat} {xs : List α} (h : ∀ k, k < n → ∀ j, j < E.size → w.cell? ⟨b, off + k * E.size + j, none⟩ = (E.enc (xs.getD k E.zero))[j]?) {k : Nat} (hk : k < n) :
    w.cell? ⟨b, off + k * 2, none⟩ = (E.enc (xs.getD k E.zero))[0]? ∧ w.cell? ⟨b, off + k * 2 + 1, none⟩ = (E.enc (xs.getD k E.zero))[1]? := by
  have h0 := h k hk 0 (by omega)
  have h1 := h k hk 1 (by omega)
  rw [hE] at h0 h1
  exact ⟨h0, h1⟩
/-- An own slice, opened: its block, its cells, none frozen. -/
theorem Owns.open2 {α : Type} {E : El α} (hE : E.size = 2) {w : World} {T : TypeId} {v : Value} {xs : List α} (h : Owns E w T v xs) {k : Nat} (hk : k < xs.length) :
    ∃ g cap, v = .slice (some ⟨g, 0, none⟩) xs.length cap ∧ g < w.heap.size ∧ xs.length ≤ maxLen ∧ w.cell? ⟨g, k * 2, none⟩ = (E.enc (xs.getD k E.zero))[0]? ∧ w.cell? ⟨g, k * 2 + 1, none⟩ = (E.enc (xs.getD k E.zero))[1]? ∧ ∀ j, w.frozen? ⟨g, j, none⟩ = false := by
  rcases h.form with ⟨rfl, rfl⟩ | ⟨g, cap, cur, rfl, hh, hg, hn, hcap, hsz⟩
  · simp at hk
  · have c := fun j (hj : j < xs.length * E.size) => World.ownsRow.cellAt h j hj
    have h0 := enc_at E xs k 0 hk (by omega)
    have h1 := enc_at E xs k 1 hk (by omega)
    rw [hE] at h0 h1 c
    exact ⟨g, cap, rfl, hg, by omega, by rw [c _ (by omega), ← h0]; rfl, by rw [c _ (by omega), ← h1], fun j => frozen_of_row _ _ _ _ _ hh⟩
theorem infoHand : (Tryd.prog.info? 28).map (fun i => (i.zero, i.size, i.bytes)) = some (some (.agg #[.int .i64 0, .int .i64 0]), 2, 16) := by kernel_rfl
theorem flatMap_int (xs : List Int) : xs.flatMap elInt.enc = xs.map (Value.int .i64) := by
  induction xs with
  | nil => rfl
  | cons x xs ih => rw [List.flatMap_cons, ih]; rfl
theorem Ints.ofReads {w : World} {v : Value} {xs : List Int} (h : Reads elInt w v xs) : Ints w v xs := by
  obtain ⟨a, cap, rfl, hl, hm, h⟩ := h
  refine ⟨a, cap, rfl, hl, hm, fun k hk => ?_⟩
  obtain ⟨b, off, e, hb, hc⟩ := h k hk
  have := hc 0 (by decide)
  simp [elInt] at this
  exact ⟨b, off, e, hb, by simpa using this⟩
/-- A cell of an own slice of elements of one cell. -/
theorem OwnsF.open1 {α : Type} {E : El α} (hE : E.size = 1) {w : World} {B : Nat} {T : TypeId} {g n cap : Nat} {xs : List α} (h : OwnsF E w B T (.slice (some ⟨g, 0, none⟩) n cap) xs) {k : Nat} (hk : k < xs.length) :
    w.cell? ⟨g, k, none⟩ = (E.enc (xs.getD k E.zero))[0]? ∧ w.frozen? ⟨g, k, none⟩ = false ∧ g < w.heap.size := by
  have h' := h.owns
  rcases h'.form with ⟨e, _⟩ | ⟨g', cap', cur, e, hh, hg, hn, hcap, hsz⟩
  · cases e
  · simp only [Value.slice.injEq, Option.some.injEq, Addr.mk.injEq, and_true] at e
    obtain ⟨rfl, rfl, rfl⟩ := e
    have h0 := enc_at E xs k 0 hk (by omega)
    rw [hE] at h0
    have c := World.ownsRow.cellAt h' k (by rw [hE]; omega)
    refine ⟨by rw [c, ← h0]; simp, frozen_of_row _ _ _ _ _ hh, hg⟩
theorem OwnsF.stored1 {α : Type} {E : El α} (hE : E.size = 1) {w : World} {B : Nat} {T : TypeId} {g n cap : Nat} {xs : List α} (h : OwnsF E w B T (.slice (some ⟨g, 0, none⟩) n cap) xs) (k : Nat) (x : α) (u : Value)
    (hk : k < xs.length) (hx : E.enc x = (E.enc (xs.getD k E.zero)).set 0 u) : OwnsF E (w.setCell ⟨g, k, none⟩ u) B T (.slice (some ⟨g, 0, none⟩) n cap) (xs.set k x) := by
  have := h.stored k 0 x u hk (by omega) hx
  rwa [hE, Nat.mul_one, Nat.add_zero] at this
theorem OwnsF.weaken {α : Type} {E : El α} {w : World} {B B' : Nat} {T : TypeId} {v : Value} {xs : List α} (h : OwnsF E w B' T v xs) (hB : B ≤ B') : OwnsF E w B T v xs := by
  refine ⟨h.1, ?_⟩
  rcases h.2 with hn | ⟨g, cap, cur, rfl, hb, rest⟩
  · exact .inl hn
  · exact .inr ⟨g, cap, cur, rfl, Nat.le_trans hB hb, rest⟩
theorem addr_add' (b off i : Nat) : (⟨b, off, none⟩ : Addr).add i = ⟨b, off + i, none⟩ := by
  unfold Addr.add; split <;> simp_all
theorem cells1 {α : Type} {E : El α} (hE : E.size = 1) {w : World} {b off n : Nat} {xs : List α} (h : ∀ k, k < n → ∀ j, j < E.size → w.cell? ⟨b, off + k * E.size + j, none⟩ = (E.enc (xs.getD k E.zero))[j]?) {k : Nat} (hk : k < n) :
    w.cell? ⟨b, off + k, none⟩ = (E.enc (xs.getD k E.zero))[0]? := by
  have h0 := h k hk 0 (by omega)
  rwa [hE, Nat.mul_one, Nat.add_zero] at h0
/-- Behind an append onto v: what has become of a world that it began in. -/
structure Grew (W w1 : World) (v : Value) (g : Nat) : Prop where
  os : w1.os = W.os
  tape : w1.tape = W.tape
  output : w1.output = W.output
  size : W.heap.size ≤ w1.heap.size
  far : ∀ b, b < W.heap.size → v.ownBlock ≠ some b → w1.heap[b]? = W.heap[b]?
  at_ : v.ownBlock = some g ∨ W.heap.size ≤ g
  lt : g < w1.heap.size
theorem Grew.of {W x w1 : World} {v : Value} {g : Nat} (hb : Below W.heap.size W x) (hg : x.grownBy w1 v.ownBlock) (hat : v.ownBlock = some g ∨ g = x.heap.size) (hlt : g < w1.heap.size) : Grew W w1 v g :=
  ⟨hg.os.trans hb.os, hg.tape.trans hb.tape, hg.output.trans hb.output, Nat.le_trans hb.size hg.size, fun b hb' hne => by rw [hg.block b (Nat.lt_of_lt_of_le hb' hb.size) (Ne.symm hne), hb.block b hb'],
    hat.imp id (fun e => by rw [e]; exact hb.size), hlt⟩
theorem Grew.new {W x w1 : World} {v : Value} (hv : ∀ b, v.ownBlock = some b → b < W.heap.size) (hg : x.grownBy w1 v.ownBlock) {b : Nat} {o : Obj} (hb : W.heap.size ≤ b) (h : x.heap[b]? = some o) : w1.heap[b]? = some o := by
  rw [hg.block b (Array.getElem?_eq_some_iff.1 h).1 (fun e => by have := hv b e.symm; omega)]; exact h
theorem ownsRow_block {w w' : World} {B : Nat} {e : TypeId} {size : Nat} {v : Value} {n : Nat} {xs : List Value} (h : w.ownsRow B e size v n xs) (hb : ∀ g, v.ownBlock = some g → w'.heap[g]? = w.heap[g]?) : w'.ownsRow B e size v n xs := by
  refine ⟨h.1, ?_⟩
  rcases h.2 with hn | ⟨g, cap, cur, rfl, hB, hgg, rest⟩
  · exact .inl hn
  · exact .inr ⟨g, cap, cur, rfl, hB, by rw [hb g rfl]; exact hgg, rest⟩
theorem Grew.kept {W w1 : World} {v : Value} {g : Nat} {F : Nat → Prop} (h : Grew W w1 v g) (hv : ∀ b, v.ownBlock = some b → F b) : Kept F W w1 :=
  ⟨h.os, h.tape, h.output, h.size, fun b hb hf => h.far b hb (fun e => hf (hv b e))⟩
theorem Owns.isC {α : Type} {E : El α} {w : World} {T : TypeId} {v : Value} {xs : List α} (h : Owns E w T v xs) {k : Nat} (hk : v.ownBlock = some k) : ∃ c, w.heap[k]? = some (.cells c T (0, 0)) := by
  rcases h.form with ⟨rfl, _⟩ | ⟨g, cap, cur, rfl, hh, _⟩
  · simp [Value.ownBlock] at hk
  · simp [Value.ownBlock] at hk
    exact ⟨cur, hk ▸ hh⟩
/-- A block of cells. -/
def CellsAt (w : World) (b : Nat) : Prop := ∃ cs T z, w.heap[b]? = some (.cells cs T z)
/-- All blocks of F from n on are cells. -/
def NewC (n : Nat) (w : World) (F : Nat → Prop) : Prop := ∀ b, F b → b < n ∨ CellsAt w b
theorem NewC.lt {n : Nat} {w : World} {F : Nat → Prop} (h : ∀ b, F b → b < n) : NewC n w F := fun b hb => .inl (h b hb)
theorem CellsAt.kept {w w' : World} {b : Nat} {H : Nat → Prop} (h : CellsAt w b) (hk : Kept H w w') (hn : ¬ H b) : CellsAt w' b := by
  obtain ⟨cs, T, z, h⟩ := h
  exact ⟨cs, T, z, by rw [hk.block b (Array.getElem?_eq_some_iff.1 h).1 hn]; exact h⟩
end Go.Proofs.YtnmlapoiilckhaaDoor

/- A region that draws its order, whose operations read old memory and whose calls make new memory only: one walk in the order of the text serves every order, in the class of worlds that keep all that was there. -/
namespace Go.Proofs.YtnmlapoiilckhaaDoor
open Go.RowKit

/-- The worlds that keep all blocks of w. -/
def Later (w : World) : Type := { x : World // Below w.heap.size w x }
def Later.w {w : World} (x : Later w) : World := x.val
theorem Later.below {w : World} (x : Later w) : Below w.heap.size w x.w := x.property
theorem Later.cell {w : World} (x : Later w) {b o : Nat} {v : Value} (h : w.cell? ⟨b, o, none⟩ = some v) : x.w.cell? ⟨b, o, none⟩ = some v := by
  rw [x.below.cell (p := ⟨b, o, none⟩) (World.block_lt_of_cell? _ _ h)]; exact h

instance (w : World) : Nonempty (Later w) := ⟨⟨w, Below.refl _ _⟩⟩

theorem wp_region_later {P : Program} {id : Nat} {Q : Exit → Act → World → Prop} {a : Act} {w : World} {l : List Oper} (hm : P.follows .mixedOrders = true) (hB : Region.lexB .any l.toArray = true)
    (h : wpQuiet P l.toArray (fun w' => ∃ n : Later w, w' = n.w) (fun a' => ∀ w', (∃ n : Later w, w' = n.w) → Q .normal a' w') l a) : (Code.region id l.toArray true).wp P Q a w :=
  wp_region_quiet (C := fun w' => ∃ n : Later w, w' = n.w) hm hB ⟨⟨w.drew, (Below.refl _ _).drew⟩, rfl⟩ (by simpa using h)

/-- A callee that makes new memory only, met in any such world. -/
theorem Calls.later {P : Program} {f : FuncId} {args : Array Value} {w : World} {n : Later w} {v : Value}
    (h : Calls P f args n.w fun e w' => e = .returned v ∧ Below n.w.heap.size n.w w') : Calls P f args n.w fun e w'' => e = .returned v ∧ ∃ m : Later w, w'' = m.w :=
  h.mono fun _ w' ⟨he, hb⟩ => ⟨he, ⟨w', n.below.trans (hb.mono n.below.size)⟩, rfl⟩
end Go.Proofs.YtnmlapoiilckhaaDoor

/- The cells of a block that is known whole: a handle's, a beast's, a row's. -/
namespace Go.Proofs.YtnmlapoiilckhaaDoor
open Go.RowKit

section
variable {X : World} {B O : Nat} {T : TypeId}
theorem hCells {a b : Int} (h : X.heap[B]? = some (.cells #[.int .i64 a, .int .i64 b] T)) : X.cell? ⟨B, 0, none⟩ = some (.int .i64 a) ∧ X.cell? ⟨B, 1, none⟩ = some (.int .i64 b) := by
  refine ⟨?_, ?_⟩ <;> (rw [cell_of_row _ _ _ _ _ _ h]; rfl)
theorem bCells {m : Int} {f : Nat → Int} (h : X.heap[B]? = some (.cells #[.int .i64 m, .int .i64 (f 0), .int .i64 (f 1), .int .i64 (f 2), .int .i64 (f 3), .int .i64 (f 4), .int .i64 (f 5), .int .i64 (f 6), .int .i64 (f 7)] T)) : X.cell? ⟨B, 0, none⟩ = some (.int .i64 m) ∧ X.cell? ⟨B, 1, none⟩ = some (.int .i64 (f 0)) ∧ X.cell? ⟨B, 2, none⟩ = some (.int .i64 (f 1)) ∧ X.cell? ⟨B, 3, none⟩ = some (.int .i64 (f 2)) ∧ X.cell? ⟨B, 4, none⟩ = some (.int .i64 (f 3)) ∧ X.cell? ⟨B, 5, none⟩ = some (.int .i64 (f 4)) ∧ X.cell? ⟨B, 6, none⟩ = some (.int .i64 (f 5)) ∧ X.cell? ⟨B, 7, none⟩ = some (.int .i64 (f 6)) ∧ X.cell? ⟨B, 8, none⟩ = some (.int .i64 (f 7)) := by
  refine ⟨?_, ?_, ?_, ?_, ?_, ?_, ?_, ?_, ?_⟩ <;> (rw [cell_of_row _ _ _ _ _ _ h]; rfl)
theorem bCells0  (h : X.heap[B]? = some (.cells #[.int .i64 0, .int .i64 0, .int .i64 0, .int .i64 0, .int .i64 0, .int .i64 0, .int .i64 0, .int .i64 0, .int .i64 0] T)) : X.cell? ⟨B, 0, none⟩ = some (.int .i64 0) ∧ X.cell? ⟨B, 1, none⟩ = some (.int .i64 0) ∧ X.cell? ⟨B, 2, none⟩ = some (.int .i64 0) ∧ X.cell? ⟨B, 3, none⟩ = some (.int .i64 0) ∧ X.cell? ⟨B, 4, none⟩ = some (.int .i64 0) ∧ X.cell? ⟨B, 5, none⟩ = some (.int .i64 0) ∧ X.cell? ⟨B, 6, none⟩ = some (.int .i64 0) ∧ X.cell? ⟨B, 7, none⟩ = some (.int .i64 0) ∧ X.cell? ⟨B, 8, none⟩ = some (.int .i64 0) := by
  refine ⟨?_, ?_, ?_, ?_, ?_, ?_, ?_, ?_, ?_⟩ <;> (rw [cell_of_row _ _ _ _ _ _ h]; rfl)
theorem rCells {r : Rw} (h : X.heap[B]? = some (.cells #[.int .i64 r.s, .int .i64 r.g, .int .i64 r.m, .int .i64 (r.f 0), .int .i64 (r.f 1), .int .i64 (r.f 2), .int .i64 (r.f 3), .int .i64 (r.f 4), .int .i64 (r.f 5), .int .i64 (r.f 6), .int .i64 (r.f 7)] T)) : X.cell? ⟨B, 0, none⟩ = some (.int .i64 r.s) ∧ X.cell? ⟨B, 1, none⟩ = some (.int .i64 r.g) ∧ X.cell? ⟨B, 2, none⟩ = some (.int .i64 r.m) ∧ X.cell? ⟨B, 3, none⟩ = some (.int .i64 (r.f 0)) ∧ X.cell? ⟨B, 4, none⟩ = some (.int .i64 (r.f 1)) ∧ X.cell? ⟨B, 5, none⟩ = some (.int .i64 (r.f 2)) ∧ X.cell? ⟨B, 6, none⟩ = some (.int .i64 (r.f 3)) ∧ X.cell? ⟨B, 7, none⟩ = some (.int .i64 (r.f 4)) ∧ X.cell? ⟨B, 8, none⟩ = some (.int .i64 (r.f 5)) ∧ X.cell? ⟨B, 9, none⟩ = some (.int .i64 (r.f 6)) ∧ X.cell? ⟨B, 10, none⟩ = some (.int .i64 (r.f 7)) := by
  refine ⟨?_, ?_, ?_, ?_, ?_, ?_, ?_, ?_, ?_, ?_, ?_⟩ <;> (rw [cell_of_row _ _ _ _ _ _ h]; rfl)
theorem lRow {r : Rw} (h : ∀ j, j < 11 → X.cell? ⟨B, O + j, none⟩ = (elRow.enc r)[j]?) : X.cell? ⟨B, O, none⟩ = some (.int .i64 r.s) ∧ X.cell? ⟨B, O + 1, none⟩ = some (.int .i64 r.g) ∧ X.cell? ⟨B, O + 2, none⟩ = some (.int .i64 r.m) ∧ X.cell? ⟨B, O + 3, none⟩ = some (.int .i64 (r.f 0)) ∧ X.cell? ⟨B, O + 4, none⟩ = some (.int .i64 (r.f 1)) ∧ X.cell? ⟨B, O + 5, none⟩ = some (.int .i64 (r.f 2)) ∧ X.cell? ⟨B, O + 6, none⟩ = some (.int .i64 (r.f 3)) ∧ X.cell? ⟨B, O + 7, none⟩ = some (.int .i64 (r.f 4)) ∧ X.cell? ⟨B, O + 8, none⟩ = some (.int .i64 (r.f 5)) ∧ X.cell? ⟨B, O + 9, none⟩ = some (.int .i64 (r.f 6)) ∧ X.cell? ⟨B, O + 10, none⟩ = some (.int .i64 (r.f 7)) :=
  ⟨h 0 (by decide), h 1 (by decide), h 2 (by decide), h 3 (by decide), h 4 (by decide), h 5 (by decide), h 6 (by decide), h 7 (by decide), h 8 (by decide), h 9 (by decide), h 10 (by decide)⟩
theorem laterR {r : Rw} (h : X.heap[B]? = some (.cells #[.int .i64 r.s, .int .i64 r.g, .int .i64 r.m, .int .i64 (r.f 0), .int .i64 (r.f 1), .int .i64 (r.f 2), .int .i64 (r.f 3), .int .i64 (r.f 4), .int .i64 (r.f 5), .int .i64 (r.f 6), .int .i64 (r.f 7)] T)) : (∀ x : Later X, x.w.cell? ⟨B, 0, none⟩ = some (.int .i64 r.s)) ∧ (∀ x : Later X, x.w.cell? ⟨B, 1, none⟩ = some (.int .i64 r.g)) ∧ (∀ x : Later X, x.w.cell? ⟨B, 2, none⟩ = some (.int .i64 r.m)) ∧ (∀ x : Later X, x.w.cell? ⟨B, 3, none⟩ = some (.int .i64 (r.f 0))) ∧ (∀ x : Later X, x.w.cell? ⟨B, 4, none⟩ = some (.int .i64 (r.f 1))) ∧ (∀ x : Later X, x.w.cell? ⟨B, 5, none⟩ = some (.int .i64 (r.f 2))) ∧ (∀ x : Later X, x.w.cell? ⟨B, 6, none⟩ = some (.int .i64 (r.f 3))) ∧ (∀ x : Later X, x.w.cell? ⟨B, 7, none⟩ = some (.int .i64 (r.f 4))) ∧ (∀ x : Later X, x.w.cell? ⟨B, 8, none⟩ = some (.int .i64 (r.f 5))) ∧ (∀ x : Later X, x.w.cell? ⟨B, 9, none⟩ = some (.int .i64 (r.f 6))) ∧ (∀ x : Later X, x.w.cell? ⟨B, 10, none⟩ = some (.int .i64 (r.f 7))) := by
  refine ⟨?_, ?_, ?_, ?_, ?_, ?_, ?_, ?_, ?_, ?_, ?_⟩ <;> exact fun x => x.cell (by rw [cell_of_row _ _ _ _ _ _ h]; rfl)
theorem laterB {m : Int} {f : Nat → Int} (h : X.heap[B]? = some (.cells #[.int .i64 m, .int .i64 (f 0), .int .i64 (f 1), .int .i64 (f 2), .int .i64 (f 3), .int .i64 (f 4), .int .i64 (f 5), .int .i64 (f 6), .int .i64 (f 7)] T)) : (∀ x : Later X, x.w.cell? ⟨B, 0, none⟩ = some (.int .i64 m)) ∧ (∀ x : Later X, x.w.cell? ⟨B, 1, none⟩ = some (.int .i64 (f 0))) ∧ (∀ x : Later X, x.w.cell? ⟨B, 2, none⟩ = some (.int .i64 (f 1))) ∧ (∀ x : Later X, x.w.cell? ⟨B, 3, none⟩ = some (.int .i64 (f 2))) ∧ (∀ x : Later X, x.w.cell? ⟨B, 4, none⟩ = some (.int .i64 (f 3))) ∧ (∀ x : Later X, x.w.cell? ⟨B, 5, none⟩ = some (.int .i64 (f 4))) ∧ (∀ x : Later X, x.w.cell? ⟨B, 6, none⟩ = some (.int .i64 (f 5))) ∧ (∀ x : Later X, x.w.cell? ⟨B, 7, none⟩ = some (.int .i64 (f 6))) ∧ (∀ x : Later X, x.w.cell? ⟨B, 8, none⟩ = some (.int .i64 (f 7))) := by
  refine ⟨?_, ?_, ?_, ?_, ?_, ?_, ?_, ?_, ?_⟩ <;> exact fun x => x.cell (by rw [cell_of_row _ _ _ _ _ _ h]; rfl)
end
end Go.Proofs.YtnmlapoiilckhaaDoor

/- The contracts of the reference's Eq and Has over lists of handles. -/
namespace Go.Proofs.YtnmlapoiilckhaaDoor
open Go.RowKit

theorem nb_drewN {B n : Nat} {a w : World} (h : Below B a w) : Below B a (w.drewN n) := ⟨h.os, h.tape, h.output, h.size, h.block⟩
theorem eqD {α : Type} {a b : List α} {d : α} (hl : a.length = b.length) (h : ∀ j, j < a.length → a.getD j d = b.getD j d) : a = b := by
  refine List.ext_getElem hl fun j h1 h2 => ?_
  have := h j h1
  rwa [List.getD_eq_getElem?_getD, List.getD_eq_getElem?_getD, List.getElem?_eq_getElem h1, List.getElem?_eq_getElem h2] at this
theorem neD {α : Type} {a b : List α} {d : α} {j : Nat} (h : a.getD j d ≠ b.getD j d) : a ≠ b := fun e => h (by rw [e])
theorem memD {α : Type} {a : List α} {d : α} {j : Nat} (h : j < a.length) : a.getD j d ∈ a := by
  rw [List.getD_eq_getElem?_getD, List.getElem?_eq_getElem h]; exact List.getElem_mem h
theorem notMemD {α : Type} {a : List α} {d x : α} (h : ∀ j, j < a.length → a.getD j d ≠ x) : ¬ x ∈ a := fun hx => by
  obtain ⟨j, hj, e⟩ := List.getElem_of_mem hx
  refine h j hj ?_
  rw [List.getD_eq_getElem?_getD, List.getElem?_eq_getElem hj]; exact e

end Go.Proofs.YtnmlapoiilckhaaDoor

/- A type made of ints, structs and arrays alone: every cell of a value of it that can be read is an int of 64 bits. -/
namespace Go.Proofs.YtnmlapoiilckhaaDoor
open Go.ChangeShapes Go.WideShapes Go.ChangeAt Go.RowKit

/-- the fields lie one behind the other from 'off' to 'tot' -/
def coversB (P : Program) : List Field → Nat → Nat → Bool
  | [], off, tot => off == tot
  | f :: fs, off, tot => f.offset == off && coversB P fs (off + P.cellsOf f.type) tot
/-- ints, and structs and arrays of these, all cells taken -/
def flatB (P : Program) : Nat → TypeId → Bool
  | 0, _ => false
  | n + 1, t => match P.underlying t with
    | some (.int .i64) => true
    | some (.struct fs) => fs.toList.all (fun f => flatB P n f.type) && coversB P fs.toList 0 (P.cellsOf t)
    | some (.array k e) => flatB P n e && (k * P.cellsOf e == P.cellsOf t)
    | _ => false

theorem coversB_mem {P : Program} {tot : Nat} : ∀ (fs : List Field) (off i : Nat), coversB P fs off tot = true → off ≤ i → i < tot → ∃ f ∈ fs, f.offset ≤ i ∧ i < f.offset + P.cellsOf f.type
  | [], off, i, h, h1, h2 => by simp [coversB] at h; omega
  | f :: fs, off, i, h, h1, h2 => by
    simp [coversB] at h
    by_cases e : i < off + P.cellsOf f.type
    · exact ⟨f, by simp, by omega, by omega⟩
    · obtain ⟨g, hg, hh⟩ := coversB_mem fs _ i h.2 (by omega) h2
      exact ⟨g, by simp [hg], hh⟩

theorem flat_cells {H : Type} {enc : TypeId × Value → H} {P : Program} {W : World} {base : Nat} {sp : Nat → Bool} {held : Bool} :
    ∀ (m : Nat) (t : TypeId) (fuel : Nat) (cs : List Value) (x : DataW H × List MemPlace), flatB P m t = true → DataW.trod enc P W base sp held fuel t cs = some x → ∀ v ∈ cs, ∃ z, v = .int .i64 z ∧ I64 z
  | 0, t, fuel, cs, x, hf, h => by simp [flatB] at hf
  | m + 1, t, fuel, cs, x, hf, h => by
    rw [flatB] at hf
    split at hf
    · rename_i ht
      obtain ⟨n, rfl, _, wn⟩ := DataW.trod_int ht h
      intro v hv
      simp at hv
      exact ⟨n, hv, I64_of wn⟩
    · rename_i fs ht
      obtain ⟨xs, n, _, _, hl, hlen, hp⟩ := DataW.trod_struct ht h
      simp only [Bool.and_eq_true, List.all_eq_true] at hf
      intro v hv
      obtain ⟨i, hi, rfl⟩ := List.getElem_of_mem hv
      obtain ⟨f, hfm, h1, h2⟩ := coversB_mem _ 0 i hf.2 (by omega) (by omega)
      obtain ⟨j, hj, e⟩ := List.getElem_of_mem hfm
      have hj' : fs[j]? = some f := by simp at hj e; rw [Array.getElem?_eq_getElem hj, e]
      have hx := hp j f hj'
      have hjx : j < xs.length := by simp at hj; omega
      rw [List.getElem?_eq_getElem hjx] at hx
      refine flat_cells m f.type n _ _ (hf.1 f hfm) hx _ ?_
      refine List.mem_iff_getElem?.2 ⟨i - f.offset, ?_⟩
      rw [List.getElem?_take_of_lt (by omega), List.getElem?_drop, show f.offset + (i - f.offset) = i from by omega, List.getElem?_eq_getElem hi]
    · rename_i k e ht
      obtain ⟨xs, n, _, _, hl, hlen, hp⟩ := DataW.trod_array ht h
      simp only [Bool.and_eq_true, beq_iff_eq] at hf
      intro v hv
      obtain ⟨i, hi, rfl⟩ := List.getElem_of_mem hv
      have hpos : 0 < P.cellsOf e := by
        rcases Nat.eq_zero_or_pos (P.cellsOf e) with h0 | h0
        · rw [h0] at hf; omega
        · exact h0
      have hq : i / P.cellsOf e < k := by
        rw [Nat.div_lt_iff_lt_mul hpos]; omega
      have hx := hp (i / P.cellsOf e) hq
      rw [List.getElem?_eq_getElem (by omega)] at hx
      refine flat_cells m e n _ _ hf.1 hx _ ?_
      refine List.mem_iff_getElem?.2 ⟨i % P.cellsOf e, ?_⟩
      have hm := Nat.mod_lt i hpos
      have hd := Nat.div_add_mod i (P.cellsOf e)
      rw [List.getElem?_take_of_lt hm, List.getElem?_drop, show i / P.cellsOf e * P.cellsOf e + i % P.cellsOf e = i from by rw [Nat.mul_comm]; exact hd, List.getElem?_eq_getElem hi]
    · cases hf

theorem ints_of_cells : ∀ (cs : List Value), (∀ v ∈ cs, ∃ z, v = Value.int .i64 z ∧ I64 z) → ∃ zs : List Int, cs = zs.map (Value.int .i64) ∧ ∀ z ∈ zs, I64 z
  | [], _ => ⟨[], rfl, by simp⟩
  | v :: cs, h => by
    obtain ⟨z, rfl, hz⟩ := h v (by simp)
    obtain ⟨zs, rfl, hs⟩ := ints_of_cells cs (fun v hv => h v (by simp [hv]))
    exact ⟨z :: zs, rfl, by simpa using ⟨hz, hs⟩⟩

/-- A struct of ints, handed over by value. -/
theorem open_flat {H : Type} {enc : TypeId × Value → H} {P : Program} {W : World} {base b0 : Nat} {sp : Nat → Bool} {held : Bool} {r : Reach} {t : TypeId} {fs : Array Field} {v : Value} {d : DataW H} {p : List MemPlace} (m n : Nat)
    (ht : P.underlying t = some (.struct fs)) (hn : P.cellsOf t = n) (hf : flatB P m t = true) (hv : Value.okWide P W r b0 t v) (h : DataW.Trod enc P W base sp held t v d p) :
    ∃ zs : List Int, zs.length = n ∧ v = .agg (zs.map (Value.int .i64)).toArray ∧ ∀ z ∈ zs, I64 z := by
  obtain ⟨cs, rfl, hsz⟩ := okWide_struct ht hv
  obtain ⟨fuel, hh⟩ := h
  obtain ⟨zs, e, hz⟩ := ints_of_cells _ (flat_cells m t fuel _ _ hf hh)
  have e' : cs.toList = zs.map (Value.int .i64) := by simpa [Value.cells] using e
  refine ⟨zs, ?_, ?_, hz⟩
  · have := congrArg List.length e'
    simp at this; omega
  · rw [← e']
theorem list2 {zs : List Int} (h : zs.length = 2) : ∃ a b, zs = [a, b] := by
  match zs, h with
  | [a, b], _ => exact ⟨a, b, rfl⟩
theorem list16 {zs : List Int} (h : zs.length = 16) : ∃ v0 v1 v2 v3 v4 v5 v6 v7 v8 v9 v10 v11 v12 v13 v14 v15, zs = [v0, v1, v2, v3, v4, v5, v6, v7, v8, v9, v10, v11, v12, v13, v14, v15] := by
  match zs, h with
  | [v0, v1, v2, v3, v4, v5, v6, v7, v8, v9, v10, v11, v12, v13, v14, v15], _ => exact ⟨v0, v1, v2, v3, v4, v5, v6, v7, v8, v9, v10, v11, v12, v13, v14, v15, rfl⟩
theorem list9 {zs : List Int} (h : zs.length = 9) : ∃ m v0 v1 v2 v3 v4 v5 v6 v7, zs = [m, v0, v1, v2, v3, v4, v5, v6, v7] := by
  match zs, h with
  | [m, v0, v1, v2, v3, v4, v5, v6, v7], _ => exact ⟨m, v0, v1, v2, v3, v4, v5, v6, v7, rfl⟩
end Go.Proofs.YtnmlapoiilckhaaDoor

/- How slices that came in are opened: of elements that lie in cells by an encoding: handles, bools. -/
namespace Go.Proofs.YtnmlapoiilckhaaDoor
open Go.ChangeShapes Go.WideShapes Go.ChangeAt Go.RowKit Go.Deep

theorem list_of_index {α : Type} {p : Nat → α → Prop} : ∀ (n : Nat), (∀ i, i < n → ∃ x, p i x) → ∃ xs : List α, xs.length = n ∧ ∀ i x, xs[i]? = some x → p i x
  | 0, _ => ⟨[], rfl, by simp⟩
  | n + 1, h => by
    obtain ⟨xs, hl, hx⟩ := list_of_index n (fun i hi => h i (by omega))
    obtain ⟨x, hp⟩ := h n (by omega)
    refine ⟨xs ++ [x], by simp [hl], fun i y hy => ?_⟩
    rcases Nat.lt_or_ge i n with hi | hi
    · rw [List.getElem?_append_left (by omega)] at hy; exact hx i y hy
    · have : i = n := by have := (List.getElem?_eq_some_iff.1 hy).1; simp [hl] at this; omega
      subst this
      rw [List.getElem?_append_right (by omega), hl] at hy
      simp at hy; subst hy; exact hp

theorem addr_add (b off i : Nat) : (⟨b, off, none⟩ : Addr).add i = ⟨b, off + i, none⟩ := by
  unfold Addr.add; split <;> simp_all

theorem Reads_ofP {α : Type} (E : El α) (OK : α → Prop) {H : Type} {enc : TypeId × Value → H} {P : Program} {W : World} {base : Nat} {held : Bool} {T e : TypeId} {a : Option Addr} {len cap : Nat} {d : DataW H} {p : List MemPlace}
    (hT : P.underlying T = some (.slice e)) (hC : P.cellsOf e = E.size) (hdec : ∀ (fuel : Nat) (cs : List Value) x, cs.length = E.size → DataW.trod enc P W base (fun _ => true) held fuel e cs = some x → ∃ y : α, cs = E.enc y ∧ OK y)
    (h : DataW.Trod enc P W base (fun _ => true) held T (.slice a len cap) d p) : ∃ xs, Reads E W (.slice a len cap) xs ∧ ∀ x ∈ xs, OK x := by
  obtain ⟨fuel, hf⟩ := h
  rcases open_slice hT hf with ⟨hcs, _⟩ | ⟨x, l, c, m, n, D, Pl, hcs, _, hl, hm, hmm, _, hi⟩
  · simp [Value.cells] at hcs
    obtain ⟨rfl, rfl, rfl⟩ := hcs
    exact ⟨[], ⟨none, 0, rfl, by simp, by simp [maxLen], fun k hk => by simp at hk⟩, by simp⟩
  · simp [Value.cells] at hcs
    obtain ⟨rfl, rfl, rfl⟩ := hcs
    simp at hmm
    subst hmm
    have hex : ∀ i, i < len → ∃ y : α, (∀ j, j < E.size → W.cell? ((x.add (i * E.size)).add j) = (E.enc y)[j]?) ∧ OK y := fun i hil => by
      obtain ⟨cs', hc, ht⟩ := hi i (by omega)
      rw [hC] at hc
      obtain ⟨_, hlen, hat⟩ := World.cells?_some hc
      obtain ⟨y, rfl, hy⟩ := hdec _ _ _ hlen ht
      exact ⟨y, hat, hy⟩
    obtain ⟨xs, hxl, hx⟩ := list_of_index len hex
    refine ⟨xs, ⟨some x, m, by rw [hxl], by omega, hm, fun k hk => ?_⟩, fun y hy => ?_⟩
    · have hk' := (hx k xs[k] (List.getElem?_eq_getElem hk)).1
      have h0 := hk' 0 E.pos
      have hs : x.spot = none := by
        have hx0 := (hx 0 (xs[0]'(by omega)) (List.getElem?_eq_getElem (by omega))).1 0 E.pos
        have hh : W.cell? ((x.add (0 * E.size)).add 0) = some ((E.enc (xs[0]'(by omega)))[0]'(by rw [E.len]; exact E.pos)) := by rw [hx0, List.getElem?_eq_getElem]
        have := World.cell?_spot hh
        simpa [Addr.add] using this
      obtain ⟨b, off, spot⟩ := x
      simp only at hs
      subst hs
      have hg : xs.getD k E.zero = xs[k] := by rw [List.getD_eq_getElem?_getD, List.getElem?_eq_getElem hk]; rfl
      refine ⟨b, off, rfl, ?_, fun j hj => ?_⟩
      · have hh : W.cell? ((⟨b, off, none⟩ : Addr).add (k * E.size)) = some ((E.enc xs[k])[0]'(by rw [E.len]; exact E.pos)) := by
          have := h0; rw [addr_add, addr_add, Nat.add_zero] at this; rw [addr_add, this, List.getElem?_eq_getElem]
        rw [addr_add] at hh
        exact World.block_lt_of_cell? _ _ hh
      · have := hk' j hj
        rw [addr_add, addr_add] at this
        rw [hg]; exact this
    · obtain ⟨i, hi', rfl⟩ := List.getElem_of_mem hy
      exact (hx i _ (List.getElem?_eq_getElem hi')).2
theorem Reads_of {α : Type} (E : El α) {H : Type} {enc : TypeId × Value → H} {P : Program} {W : World} {base : Nat} {held : Bool} {T e : TypeId} {a : Option Addr} {len cap : Nat} {d : DataW H} {p : List MemPlace}
    (hT : P.underlying T = some (.slice e)) (hC : P.cellsOf e = E.size) (hdec : ∀ (fuel : Nat) (cs : List Value) x, cs.length = E.size → DataW.trod enc P W base (fun _ => true) held fuel e cs = some x → ∃ y : α, cs = E.enc y)
    (h : DataW.Trod enc P W base (fun _ => true) held T (.slice a len cap) d p) : ∃ xs, Reads E W (.slice a len cap) xs := by
  obtain ⟨xs, hx, _⟩ := Reads_ofP E (fun _ => True) hT hC (fun fuel cs x hl ht => by obtain ⟨y, e⟩ := hdec fuel cs x hl ht; exact ⟨y, e, trivial⟩) h
  exact ⟨xs, hx⟩

theorem hand_dec {H : Type} {enc : TypeId × Value → H} {W : World} {base : Nat} {sp : Nat → Bool} {held : Bool} (fuel : Nat) (cs : List Value) (x) (hl : cs.length = elHand.size) (h : DataW.trod enc Tryd.prog W base sp held fuel 28 cs = some x) : ∃ y, cs = elHand.enc y := by
  obtain ⟨zs, rfl, _⟩ := ints_of_cells cs (flat_cells 3 28 fuel cs x (by kernel_rfl) h)
  have hl' : zs.length = 2 := by simpa [elHand] using hl
  match zs, hl' with
  | [u, v], _ => exact ⟨(u, v), rfl⟩
theorem bool_dec {H : Type} {enc : TypeId × Value → H} {W : World} {base : Nat} {sp : Nat → Bool} {held : Bool} (fuel : Nat) (cs : List Value) (x) (_ : cs.length = elBool.size) (h : DataW.trod enc Tryd.prog W base sp held fuel 4 cs = some x) : ∃ y, cs = elBool.enc y := by
  obtain ⟨b, rfl, _⟩ := DataW.trod_bool Tryd.underlying4 h
  exact ⟨b, rfl⟩
end Go.Proofs.YtnmlapoiilckhaaDoor

/- The form's own reach: how long a slice that came in may be. -/
namespace Go.Proofs.YtnmlapoiilckhaaDoor
open Go.ChangeShapes Go.WideShapes Go.ChangeAt Go.RowKit Go.Deep

theorem trod_len {H : Type} {enc : TypeId × Value → H} {P : Program} {W : World} {base : Nat} {held : Bool} {T e : TypeId} {a : Option Addr} {len cap B : Nat} {d : DataW H} {p : List MemPlace}
    (hT : P.underlying T = some (.slice e)) (hB : P.bytesOf e = B) (h : DataW.Trod enc P W base (fun _ => true) held T (.slice a len cap) d p) (hs : ∀ elems spare, d = .slice elems spare → (elems.length + spare.length) * P.bytesOf e ≤ reachBytes) : len * B ≤ 140737488351232 := by
  obtain ⟨fuel, hf⟩ := h
  rcases open_slice hT hf with ⟨hcs, _⟩ | ⟨x, l, c, m, n, D, Pl, hcs, _, hl, hm, hmm, hx, hi⟩
  · simp [Value.cells] at hcs
    obtain ⟨rfl, rfl, rfl⟩ := hcs
    simp
  · simp [Value.cells] at hcs
    obtain ⟨rfl, rfl, rfl⟩ := hcs
    simp only [Prod.mk.injEq] at hx
    have := hs _ _ hx.1
    rw [hB] at this
    simp only [List.length_map, List.length_range] at this
    have e1 : len * B ≤ (len + (m - len)) * B := Nat.mul_le_mul_right _ (by omega)
    exact Nat.le_trans e1 (Nat.le_trans this (by decide))
end Go.Proofs.YtnmlapoiilckhaaDoor

/- Maps of the call's own: which keys they have, and what lies at each. -/
namespace Go.Proofs.YtnmlapoiilckhaaDoor
open Go.RowKit Go.Maps

/-- an element as it lies, whatever it is -/
def heldR (v : Value) : Option (DataW Value × List MemPlace) := some (.held v, [])

/-- How a key lies. -/
structure KeyEnc (α : Type) (k : TypeId) where
  val : α → Value
  ok : α → Prop
  lit : α → Lit
  law : Keyed Tryd.prog k
  key : ∀ a, ok a → keyOf Tryd.prog k (val a) = some (lit a)
  inj : ∀ a b, val a = val b → a = b
theorem KeyEnc.lit_inj {α : Type} {k : TypeId} (K : KeyEnc α k) {a b : α} (ha : K.ok a) (hb : K.ok b) (h : K.lit a = K.lit b) : a = b :=
  K.inj a b (K.law.inj (K.key a ha) (by rw [h]; exact K.key b hb))

/-- Block b is a map that has just the keys ks, and f a at the key a. -/
def MapIs {α : Type} {k : TypeId} (K : KeyEnc α k) (w : World) (b n : Nat) (ks : List α) (f : α → Value) : Prop :=
  ∃ D : DataW Value, w.ownsMap Tryd.prog k heldR b n D ∧ ks.Nodup ∧ (∀ a ∈ ks, K.ok a) ∧ (∀ kl, has D kl = true → ∃ a ∈ ks, kl = K.lit a) ∧ (∀ a ∈ ks, ∀ z, D.atKey (K.lit a) z = .held (f a)) ∧ size D = ks.length

theorem MapIs.new {α : Type} {k : TypeId} (K : KeyEnc α k) (w : World) (f : α → Value) : MapIs K (w.alloc (.map #[] 0)) w.heap.size 0 [] f :=
  ⟨.map [], World.ownsMap_made _ _ _ _, by simp, by simp, fun kl h => by simp [has] at h, by simp, rfl⟩
theorem MapIs.lt {α : Type} {k : TypeId} {K : KeyEnc α k} {w : World} {b n : Nat} {ks : List α} {f : α → Value} (h : MapIs K w b n ks f) : b < w.heap.size := by
  obtain ⟨D, ho, _⟩ := h; exact ho.lt
theorem MapIs.kept {α : Type} {k : TypeId} {K : KeyEnc α k} {w w' : World} {b n : Nat} {ks : List α} {f : α → Value} {F : Nat → Prop} (h : MapIs K w b n ks f) (hk : Kept F w w') (hf : ¬ F b) : MapIs K w' b n ks f := by
  obtain ⟨D, ho, r⟩ := h
  refine ⟨D, ?_, r⟩
  have hlt := ho.lt
  obtain ⟨es, clock, hb, rest⟩ := ho
  exact ⟨es, clock, by rw [hk.block b hlt hf]; exact hb, rest⟩
theorem MapIs.later {α : Type} {k : TypeId} {K : KeyEnc α k} {w w' : World} {b n : Nat} {ks : List α} {f : α → Value} (h : MapIs K w b n ks f) (hb : Below w.heap.size w w') : MapIs K w' b n ks f :=
  h.kept (F := fun _ => False) (Kept.ofBelow hb) id
/-- 'm[a]' -/
theorem MapIs.look {α : Type} [DecidableEq α] {k t e : TypeId} {K : KeyEnc α k} {w : World} {b n : Nat} {ks : List α} {f : α → Value} (h : MapIs K w b n ks f) (ht : Tryd.prog.underlying t = some (.map k e)) {z : Value} (hz : (zeroValue e).run Tryd.prog w = .ok z w) (a : α) (ha : K.ok a) :
    (Instr.lookup t (.map (some b)) (K.val a) false).run Tryd.prog w = .ok (if a ∈ ks then f a else z) w := by
  obtain ⟨D, ho, _, hok, hk, hat, _⟩ := h
  obtain ⟨v, ps, hrun, hv⟩ := ho.lookup (R := heldR) K.law ht hz (zd := .held z) (zp := []) rfl (K.key a ha)
  rw [hrun]
  have hv' : v = if a ∈ ks then f a else z := by
    simp only [heldR, Option.some.injEq, Prod.mk.injEq] at hv
    by_cases hm : a ∈ ks
    · rw [if_pos hm]
      have := hv.1
      rw [hat a hm] at this
      simpa using this
    · rw [if_neg hm]
      have hn : has D (K.lit a) = false := by
        cases hh : has D (K.lit a)
        · rfl
        · obtain ⟨a', ha', e⟩ := hk _ hh
          exact absurd (K.lit_inj ha (hok a' ha') e ▸ ha') hm
      have := hv.1
      rw [atKey_of_not_has hn] at this
      simpa using this
  rw [hv']
/-- 'v, ok := m[a]' -/
theorem MapIs.look2 {α : Type} [DecidableEq α] {k t e : TypeId} {K : KeyEnc α k} {w : World} {b n : Nat} {ks : List α} {f : α → Value} (h : MapIs K w b n ks f) (ht : Tryd.prog.underlying t = some (.map k e)) {z : Value} (hz : (zeroValue e).run Tryd.prog w = .ok z w) (a : α) (ha : K.ok a) :
    (Instr.lookup t (.map (some b)) (K.val a) true).run Tryd.prog w = .ok (.tuple #[if a ∈ ks then f a else z, .bool (decide (a ∈ ks))]) w := by
  obtain ⟨D, ho, _, hok, hk, hat, _⟩ := h
  obtain ⟨v, ps, hrun, hv⟩ := ho.look_ok (R := heldR) K.law ht hz (zd := .held z) (zp := []) rfl (K.key a ha)
  rw [hrun]
  simp only [heldR, Option.some.injEq, Prod.mk.injEq] at hv
  by_cases hm : a ∈ ks
  · rw [if_pos hm, decide_eq_true hm, has_true_of_atKey (hat a hm)]
    have := hv.1
    rw [hat a hm] at this
    rw [show v = f a by simpa using this]
  · rw [if_neg hm, decide_eq_false hm]
    have hn : has D (K.lit a) = false := by
      cases hh : has D (K.lit a)
      · rfl
      · obtain ⟨a', ha', e⟩ := hk _ hh
        exact absurd (K.lit_inj ha (hok a' ha') e ▸ ha') hm
    have := hv.1
    rw [atKey_of_not_has hn] at this
    rw [hn, show v = z by simpa using this]
/-- 'm[a] = v' -/
theorem MapIs.put {α : Type} [DecidableEq α] {k : TypeId} {K : KeyEnc α k} {w w' : World} {b n m : Nat} {ks : List α} {f : α → Value} {D : DataW Value} (ho : w.ownsMap Tryd.prog k heldR b n D) (hnd : ks.Nodup) (hok : ∀ a ∈ ks, K.ok a) (hk : ∀ kl, has D kl = true → ∃ a ∈ ks, kl = K.lit a)
    (hat : ∀ a ∈ ks, ∀ z, D.atKey (K.lit a) z = .held (f a)) (hs : size D = ks.length) (a : α) (ha : K.ok a) (v : Value) (ho' : w'.ownsMap Tryd.prog k heldR b m (D.put (K.lit a) (.held v))) :
    MapIs K w' b m (if a ∈ ks then ks else ks ++ [a]) (fun x => if x = a then v else f x) := by
  have hkl := K.law.key (K.key a ha)
  refine ⟨_, ho', ?_, ?_, ?_, ?_, ?_⟩
  · split
    · exact hnd
    · rename_i hm
      rw [List.nodup_append]
      refine ⟨hnd, by simp, fun x hx y hy e => ?_⟩
      simp at hy; subst hy; subst e; exact hm hx
  · intro x hx
    split at hx
    · exact hok x hx
    · rw [List.mem_append] at hx
      rcases hx with hx | hx
      · exact hok x hx
      · simp at hx; subst hx; exact ha
  · intro kl hh
    by_cases e : kl = K.lit a
    · refine ⟨a, ?_, e⟩
      split
      · assumption
      · simp
    · rw [has_put_other e] at hh
      obtain ⟨x, hx, e'⟩ := hk kl hh
      refine ⟨x, ?_, e'⟩
      split
      · exact hx
      · simp [hx]
  · intro x hx z
    by_cases e : x = a
    · subst e
      rw [atKey_put_same ho.isMap hkl]
      simp
    · have hx' : x ∈ ks := by
        split at hx
        · exact hx
        · rw [List.mem_append] at hx
          rcases hx with hx | hx
          · exact hx
          · simp at hx; exact absurd hx e
      rw [atKey_put_other (fun e2 => e (K.lit_inj (hok x hx') ha e2)), hat x hx' z]
      simp [e]
  · rw [size_put (ho.tidy K.law)]
    by_cases hm : a ∈ ks
    · rw [if_pos (has_true_of_atKey (hat a hm)), if_pos hm, hs]
    · have hn : has D (K.lit a) = false := by
        cases hh : has D (K.lit a)
        · rfl
        · obtain ⟨a', ha', e⟩ := hk _ hh
          exact absurd (K.lit_inj ha (hok a' ha') e ▸ ha') hm
      rw [hn, if_neg hm, hs]
      simp

def I64r (x : Int) : Prop := -9223372036854775808 ≤ x ∧ x ≤ 9223372036854775807
theorem wf_of {x : Int} (h : I64r x) : (Lit.int .i64 x).wf = true := by
  obtain ⟨h1, h2⟩ := h
  have e1 : IntKind.i64.min = -9223372036854775808 := by decide
  have e2 : IntKind.i64.max = 9223372036854775807 := by decide
  simp [Lit.wf, e1, e2]
  omega
def kInt : KeyEnc Int 3 := { val := fun x => .int .i64 x, ok := I64r, lit := fun x => .int .i64 x, law := int_keyed Tryd.underlying3, key := fun a ha => keyOf_int_mk Tryd.underlying3 (wf_of ha), inj := fun a b h => by cases h; rfl }

def litHand (h : Int × Int) : Lit := .string (keyBytes [.int .i64 h.1, .int .i64 h.2])
theorem types_pos : ∃ m, Tryd.prog.types.size = m + 1 := ⟨Tryd.prog.types.size - 1, by have : (0 : Nat) < Tryd.prog.types.size := of_decide_eq_true (by kernel_rfl); omega⟩
theorem hand_key (h : Int × Int) (h1 : I64r h.1) (h2 : I64r h.2) : keyOf Tryd.prog 28 (.agg #[.int .i64 h.1, .int .i64 h.2]) = some (litHand h) := by
  obtain ⟨m, hm⟩ := types_pos
  have hk : Tryd.prog.keyType 28 = true := by kernel_rfl
  have hc : Tryd.prog.cellsOf 28 = 2 := by kernel_rfl
  have hci : Tryd.prog.cellsOf 3 = 1 := by kernel_rfl
  have hf : (Value.agg #[.int .i64 h.1, .int .i64 h.2]).formed Tryd.prog 28 = true := by simp [Value.formed, Tryd.underlying28, hc]
  unfold keyOf
  rw [Tryd.underlying28]
  simp only [hk, hf, Bool.and_true, if_true]
  rw [hm]
  simp [Program.keyLits, Tryd.underlying28, Tryd.underlying3, hc, hci, Value.cells, wf_of h1, wf_of h2, litHand]
theorem hand_law : Keyed Tryd.prog 28 := Keyed.of_law (deep_law_laid (by kernel_rfl) (m := 3) (by omega) (of_decide_eq_true (by kernel_rfl)) (by kernel_rfl) (by rw [Tryd.underlying28]))
def kHand : KeyEnc (Int × Int) 28 := { val := fun h => .agg #[.int .i64 h.1, .int .i64 h.2], ok := fun h => I64r h.1 ∧ I64r h.2, lit := litHand, law := hand_law, key := fun a ha => hand_key a ha.1 ha.2, inj := fun a b h => by simp at h; exact Prod.ext h.1 h.2 }
end Go.Proofs.YtnmlapoiilckhaaDoor

/- A loop over a map of the call's own: which keys are still to come. -/
namespace Go.Proofs.YtnmlapoiilckhaaDoor
open Go.RowKit Go.Maps

/-- A loop over the map in block b, its iterator in block r: the keys 'todo' are still to come, cnt of them. -/
def RangeIs {α : Type} {k : TypeId} (K : KeyEnc α k) (w : World) (b r n : Nat) (ks : List α) (f : α → Value) (todo : List α) (cnt : Nat) : Prop :=
  ∃ (D : DataW Value) (lf : Lit → Bool), w.ranges Tryd.prog k heldR b r n D lf cnt ∧ ks.Nodup ∧ (∀ a ∈ ks, K.ok a) ∧ (∀ kl, has D kl = true → ∃ a ∈ ks, kl = K.lit a) ∧ (∀ a ∈ ks, ∀ z, D.atKey (K.lit a) z = .held (f a)) ∧ size D = ks.length ∧
    (∀ kl, lf kl = true → ∃ a ∈ todo, kl = K.lit a) ∧ (∀ a ∈ todo, a ∈ ks ∧ lf (K.lit a) = true)

section
variable {α : Type} {k : TypeId} {K : KeyEnc α k} {w w' : World} {b r n cnt : Nat} {ks todo : List α} {f : α → Value}

theorem RangeIs.map (h : RangeIs K w b r n ks f todo cnt) : MapIs K w b n ks f := by
  obtain ⟨D, lf, hr, h1, h2, h3, h4, h5, _⟩ := h
  exact ⟨D, hr.owns, h1, h2, h3, h4, h5⟩
theorem RangeIs.left_eq (h : RangeIs K w b r n ks f todo cnt) : w.rangeLeft b r = cnt := by
  obtain ⟨D, lf, hr, _⟩ := h
  exact hr.left_eq
theorem RangeIs.lt (h : RangeIs K w b r n ks f todo cnt) : r < w.heap.size := by
  obtain ⟨D, lf, hr, _⟩ := h
  exact hr.lt
theorem RangeIs.kept {F : Nat → Prop} (h : RangeIs K w b r n ks f todo cnt) (hk : Kept F w w') (hb : ¬ F b) (hr : ¬ F r) : RangeIs K w' b r n ks f todo cnt := by
  obtain ⟨D, lf, hrg, rest⟩ := h
  refine ⟨D, lf, ?_, rest⟩
  have h1 := hrg.owns.lt
  have h2 := hrg.lt
  obtain ⟨es, clock, since, seen, c0, hbb, F', hs, hD, hrr, rest'⟩ := hrg
  exact ⟨es, clock, since, seen, c0, (hk.block b h1 hb).trans hbb, F', hs, hD, (hk.block r h2 hr).trans hrr, rest'⟩
theorem RangeIs.later (h : RangeIs K w b r n ks f todo cnt) (hb : Below w.heap.size w w') : RangeIs K w' b r n ks f todo cnt :=
  h.kept (F := fun _ => False) (Kept.ofBelow hb) id id
theorem RangeIs.sub (h : RangeIs K w b r n ks f todo cnt) : ∀ a ∈ todo, a ∈ ks := by
  obtain ⟨D, lf, _, _, _, _, _, _, _, h⟩ := h
  exact fun a ha => (h a ha).1

variable {ops : Array Oper} {rest : List Oper} {o : Oper} {a : Act} {Q : Exit → Act → World → Prop}
/-- 'range m' -/
theorem wpList_range_is (w : World) (hg : o.guard = none) (m : Operand) (t : TypeId) (hop : o.op = Op.range t m) (e : TypeId) (ht : Tryd.prog.underlying t = some (.map k e)) (hm : a.eval m = .map (some b)) (h : MapIs K w b n ks f)
    (hK : ∀ w', RangeIs K w' b w.heap.size n ks f ks ks.length → Below w.heap.size w w' → w'.heap.size = w.heap.size + 1 → wpList Tryd.prog ops Q rest (a.put o.dst (.pointer (some ⟨w.heap.size, 0, none⟩))) w') :
    wpList Tryd.prog ops Q (o :: rest) a w := by
  obtain ⟨D, ho, h1, h2, h3, h4, h5⟩ := h
  refine wpList_range_own w hg m t hop k e K.law ht heldR b n D hm ho fun w' hrg hgr hsz => ?_
  refine hK w' ⟨D, has D, by rw [← h5]; exact hrg, h1, h2, h3, h4, h5, h3, fun x hx => ⟨hx, has_true_of_atKey (h4 x hx)⟩⟩ ((Below.refl _ _).grown hgr (Nat.le_refl _) (fun q hq => by cases hq)) hsz

/-- the loop's step -/
theorem wpList_next_is [DecidableEq α] (w : World) (hg : o.guard = none) (it : Operand) (hop : o.op = Op.next it false) (hit : a.eval it = .pointer (some ⟨r, 0, none⟩)) (h : RangeIs K w b r n ks f todo cnt)
    (hDone : todo = [] → wpList Tryd.prog ops Q rest (a.put o.dst (.tuple #[.bool false])) w)
    (hMore : ∀ (x : α) (w' : World) (cnt' : Nat), x ∈ todo → x ∈ ks → RangeIs K w' b r n ks f (todo.filter (fun y => !decide (y = x))) cnt' → cnt' < cnt → Kept (fun q => q = r) w w' → w'.heap.size = w.heap.size →
      (Instr.entry (.pointer (some ⟨r, 0, none⟩))).run Tryd.prog w' = .ok (.tuple #[K.val x, f x]) w' → wpList Tryd.prog ops Q rest (a.put o.dst (.tuple #[.bool true, K.val x, f x])) w') :
    wpList Tryd.prog ops Q (o :: rest) a w := by
  obtain ⟨D, lf, hrg, h1, h2, h3, h4, h5, h6, h7⟩ := h
  refine wpList_next_ranges w hg it hop k K.law heldR id id (fun key kl _ => ⟨key, rfl⟩) (fun v y _ => ⟨v, rfl⟩) b r n D lf cnt hit hrg (fun _ hl => ?_) ?_
  · refine hDone (List.eq_nil_iff_forall_not_mem.2 fun x hx => ?_)
    have := (h7 x hx).2
    rw [hl] at this
    cases this
  · intro x c kl y w' cnt' hkey hlk hv hat hrg' hlt hgr hsz hen
    obtain ⟨x', hx', rfl⟩ := h6 kl hlk
    have hxk := (h7 x' hx').1
    have ex : x = K.val x' := K.law.inj hkey (K.key x' (h2 x' hxk))
    have ec : c = f x' := by
      simp only [heldR, id, Option.some.injEq] at hv
      have := hat (.held c)
      rw [h4 x' hxk, ← hv] at this
      simpa using this.symm
    subst ex
    subst ec
    refine hMore x' w' cnt' hx' hxk ⟨D, _, hrg', h1, h2, h3, h4, h5, ?_, ?_⟩ hlt (Kept.grown hgr (fun q e => by cases e; rfl)) hsz hen
    · intro kl hkl
      simp only [Bool.and_eq_true, Bool.not_eq_true'] at hkl
      obtain ⟨z, hz, rfl⟩ := h6 kl hkl.1
      refine ⟨z, List.mem_filter.2 ⟨hz, ?_⟩, rfl⟩
      rw [Bool.not_eq_true', decide_eq_false_iff_not]
      rintro rfl
      rw [WideAt.sameKey_self (K.law.key (K.key z (h2 z (h7 z hz).1)))] at hkl
      cases hkl.2
    · intro z hz
      obtain ⟨hz1, hz2⟩ := List.mem_filter.1 hz
      rw [Bool.not_eq_true', decide_eq_false_iff_not] at hz2
      refine ⟨(h7 z hz1).1, ?_⟩
      rw [(h7 z hz1).2]
      simp only [Bool.true_and, Bool.not_eq_true']
      cases hs : (K.lit z).sameKey (K.lit x')
      · rfl
      · exact absurd (K.lit_inj (h2 z (h7 z hz1).1) (h2 x' hxk) (WideAt.sameKey_eq hs)) hz2
end
end Go.Proofs.YtnmlapoiilckhaaDoor

/- Maps of the call's own: as few entries as keys; a store and a deletion, at the operation. -/
namespace Go.Proofs.YtnmlapoiilckhaaDoor
open Go.RowKit Go.Maps Go.ChangeMaps

theorem filter_ne_len {α : Type} [DecidableEq α] : ∀ {ks : List α} {a : α}, ks.Nodup → (ks.filter (fun y => !decide (y = a))).length + (if a ∈ ks then 1 else 0) = ks.length
  | [], a, _ => by simp
  | k :: ks, a, h => by
    obtain ⟨h1, h2⟩ := List.nodup_cons.1 h
    have ih := filter_ne_len (a := a) h2
    by_cases e : k = a
    · subst e
      rw [if_neg h1] at ih
      simp
      simpa using ih
    · have e' : ¬ a = k := fun x => e x.symm
      rw [List.filter_cons_of_pos (by simp [e])]
      simp only [List.length_cons, List.mem_cons, e', false_or]
      omega

section
variable {α : Type} {k : TypeId} {K : KeyEnc α k} {w w' : World} {b n : Nat} {ks : List α} {f : α → Value}
theorem MapIs.tight (h : MapIs K w b n ks f) : MapIs K w b ks.length ks f := by
  obtain ⟨D, ho, h1, h2, h3, h4, h5⟩ := h
  refine ⟨D, ?_, h1, h2, h3, h4, h5⟩
  obtain ⟨es, clock, hb, F, hs, rfl⟩ := ho
  refine ⟨es, clock, hb, F, ?_, rfl⟩
  rw [← h5]
  simp [Maps.size, length_sorted]
theorem MapIs.nodup (h : MapIs K w b n ks f) : ks.Nodup := by obtain ⟨D, ho, h1, _⟩ := h; exact h1
theorem MapIs.okAt (h : MapIs K w b n ks f) {a : α} (ha : a ∈ ks) : K.ok a := by obtain ⟨D, ho, h1, h2, _⟩ := h; exact h2 a ha
theorem MapIs.congr {g : α → Value} (h : MapIs K w b n ks f) (e : ∀ a ∈ ks, f a = g a) : MapIs K w b n ks g := by
  obtain ⟨D, ho, h1, h2, h3, h4, h5⟩ := h
  exact ⟨D, ho, h1, h2, h3, fun a ha z => by rw [← e a ha]; exact h4 a ha z, h5⟩

variable {ops : Array Oper} {rest : List Oper} {o : Oper} {a : Act} {Q : Exit → Act → World → Prop}
/-- 'm[x] = v' -/
theorem wpList_put_is [DecidableEq α] (w : World) (hg : o.guard = none) (m x v : Operand) (t : TypeId) (hop : o.op = Op.mapUpdate t m x v) (e : TypeId) (ht : Tryd.prog.underlying t = some (.map k e)) (hm : a.eval m = .map (some b)) (h : MapIs K w b n ks f) (hn : ks.length < maxLen)
    (x0 : α) (hx0 : K.ok x0) (u : Value) (hx : a.eval x = K.val x0) (hv : a.eval v = u)
    (hK : ∀ w', MapIs K w' b (if x0 ∈ ks then ks else ks ++ [x0]).length (if x0 ∈ ks then ks else ks ++ [x0]) (fun y => if y = x0 then u else f y) → Kept (fun q => q = b) w w' → wpList Tryd.prog ops Q rest (a.put o.dst undef) w') :
    wpList Tryd.prog ops Q (o :: rest) a w := by
  obtain ⟨D, ho, h1, h2, h3, h4, h5⟩ := h.tight
  refine wpList_mapUpdate_own w hg m x v t hop k e K.law ht heldR b ks.length D hm ho hn _ u (K.lit x0) hx hv (K.key x0 hx0) (.held u) [] rfl fun w' ho' hgr => ?_
  exact hK w' (MapIs.put ho h1 h2 h3 h4 h5 x0 hx0 u ho').tight (Kept.grown hgr (fun q e => by cases e; rfl))
theorem wpList_put_new [DecidableEq α] (w : World) (hg : o.guard = none) (m x v : Operand) (t : TypeId) (hop : o.op = Op.mapUpdate t m x v) (e : TypeId) (ht : Tryd.prog.underlying t = some (.map k e)) (hm : a.eval m = .map (some b)) (h : MapIs K w b n ks f) (hn : ks.length < maxLen)
    (x0 : α) (hx0 : K.ok x0) (u : Value) (hx : a.eval x = K.val x0) (hv : a.eval v = u) (hnew : ¬ x0 ∈ ks)
    (hK : ∀ w', MapIs K w' b (ks ++ [x0]).length (ks ++ [x0]) (fun y => if y = x0 then u else f y) → Kept (fun q => q = b) w w' → wpList Tryd.prog ops Q rest (a.put o.dst undef) w') :
    wpList Tryd.prog ops Q (o :: rest) a w :=
  wpList_put_is w hg m x v t hop e ht hm h hn x0 hx0 u hx hv (fun w' hm' hk' => hK w' (by rw [if_neg hnew] at hm'; exact hm') hk')
theorem wpList_put_in [DecidableEq α] (w : World) (hg : o.guard = none) (m x v : Operand) (t : TypeId) (hop : o.op = Op.mapUpdate t m x v) (e : TypeId) (ht : Tryd.prog.underlying t = some (.map k e)) (hm : a.eval m = .map (some b)) (h : MapIs K w b n ks f) (hn : ks.length < maxLen)
    (x0 : α) (hx0 : K.ok x0) (u : Value) (hx : a.eval x = K.val x0) (hv : a.eval v = u) (hin : x0 ∈ ks)
    (hK : ∀ w', MapIs K w' b ks.length ks (fun y => if y = x0 then u else f y) → Kept (fun q => q = b) w w' → wpList Tryd.prog ops Q rest (a.put o.dst undef) w') :
    wpList Tryd.prog ops Q (o :: rest) a w :=
  wpList_put_is w hg m x v t hop e ht hm h hn x0 hx0 u hx hv (fun w' hm' hk' => hK w' (by rw [if_pos hin] at hm'; exact hm') hk')
/-- 'delete(m, x)' -/
theorem wpList_del_is [DecidableEq α] (w : World) (hg : o.guard = none) (m x : Operand) (t : TypeId) (hop : o.op = Op.call { callee := Callee.builtin Builtin.delete, args := #[m, x], argTypes := #[t, k] }) (e : TypeId) (ht : Tryd.prog.underlying t = some (.map k e)) (hm : a.eval m = .map (some b)) (h : MapIs K w b n ks f)
    (x0 : α) (hx0 : K.ok x0) (hx : a.eval x = K.val x0)
    (hK : ∀ w', MapIs K w' b (ks.filter (fun y => !decide (y = x0))).length (ks.filter (fun y => !decide (y = x0))) f → Kept (fun q => q = b) w w' → wpList Tryd.prog ops Q rest (a.put o.dst (.tuple #[])) w') :
    wpList Tryd.prog ops Q (o :: rest) a w := by
  obtain ⟨D, ho, h1, h2, h3, h4, h5⟩ := h.tight
  refine wpList_delete_own w hg m x t k hop e K.law ht heldR b ks.length D hm ho _ (K.lit x0) hx (K.key x0 hx0) fun w' ho' htu => ?_
  have hmem : ∀ y, y ∈ ks.filter (fun y => !decide (y = x0)) ↔ y ∈ ks ∧ y ≠ x0 := fun y => by rw [List.mem_filter]; simp
  refine hK w' (MapIs.tight (n := ks.length) ⟨_, ho', h1.filter _, fun y hy => h2 y ((hmem y).1 hy).1, fun kl hh => ?_, fun y hy z => ?_, ?_⟩) ?_
  · by_cases e : kl = K.lit x0
    · rw [e, has_del_same] at hh; cases hh
    · rw [has_del_other e] at hh
      obtain ⟨y, hy, rfl⟩ := h3 kl hh
      exact ⟨y, (hmem y).2 ⟨hy, fun e2 => e (by rw [e2])⟩, rfl⟩
  · obtain ⟨hy1, hy2⟩ := (hmem y).1 hy
    rw [atKey_del_other (fun e2 => hy2 (K.lit_inj (h2 y hy1) hx0 e2))]; exact h4 y hy1 z
  · have := size_del (k := K.lit x0) (ho.tidy K.law)
    have hl := filter_ne_len (a := x0) h1
    by_cases hm : x0 ∈ ks
    · rw [if_pos (has_true_of_atKey (h4 x0 hm))] at this
      rw [if_pos hm] at hl
      omega
    · have hn : has D (K.lit x0) = false := by
        cases hh : has D (K.lit x0)
        · rfl
        · obtain ⟨a', ha', e⟩ := h3 _ hh
          exact absurd (K.lit_inj hx0 (h2 a' ha') e ▸ ha') hm
      rw [hn] at this
      rw [if_neg hm] at hl
      simp at this
      omega
  · obtain ⟨es, clock, es', clock', hb, rfl⟩ := htu
    exact ⟨rfl, rfl, rfl, by simp [setBlock], fun i _ hi => heap_setBlock_other hb _ hi⟩
end
end Go.Proofs.YtnmlapoiilckhaaDoor

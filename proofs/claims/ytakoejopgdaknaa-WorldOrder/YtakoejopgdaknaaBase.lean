/- The contracts of the small functions of package mask and of its reference that the laws of stage 1 call: each returns what a plain Lean function gives, and leaves the world as it was but for new blocks. -/
import Derived.Test.YtakoejopgdaknaaRows
import Derived.Test.YtakoejopgdaknaaBits
import Derived.WalkKit
import Derived.WalkSpells
import Derived.WalkLawsBesides
import Derived.Lib.Hide
import Derived.Deep.RegionWith
import Derived.Deep.RegionHeld3
namespace Go.Proofs.Ytakoejopgdaknaa
set_option maxRecDepth 8000
open Go.RowKit

theorem nb_alloc {w x : World} (h : Below w.heap.size w x) (o : Obj) : Below w.heap.size w (x.alloc o) := h.alloc h.size o
theorem nb_trans {w x y : World} (h : Below w.heap.size w x) (k : Below x.heap.size x y) : Below w.heap.size w y := h.trans (k.mono h.size)

theorem ret_bool {a b : Bool} (h : a = b) : Ending.returned (.bool a) = .returned (.bool b) := by rw [h]
theorem ret_int {k : IntKind} {a b : Int} (h : a = b) : Ending.returned (.int k a) = .returned (.int k b) := by rw [h]

def inB (n lo hi : Int) : Bool := decide (lo ≤ n) && decide (n ≤ hi)
theorem inB_t {n lo hi : Int} (h : inB n lo hi = true) : lo ≤ n ∧ n ≤ hi := by simpa [inB] using h
theorem inB_f {n lo hi : Int} (h : inB n lo hi = false) : n < lo ∨ hi < n := by
  simp [inB] at h; omega

set_option maxHeartbeats 400000 in
theorem isSet_any (m : Int) (w : World) :
    Calls Try.prog 68 #[.int .i64 m] w fun e w' => e = .returned (.bool (inB m 0 255)) ∧ w = w' := by
  go_enter Try.func68, Try.ntmps68
  go_wp2
  all_goals (go_ret; refine ⟨ret_bool (Bool.eq_iff_iff.2 ?_), rfl⟩; simp [inB]; try omega)

set_option maxHeartbeats 400000 in
theorem isKind_any (m : Int) (w : World) :
    Calls Try.prog 98 #[.int .i64 m] w fun e w' => e = .returned (.bool (inB m 0 7)) ∧ w = w' := by
  go_enter Try.func98, Try.ntmps98
  go_wp2
  all_goals (go_ret; refine ⟨ret_bool (Bool.eq_iff_iff.2 ?_), rfl⟩; simp [inB]; try omega)

set_option maxHeartbeats 400000 in
theorem outside_any (n lo hi : Int) (w : World) :
    Calls Try.prog 65 #[.int .i64 n, .int .i64 lo, .int .i64 hi] w fun e w' => e = .returned (.bool (!inB n lo hi)) ∧ w = w' := by
  go_enter Try.func65, Try.ntmps65
  go_wp2
  all_goals (go_ret; refine ⟨ret_bool (Bool.eq_iff_iff.2 ?_), rfl⟩; simp [inB]; try omega)

/-- the first error of a query: 0 or 1 -/
def qErr (a b c : Int) : Int := if inB a 0 255 && inB b 0 255 && inB c 0 255 then 0 else 1
theorem qErr_eq {x y z : Bool} {a b c : Int} (ha : inB a 0 255 = x) (hb : inB b 0 255 = y) (hc : inB c 0 255 = z) : qErr a b c = if x && y && z then 0 else 1 := by
  subst ha hb hc; rfl

set_option maxHeartbeats 400000 in
theorem checkQuery_any (a b c : Int) (w : World) :
    Calls Try.prog 41 #[.agg #[.int .i64 a, .int .i64 b, .int .i64 c]] w fun e w' => e = .returned (.int .i64 (qErr a b c)) ∧ w.alloc (.cells #[.int .i64 a, .int .i64 b, .int .i64 c] 50) = w' := by
  cases ha : inB a 0 255 <;> cases hb : inB b 0 255 <;> cases hc : inB c 0 255
  all_goals
    have HF := Lib.hid (qErr_eq ha hb hc)
    go_enter Try.func41, Try.ntmps41
    go_wp2_with (first | (go_at_call 68; refine (isSet_any _ _).mono ?_; rintro e w' ⟨rfl, rfl⟩))
    all_goals (go_ret; exact ⟨ret_int (by rw [HF.out]; rfl), rfl⟩)

set_option maxHeartbeats 400000 in
theorem queryCheck_any (a b c : Int) (w : World) :
    Calls Try.prog 46 #[.agg #[.int .i64 a, .int .i64 b, .int .i64 c]] w fun e w' => e = .returned (.int .i64 (qErr a b c)) ∧ w.alloc (.cells #[.int .i64 a, .int .i64 b, .int .i64 c] 50) = w' := by
  cases ha : inB a 0 255 <;> cases hb : inB b 0 255 <;> cases hc : inB c 0 255
  all_goals
    have HF := Lib.hid (qErr_eq ha hb hc)
    go_enter Try.func46, Try.ntmps46
    go_wp2_with (first | (go_at_call 65; refine (outside_any _ _ _ _).mono ?_; rintro e w' ⟨rfl, rfl⟩))
    all_goals (go_ret; exact ⟨ret_int (by rw [HF.out]; rfl), rfl⟩)


set_option maxHeartbeats 400000 in
theorem has_any (m k : Int) (w : World) (h0 : 0 ≤ k) (h1 : k ≤ 63) :
    Calls Try.prog 76 #[.int .i64 m, .int .i64 k] w fun e w' => e = .returned (.bool (tb m k.toNat)) ∧ w = w' := by
  go_enter Try.func76, Try.ntmps76
  go_wp2
  go_ret
  exact ⟨ret_bool (by rw [and_one]; rfl), rfl⟩

set_option maxHeartbeats 400000 in
theorem bit_any (m k : Int) (w : World) (h0 : 0 ≤ k) (h1 : k ≤ 63) :
    Calls Try.prog 73 #[.int .i64 m, .int .i64 k] w fun e w' => e = .returned (.bool (tb m k.toNat)) ∧ w = w' := by
  have hne : ¬ IntKind.u64.wrap (2 ^ k.toNat) = 0 := by
    rw [wrap_u64_pow _ (by omega)]; have := pow_pos2 k.toNat; omega
  go_enter Try.func73, Try.ntmps73
  go_wp2
  go_ret
  exact ⟨ret_bool (bit_eq m k.toNat (by omega)), rfl⟩

/-- what Matches answers -/
def matchB (m a b c : Int) : Bool := (bits .and .i64 m a == a) && (bits .and .i64 m b == 0) && ((c == 0) || (bits .and .i64 m c != 0))

set_option maxHeartbeats 400000 in
theorem matches_any (m a b c : Int) (w : World) :
    Calls Try.prog 29 #[.int .i64 m, .agg #[.int .i64 a, .int .i64 b, .int .i64 c]] w fun e w' => e = .returned (.bool (matchB m a b c)) ∧ w.alloc (.cells #[.int .i64 a, .int .i64 b, .int .i64 c] 50) = w' := by
  have HM : Hid (matchB m a b c = ((bits .and .i64 m a == a) && (bits .and .i64 m b == 0) && ((c == 0) || (bits .and .i64 m c != 0)))) := Lib.hid rfl
  cases h1 : (bits .and .i64 m a == a) <;> cases h2 : (bits .and .i64 m b == 0) <;> cases h3 : (c == 0)
  all_goals
    rw [h1, h2, h3] at HM
    go_enter Try.func29, Try.ntmps29
    go_wp2
    all_goals (go_ret; exact ⟨ret_bool (by rw [HM.out]; simp), rfl⟩)
end Go.Proofs.Ytakoejopgdaknaa

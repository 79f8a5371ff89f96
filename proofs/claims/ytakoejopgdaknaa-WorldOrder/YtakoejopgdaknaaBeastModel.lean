/- The first error of an entity. -/
import Derived.Test.YtakoejopgdaknaaBase
namespace Go.Proofs.Ytakoejopgdaknaa
open Go.RowKit

/-- the error at component i: its value is n -/
def bStep (m : Int) (i : Nat) (n : Int) : Int := if !tb m i && n != 0 then 4 else if inB n (-1000000000) 1000000000 then 0 else 1
/-- the first error among the first k components -/
def bTo (m : Int) (vs : List Int) : Nat → Int
  | 0 => 0
  | k + 1 => if bTo m vs k = 0 then bStep m k (vs.getD k 0) else bTo m vs k
/-- the first error of an entity -/
def bErr (m : Int) (vs : List Int) : Int := if inB m 0 255 then bTo m vs 8 else 1

theorem bTo_next {m : Int} {vs : List Int} {k : Nat} (h : bTo m vs k = 0) : bTo m vs (k + 1) = bStep m k (vs.getD k 0) := by rw [bTo, if_pos h]
theorem bTo_stop {m : Int} {vs : List Int} {k : Nat} (h : bTo m vs k ≠ 0) : ∀ j, k ≤ j → bTo m vs j = bTo m vs k := by
  intro j hj
  induction j with
  | zero => obtain rfl : k = 0 := by omega
            rfl
  | succ j ih =>
    by_cases e : k = j + 1
    · rw [e]
    · rw [bTo, if_neg (by rw [ih (by omega)]; exact h), ih (by omega)]
theorem bErr_stop {m : Int} {vs : List Int} {k : Nat} {c : Int} (hm : inB m 0 255 = true) (h : bTo m vs k = 0) (hk : k < 8) (hs : bStep m k (vs.getD k 0) = c) (hc : c ≠ 0) : bErr m vs = c := by
  have h1 := bTo_next h
  rw [bErr, if_pos hm, bTo_stop (k := k + 1) (by rw [h1, hs]; exact hc) 8 (by omega), h1, hs]
theorem bErr_end {m : Int} {vs : List Int} (hm : inB m 0 255 = true) (h : bTo m vs 8 = 0) : bErr m vs = 0 := by rw [bErr, if_pos hm, h]
theorem bErr_kinds {m : Int} {vs : List Int} (hm : inB m 0 255 = false) : bErr m vs = 1 := by rw [bErr, if_neg (by rw [hm]; decide)]
theorem bStep_eq {m n : Int} {i : Nat} {x y z : Bool} (h1 : tb m i = x) (h2 : (n != 0) = y) (h3 : inB n (-1000000000) 1000000000 = z) : bStep m i n = if !x && y then 4 else if z then 0 else 1 := by
  subst h1 h2 h3; rfl

end Go.Proofs.Ytakoejopgdaknaa

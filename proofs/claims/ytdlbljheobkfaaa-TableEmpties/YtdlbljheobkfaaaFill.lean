/- The rows that the laws of tables fill in; what CheckBeast says of them. -/
import Derived.Test.YtdlbljheobkfaaaTableNew
import Derived.Test.YtdlbljheobkfaaaTableSet
namespace Go.Proofs.Ytdlbljheobkfaaa
open Go.RowKit

theorem bTo_ok {m : Int} {vs : List Int} : ∀ {k : Nat}, (∀ j, j < k → bStep m j (vs.getD j 0) = 0) → bTo m vs k = 0
  | 0, _ => rfl
  | k + 1, h => by rw [bTo, if_pos (bTo_ok (fun j hj => h j (by omega)))]; exact h k (by omega)
theorem bErr_ok {m : Int} {f : Nat → Int} (h0 : 0 ≤ m) (h1 : m ≤ 255) (h : ∀ k, k < 8 → (tb m k = false → f k = 0) ∧ inB (f k) (-1000000000) 1000000000 = true) : bErr m [f 0, f 1, f 2, f 3, f 4, f 5, f 6, f 7] = 0 := by
  have hm : inB m 0 255 = true := by simp [inB, h0, h1]
  refine bErr_end hm (bTo_ok (fun j hj => ?_))
  have hv : [f 0, f 1, f 2, f 3, f 4, f 5, f 6, f 7].getD j 0 = f j := by
    obtain rfl | rfl | rfl | rfl | rfl | rfl | rfl | rfl : j = 0 ∨ j = 1 ∨ j = 2 ∨ j = 3 ∨ j = 4 ∨ j = 5 ∨ j = 6 ∨ j = 7 := by omega
    all_goals rfl
  obtain ⟨h2, h3⟩ := h j hj
  rw [hv, bStep, h3]
  cases ht : tb m j
  · rw [h2 ht]; rfl
  · rfl

theorem rowc_at (r : Rw) (j : Nat) (h : j < 8) : (#[.int .i64 r.s, .int .i64 r.g, .int .i64 r.m, .int .i64 (r.f 0), .int .i64 (r.f 1), .int .i64 (r.f 2), .int .i64 (r.f 3), .int .i64 (r.f 4), .int .i64 (r.f 5), .int .i64 (r.f 6), .int .i64 (r.f 7)] : Array Value)[3 + j]? = some (.int .i64 (r.f j)) := by
  obtain rfl | rfl | rfl | rfl | rfl | rfl | rfl | rfl : j = 0 ∨ j = 1 ∨ j = 2 ∨ j = 3 ∨ j = 4 ∨ j = 5 ∨ j = 6 ∨ j = 7 := by omega
  all_goals rfl

/-- the value of component j, filled in from n -/
def fv (n : Int) (j : Nat) : Int := wrap64 (n + j) % 1000
def fillR (m : Int) (i : Nat) (n : Int) : Rw := ⟨i, 0, m, fun j => if tb m j && decide (j < 8) then fv n j else 0⟩
/-- the first t rows -/
def fillL (m : Int) (zs : List Int) : Nat → List Rw
  | 0 => []
  | t + 1 => fillL m zs t ++ [fillR m t (zs.getD t 0)]
theorem fillL_len (m : Int) (zs : List Int) : ∀ t, (fillL m zs t).length = t
  | 0 => rfl
  | t + 1 => by simp [fillL, fillL_len m zs t]
theorem fillL_get (m : Int) (zs : List Int) : ∀ t i, i < t → (fillL m zs t).getD i rowZ = fillR m i (zs.getD i 0)
  | t + 1, i, h => by
    rw [fillL]
    by_cases e : i = t
    · subst e
      rw [List.getD_eq_getElem?_getD, List.getElem?_append_right (by rw [fillL_len]; exact Nat.le_refl _), fillL_len]; simp
    · rw [List.getD_eq_getElem?_getD, List.getElem?_append_left (by rw [fillL_len]; omega), ← List.getD_eq_getElem?_getD]
      exact fillL_get m zs t i (by omega)
theorem fillR_ok {m : Int} (h0 : 0 ≤ m) (h1 : m ≤ 255) (i : Nat) (n : Int) : addE m (fillR m i n) = 0 := by
  have hb : bErr m [(fillR m i n).f 0, (fillR m i n).f 1, (fillR m i n).f 2, (fillR m i n).f 3, (fillR m i n).f 4, (fillR m i n).f 5, (fillR m i n).f 6, (fillR m i n).f 7] = 0 := by
    refine bErr_ok h0 h1 (fun k hk => ⟨fun ht => by simp [fillR, ht], ?_⟩)
    have : 0 ≤ (fillR m i n).f k ∧ (fillR m i n).f k ≤ 999 := by
      unfold fillR fv
      simp only
      split
      · omega
      · omega
    simp [inB]; omega
  unfold addE
  rw [if_pos (show bErr (fillR m i n).m [(fillR m i n).f 0, (fillR m i n).f 1, (fillR m i n).f 2, (fillR m i n).f 3, (fillR m i n).f 4, (fillR m i n).f 5, (fillR m i n).f 6, (fillR m i n).f 7] = 0 from hb)]
  exact if_pos rfl
theorem fillL_ok {m : Int} (h0 : 0 ≤ m) (h1 : m ≤ 255) (zs : List Int) : ∀ t, TabOk m (fillL m zs t)
  | 0 => TabOk.nil h0 h1
  | t + 1 => by
    have := (fillL_ok h0 h1 zs t).add (fillR m t (zs.getD t 0))
    rwa [addL, if_pos (fillR_ok h0 h1 _ _)] at this

/-- the rows of the closed fact -/
def rowT (i : Int) : Rw := ⟨i, 0, 1, fun j => match j with | 0 => i | _ => 0⟩
def rowsT : Nat → List Rw
  | 0 => []
  | k + 1 => rowsT k ++ [rowT k]
theorem rowsT_len : ∀ k, (rowsT k).length = k
  | 0 => rfl
  | k + 1 => by simp [rowsT, rowsT_len k]
theorem rowT_ok {k : Nat} (h : k < 3) : addE 1 (rowT k) = 0 := by
  obtain rfl | rfl | rfl : k = 0 ∨ k = 1 ∨ k = 2 := by omega
  all_goals decide
theorem rowsT_ok : ∀ k, k ≤ 3 → TabOk 1 (rowsT k)
  | 0, _ => TabOk.nil (by decide) (by decide)
  | k + 1, h => by
    have := (rowsT_ok k (by omega)).add (rowT k)
    rwa [addL, if_pos (rowT_ok (by omega))] at this
/-- A table of the law's own. -/
structure OwnT (w0 w : World) (p : Nat) (F : Nat → Prop) (m : Int) (rows : List Rw) : Prop where
  t : TableAt w p F m rows
  fb : ∀ k, F k → w0.heap.size ≤ k
  below : Below w0.heap.size w0 w
theorem OwnT.later {w0 w w' : World} {p : Nat} {F : Nat → Prop} {m : Int} {rows : List Rw} (h : OwnT w0 w p F m rows) (hb : Below w.heap.size w w') : OwnT w0 w' p F m rows := ⟨h.t.later hb, h.fb, nb_trans h.below hb⟩
theorem OwnT.moved {w0 w w1 : World} {p : Nat} {F F' : Nat → Prop} {m : Int} {rows rows' : List Rw} (h : OwnT w0 w p F m rows) (ht : TableAt w1 p F' m rows') (k1 : Kept F w w1) (m1 : Moves w F F') : OwnT w0 w1 p F' m rows' :=
  ⟨ht, m1.above h.below.size h.fb, h.below.trans (k1.below h.below.size h.fb)⟩
end Go.Proofs.Ytdlbljheobkfaaa

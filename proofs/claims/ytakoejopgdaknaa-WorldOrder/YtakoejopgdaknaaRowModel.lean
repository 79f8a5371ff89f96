/- Rows: a handle, a set, values. -/
import Derived.Test.YtakoejopgdaknaaBeastModel
import Derived.Test.YtakoejopgdaknaaMem
namespace Go.Proofs.Ytakoejopgdaknaa
open Go.RowKit

/-- A row: slot, generation, set, values. -/
structure Rw where
  s : Int
  g : Int
  m : Int
  f : Nat → Int
def rowZ : Rw := ⟨0, 0, 0, fun _ => 0⟩
def elRow : El Rw := { enc := fun r => [.int .i64 r.s, .int .i64 r.g, .int .i64 r.m, .int .i64 (r.f 0), .int .i64 (r.f 1), .int .i64 (r.f 2), .int .i64 (r.f 3), .int .i64 (r.f 4), .int .i64 (r.f 5), .int .i64 (r.f 6), .int .i64 (r.f 7)], size := 11, zero := rowZ, len := fun _ => rfl, pos := by decide, one := fun x u hu => by simp at hu; rcases hu with rfl | rfl | rfl | rfl | rfl | rfl | rfl | rfl | rfl | rfl | rfl <;> rfl }

def hsOf (rows : List Rw) : List (Int × Int) := rows.map fun r => (r.s, r.g)
def colOf (rows : List Rw) (k : Nat) : List Int := rows.map fun r => r.f k
theorem hsOf_len (rows : List Rw) : (hsOf rows).length = rows.length := by simp [hsOf]
theorem colOf_len (rows : List Rw) (k : Nat) : (colOf rows k).length = rows.length := by simp [colOf]
theorem hsOf_snoc (rows : List Rw) (r : Rw) : hsOf (rows ++ [r]) = hsOf rows ++ [(r.s, r.g)] := by simp [hsOf]
theorem colOf_snoc (rows : List Rw) (r : Rw) (k : Nat) : colOf (rows ++ [r]) k = colOf rows k ++ [r.f k] := by simp [colOf]
theorem getD_map {α β : Type} (f : α → β) (xs : List α) (i : Nat) (d : α) (d' : β) (h : i < xs.length) : (xs.map f).getD i d' = f (xs.getD i d) := by
  simp [List.getD_eq_getElem?_getD, List.getElem?_eq_getElem h]

def putV (r : Rw) (k : Nat) (n : Int) : Rw := { r with f := fun j => if j = k then n else r.f j }
def upd (f : Nat → Int) (j : Nat) (x : Int) : Nat → Int := fun k => if k = j then x else f k
theorem bTo_zero {m : Int} {vs : List Int} : ∀ {k : Nat}, bTo m vs k = 0 → ∀ j, j < k → bStep m j (vs.getD j 0) = 0
  | 0, _, j, hj => by omega
  | k + 1, h, j, hj => by
    rw [bTo] at h
    by_cases e : bTo m vs k = 0
    · rw [if_pos e] at h
      by_cases ej : j = k
      · rw [ej]; exact h
      · exact bTo_zero e j (by omega)
    · rw [if_neg e] at h; exact absurd h e
theorem bErr_zero {m : Int} {f : Nat → Int} (h : bErr m [f 0, f 1, f 2, f 3, f 4, f 5, f 6, f 7] = 0) : (0 ≤ m ∧ m ≤ 255) ∧ ∀ k, k < 8 → (tb m k = false → f k = 0) ∧ inB (f k) (-1000000000) 1000000000 = true := by
  unfold bErr at h
  cases hm : inB m 0 255
  · rw [hm] at h; simp at h
  · rw [hm, if_pos rfl] at h
    refine ⟨inB_t hm, fun k hk => ?_⟩
    have hs := bTo_zero h k hk
    have hv : [f 0, f 1, f 2, f 3, f 4, f 5, f 6, f 7].getD k 0 = f k := by
      obtain rfl | rfl | rfl | rfl | rfl | rfl | rfl | rfl : k = 0 ∨ k = 1 ∨ k = 2 ∨ k = 3 ∨ k = 4 ∨ k = 5 ∨ k = 6 ∨ k = 7 := by omega
      all_goals rfl
    rw [hv] at hs
    unfold bStep at hs
    constructor
    · intro ht
      rw [ht] at hs
      by_cases e : f k = 0
      · exact e
      · simp [e] at hs
    · cases hb : inB (f k) (-1000000000) 1000000000
      · rw [hb] at hs; split at hs <;> simp at hs
      · rfl
theorem bTo_ok {m : Int} {vs : List Int} : ∀ {k : Nat}, (∀ j, j < k → bStep m j (vs.getD j 0) = 0) → bTo m vs k = 0
  | 0, _ => rfl
  | k + 1, h => by rw [bTo, if_pos (bTo_ok (fun j hj => h j (by omega)))]; exact h k (by omega)
theorem bErr_ok {m : Int} {f : Nat → Int} (h0 : 0 ≤ m) (h1 : m ≤ 255) (h : ∀ k, k < 8 → (tb m k = false → f k = 0) ∧ inB (f k) (-1000000000) 1000000000 = true) : bErr m [f 0, f 1, f 2, f 3, f 4, f 5, f 6, f 7] = 0 := by
  have hm : inB m 0 255 = true := by simp [inB, h0, h1]
  refine bErr_end hm (bTo_ok (fun j hj => ?_))
  have hv : [f 0, f 1, f 2, f 3, f 4, f 5, f 6, f 7].getD j 0 = f j := by
    obtain rfl | rfl | rfl | rfl | rfl | rfl | rfl | rfl : j = 0 ∨ j = 1 ∨ j = 2 ∨ j = 3 ∨ j = 4 ∨ j = 5 ∨ j = 6 ∨ j = 7 := by omega
    all_goals rfl
  obtain ⟨h2, h3⟩ := h j hj
  rw [hv, bStep, h3]
  cases ht : tb m j
  · rw [h2 ht]; rfl
  · rfl

theorem mem_getD {α : Type} {xs : List α} {i : Nat} {d : α} (h : i < xs.length) : xs.getD i d ∈ xs := by
  rw [List.getD_eq_getElem?_getD, List.getElem?_eq_getElem h]; exact List.getElem_mem h
end Go.Proofs.Ytakoejopgdaknaa

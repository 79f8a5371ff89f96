/- What a table answers, as plain functions. -/
import Derived.Test.YtdlbljheobkfaaaBeast
import Derived.Test.YtdlbljheobkfaaaCols
namespace Go.Proofs.Ytdlbljheobkfaaa
open Go.RowKit

/-- A row: slot, generation, set, values. -/
structure Rw where
  s : Int
  g : Int
  m : Int
  f : Nat → Int
def rowZ : Rw := ⟨0, 0, 0, fun _ => 0⟩
def elRow : El Rw := { enc := fun r => [.int .i64 r.s, .int .i64 r.g, .int .i64 r.m, .int .i64 (r.f 0), .int .i64 (r.f 1), .int .i64 (r.f 2), .int .i64 (r.f 3), .int .i64 (r.f 4), .int .i64 (r.f 5), .int .i64 (r.f 6), .int .i64 (r.f 7)], size := 11, zero := rowZ, len := fun _ => rfl, pos := by decide, one := fun x u hu => by simp at hu; rcases hu with rfl | rfl | rfl | rfl | rfl | rfl | rfl | rfl | rfl | rfl | rfl <;> rfl }

def hsOf (rows : List Rw) : List (Int × Int) := rows.map fun r => (r.s, r.g)
def colOf (rows : List Rw) (k : Nat) : List Int := rows.map fun r => r.f k
theorem hsOf_len (rows : List Rw) : (hsOf rows).length = rows.length := by simp [hsOf]
theorem colOf_len (rows : List Rw) (k : Nat) : (colOf rows k).length = rows.length := by simp [colOf]
theorem hsOf_snoc (rows : List Rw) (r : Rw) : hsOf (rows ++ [r]) = hsOf rows ++ [(r.s, r.g)] := by simp [hsOf]
theorem colOf_snoc (rows : List Rw) (r : Rw) (k : Nat) : colOf (rows ++ [r]) k = colOf rows k ++ [r.f k] := by simp [colOf]
theorem getD_map {α β : Type} (f : α → β) (xs : List α) (i : Nat) (d : α) (d' : β) (h : i < xs.length) : (xs.map f).getD i d' = f (xs.getD i d) := by
  simp [List.getD_eq_getElem?_getD, List.getElem?_eq_getElem h]

/-- The set of a table and its rows, as they can be. -/
structure TabOk (m : Int) (rows : List Rw) : Prop where
  m0 : 0 ≤ m
  m1 : m ≤ 255
  row : ∀ r ∈ rows, r.m = m ∧ ∀ k, k < 8 → tb m k = false → r.f k = 0

/-- the first error of Add -/
def addE (m : Int) (r : Rw) : Int := if bErr r.m [r.f 0, r.f 1, r.f 2, r.f 3, r.f 4, r.f 5, r.f 6, r.f 7] = 0 then (if r.m = m then 0 else 4) else bErr r.m [r.f 0, r.f 1, r.f 2, r.f 3, r.f 4, r.f 5, r.f 6, r.f 7]
def addL (m : Int) (rows : List Rw) (r : Rw) : List Rw := if addE m r = 0 then rows ++ [r] else rows
def addN (m : Int) (rows : List Rw) (r : Rw) : Int := if addE m r = 0 then rows.length else 0
def rowE (rows : List Rw) (i : Int) : Int := if inB i 0 (rows.length - 1) then 0 else 5
def rowR (rows : List Rw) (i : Int) : Rw := if inB i 0 (rows.length - 1) then rows.getD i.toNat rowZ else rowZ
def remL (rows : List Rw) (i : Int) : List Rw := if inB i 0 (rows.length - 1) then rmL rows i.toNat rowZ else rows
def colE (m k : Int) : Int := if inB k 0 7 then (if tb m k.toNat then 0 else 5) else 1
def colL (m : Int) (rows : List Rw) (k : Int) : List Int := if colE m k = 0 then colOf rows k.toNat else []
def setE (m : Int) (rows : List Rw) (i k n : Int) : Int := if inB i 0 (rows.length - 1) then (if colE m k = 0 then (if inB n (-1000000000) 1000000000 then 0 else 1) else colE m k) else 5
def putV (r : Rw) (k : Nat) (n : Int) : Rw := { r with f := fun j => if j = k then n else r.f j }
def setL (m : Int) (rows : List Rw) (i k n : Int) : List Rw := if setE m rows i k n = 0 then rows.set i.toNat (putV (rows.getD i.toNat rowZ) k.toNat n) else rows

theorem TabOk.nil {m : Int} (h0 : 0 ≤ m) (h1 : m ≤ 255) : TabOk m [] := ⟨h0, h1, fun r hr => by simp at hr⟩
theorem bTo_zero {m : Int} {vs : List Int} : ∀ {k : Nat}, bTo m vs k = 0 → ∀ j, j < k → bStep m j (vs.getD j 0) = 0
  | 0, _, j, hj => by omega
  | k + 1, h, j, hj => by
    rw [bTo] at h
    by_cases e : bTo m vs k = 0
    · rw [if_pos e] at h
      by_cases ej : j = k
      · rw [ej]; exact h
      · exact bTo_zero e j (by omega)
    · rw [if_neg e] at h; exact absurd h e
theorem bErr_zero {m : Int} {f : Nat → Int} (h : bErr m [f 0, f 1, f 2, f 3, f 4, f 5, f 6, f 7] = 0) : (0 ≤ m ∧ m ≤ 255) ∧ ∀ k, k < 8 → (tb m k = false → f k = 0) ∧ inB (f k) (-1000000000) 1000000000 = true := by
  unfold bErr at h
  cases hm : inB m 0 255
  · rw [hm] at h; simp at h
  · rw [hm, if_pos rfl] at h
    refine ⟨inB_t hm, fun k hk => ?_⟩
    have hs := bTo_zero h k hk
    have hv : [f 0, f 1, f 2, f 3, f 4, f 5, f 6, f 7].getD k 0 = f k := by
      obtain rfl | rfl | rfl | rfl | rfl | rfl | rfl | rfl : k = 0 ∨ k = 1 ∨ k = 2 ∨ k = 3 ∨ k = 4 ∨ k = 5 ∨ k = 6 ∨ k = 7 := by omega
      all_goals rfl
    rw [hv] at hs
    unfold bStep at hs
    constructor
    · intro ht
      rw [ht] at hs
      by_cases e : f k = 0
      · exact e
      · simp [e] at hs
    · cases hb : inB (f k) (-1000000000) 1000000000
      · rw [hb] at hs; split at hs <;> simp at hs
      · rfl
theorem addE_zero {m : Int} {r : Rw} (h : addE m r = 0) : bErr r.m [r.f 0, r.f 1, r.f 2, r.f 3, r.f 4, r.f 5, r.f 6, r.f 7] = 0 ∧ r.m = m := by
  unfold addE at h
  by_cases e : bErr r.m [r.f 0, r.f 1, r.f 2, r.f 3, r.f 4, r.f 5, r.f 6, r.f 7] = 0
  · rw [if_pos e] at h
    by_cases e2 : r.m = m
    · exact ⟨e, e2⟩
    · rw [if_neg e2] at h; simp at h
  · rw [if_neg e] at h; exact absurd h e
theorem TabOk.add {m : Int} {rows : List Rw} (ok : TabOk m rows) (r : Rw) : TabOk m (addL m rows r) := by
  unfold addL
  split
  · rename_i h
    obtain ⟨h1, h2⟩ := addE_zero h
    refine ⟨ok.m0, ok.m1, fun x hx => ?_⟩
    rw [List.mem_append] at hx
    rcases hx with hx | hx
    · exact ok.row x hx
    · simp at hx; subst hx
      exact ⟨h2, fun k hk ht => ((bErr_zero h1).2 k hk).1 (by rw [h2]; exact ht)⟩
  · exact ok
theorem mem_getD {α : Type} {xs : List α} {i : Nat} {d : α} (h : i < xs.length) : xs.getD i d ∈ xs := by
  rw [List.getD_eq_getElem?_getD, List.getElem?_eq_getElem h]; exact List.getElem_mem h
theorem TabOk.rm {m : Int} {rows : List Rw} (ok : TabOk m rows) (i : Nat) : TabOk m (rmL rows i rowZ) := by
  refine ⟨ok.m0, ok.m1, fun x hx => ?_⟩
  have hx' := List.dropLast_subset _ hx
  rcases List.mem_or_eq_of_mem_set hx' with h | h
  · exact ok.row x h
  · by_cases e : rows = []
    · subst e; simp [rmL] at hx
    · exact ok.row x (by rw [h]; exact mem_getD (by have := List.length_pos_iff.2 e; omega))
theorem TabOk.rem {m : Int} {rows : List Rw} (ok : TabOk m rows) (i : Int) : TabOk m (remL rows i) := by
  unfold remL; split
  · exact ok.rm _
  · exact ok
theorem TabOk.set {m : Int} {rows : List Rw} (ok : TabOk m rows) (i k n : Int) : TabOk m (setL m rows i k n) := by
  unfold setL; split
  · rename_i h
    refine ⟨ok.m0, ok.m1, fun x hx => ?_⟩
    rcases List.mem_or_eq_of_mem_set hx with hx | hx
    · exact ok.row x hx
    · unfold setE at h
      cases hi : inB i 0 (rows.length - 1)
      · rw [hi] at h; simp at h
      · rw [hi, if_pos rfl] at h
        have hi' := inB_t hi
        obtain ⟨r1, r2⟩ := ok.row _ (mem_getD (d := rowZ) (show i.toNat < rows.length by omega))
        subst hx
        refine ⟨r1, fun j hj ht => ?_⟩
        unfold putV
        by_cases e : j = k.toNat
        · exfalso
          cases hb : tb m k.toNat
          · unfold colE at h; rw [hb] at h
            cases hk : inB k 0 7 <;> rw [hk] at h <;> simp at h
          · rw [← e, ht] at hb; cases hb
        · simp [e]; exact r2 j hj ht
  · exact ok
theorem addL_len (m : Int) (rows : List Rw) (r : Rw) : (addL m rows r).length ≤ rows.length + 1 := by unfold addL; split <;> simp
theorem remL_len (rows : List Rw) (i : Int) : (remL rows i).length ≤ rows.length := by unfold remL; split <;> simp [rmL_len]
theorem setL_len (m : Int) (rows : List Rw) (i k n : Int) : (setL m rows i k n).length = rows.length := by unfold setL; split <;> simp
end Go.Proofs.Ytdlbljheobkfaaa

/- What a table answers, as plain functions. -/
import Derived.Test.YtakoejopgdaknaaBeast
import Derived.Test.YtakoejopgdaknaaRowModel
import Derived.Test.YtakoejopgdaknaaCols
namespace Go.Proofs.Ytakoejopgdaknaa
open Go.RowKit

/-- The set of a table and its rows, as they can be. -/
structure TabOk (m : Int) (rows : List Rw) : Prop where
  m0 : 0 ≤ m
  m1 : m ≤ 255
  row : ∀ r ∈ rows, r.m = m ∧ ∀ k, k < 8 → tb m k = false → r.f k = 0

/-- the first error of Add -/
def addE (m : Int) (r : Rw) : Int := if bErr r.m [r.f 0, r.f 1, r.f 2, r.f 3, r.f 4, r.f 5, r.f 6, r.f 7] = 0 then (if r.m = m then 0 else 4) else bErr r.m [r.f 0, r.f 1, r.f 2, r.f 3, r.f 4, r.f 5, r.f 6, r.f 7]
def addL (m : Int) (rows : List Rw) (r : Rw) : List Rw := if addE m r = 0 then rows ++ [r] else rows
def addN (m : Int) (rows : List Rw) (r : Rw) : Int := if addE m r = 0 then rows.length else 0
def rowE (rows : List Rw) (i : Int) : Int := if inB i 0 (rows.length - 1) then 0 else 5
def rowR (rows : List Rw) (i : Int) : Rw := if inB i 0 (rows.length - 1) then rows.getD i.toNat rowZ else rowZ
def remL (rows : List Rw) (i : Int) : List Rw := if inB i 0 (rows.length - 1) then rmL rows i.toNat rowZ else rows
def colE (m k : Int) : Int := if inB k 0 7 then (if tb m k.toNat then 0 else 5) else 1
def colL (m : Int) (rows : List Rw) (k : Int) : List Int := if colE m k = 0 then colOf rows k.toNat else []
def setE (m : Int) (rows : List Rw) (i k n : Int) : Int := if inB i 0 (rows.length - 1) then (if colE m k = 0 then (if inB n (-1000000000) 1000000000 then 0 else 1) else colE m k) else 5
def setL (m : Int) (rows : List Rw) (i k n : Int) : List Rw := if setE m rows i k n = 0 then rows.set i.toNat (putV (rows.getD i.toNat rowZ) k.toNat n) else rows

theorem TabOk.nil {m : Int} (h0 : 0 ≤ m) (h1 : m ≤ 255) : TabOk m [] := ⟨h0, h1, fun r hr => by simp at hr⟩
theorem addE_zero {m : Int} {r : Rw} (h : addE m r = 0) : bErr r.m [r.f 0, r.f 1, r.f 2, r.f 3, r.f 4, r.f 5, r.f 6, r.f 7] = 0 ∧ r.m = m := by
  unfold addE at h
  by_cases e : bErr r.m [r.f 0, r.f 1, r.f 2, r.f 3, r.f 4, r.f 5, r.f 6, r.f 7] = 0
  · rw [if_pos e] at h
    by_cases e2 : r.m = m
    · exact ⟨e, e2⟩
    · rw [if_neg e2] at h; simp at h
  · rw [if_neg e] at h; exact absurd h e
theorem TabOk.add {m : Int} {rows : List Rw} (ok : TabOk m rows) (r : Rw) : TabOk m (addL m rows r) := by
  unfold addL
  split
  · rename_i h
    obtain ⟨h1, h2⟩ := addE_zero h
    refine ⟨ok.m0, ok.m1, fun x hx => ?_⟩
    rw [List.mem_append] at hx
    rcases hx with hx | hx
    · exact ok.row x hx
    · simp at hx; subst hx
      exact ⟨h2, fun k hk ht => ((bErr_zero h1).2 k hk).1 (by rw [h2]; exact ht)⟩
  · exact ok
theorem TabOk.rm {m : Int} {rows : List Rw} (ok : TabOk m rows) (i : Nat) : TabOk m (rmL rows i rowZ) := by
  refine ⟨ok.m0, ok.m1, fun x hx => ?_⟩
  have hx' := List.dropLast_subset _ hx
  rcases List.mem_or_eq_of_mem_set hx' with h | h
  · exact ok.row x h
  · by_cases e : rows = []
    · subst e; simp [rmL] at hx
    · exact ok.row x (by rw [h]; exact mem_getD (by have := List.length_pos_iff.2 e; omega))
theorem TabOk.rem {m : Int} {rows : List Rw} (ok : TabOk m rows) (i : Int) : TabOk m (remL rows i) := by
  unfold remL; split
  · exact ok.rm _
  · exact ok
theorem TabOk.set {m : Int} {rows : List Rw} (ok : TabOk m rows) (i k n : Int) : TabOk m (setL m rows i k n) := by
  unfold setL; split
  · rename_i h
    refine ⟨ok.m0, ok.m1, fun x hx => ?_⟩
    rcases List.mem_or_eq_of_mem_set hx with hx | hx
    · exact ok.row x hx
    · unfold setE at h
      cases hi : inB i 0 (rows.length - 1)
      · rw [hi] at h; simp at h
      · rw [hi, if_pos rfl] at h
        have hi' := inB_t hi
        obtain ⟨r1, r2⟩ := ok.row _ (mem_getD (d := rowZ) (show i.toNat < rows.length by omega))
        subst hx
        refine ⟨r1, fun j hj ht => ?_⟩
        unfold putV
        by_cases e : j = k.toNat
        · exfalso
          cases hb : tb m k.toNat
          · unfold colE at h; rw [hb] at h
            cases hk : inB k 0 7 <;> rw [hk] at h <;> simp at h
          · rw [← e, ht] at hb; cases hb
        · simp [e]; exact r2 j hj ht
  · exact ok
theorem addL_len (m : Int) (rows : List Rw) (r : Rw) : (addL m rows r).length ≤ rows.length + 1 := by unfold addL; split <;> simp
theorem remL_len (rows : List Rw) (i : Int) : (remL rows i).length ≤ rows.length := by unfold remL; split <;> simp [rmL_len]
theorem setL_len (m : Int) (rows : List Rw) (i k n : Int) : (setL m rows i k n).length = rows.length := by unfold setL; split <;> simp
end Go.Proofs.Ytakoejopgdaknaa

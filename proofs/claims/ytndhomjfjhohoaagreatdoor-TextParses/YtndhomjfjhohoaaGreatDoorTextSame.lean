
/- A state that was parsed reads as the one that was written; how long a text is. -/
import Derived.Test.YtndhomjfjhohoaaGreatDoorPParse
import Derived.Test.YtndhomjfjhohoaaGreatDoorKeepSame
namespace Go.Proofs.YtndhomjfjhohoaaGreatDoor
open Go Go.RowKit
set_option maxRecDepth 8000

theorem Reads.enc {α : Type} {E : El α} {w : World} {v : Value} {xs : List α} {f : α → α} (h : Reads E w v (xs.map f)) (he : ∀ x ∈ xs, E.enc (f x) = E.enc x) : Reads E w v xs := by
  obtain ⟨a, cap, e, h1, h2, h3⟩ := h
  rw [List.length_map] at e h1
  refine ⟨a, cap, e, h1, h2, fun k hk => ?_⟩
  obtain ⟨b, off, ea, hb, hc⟩ := h3 k (by rw [List.length_map]; exact hk)
  refine ⟨b, off, ea, hb, fun j hj => (hc j hj).trans ?_⟩
  rw [List.getD_eq_getElem?_getD, List.getD_eq_getElem?_getD, List.getElem?_map, List.getElem?_eq_getElem hk]
  simp only [Option.map_some, Option.getD_some]
  rw [he _ (List.getElem_mem hk)]
theorem Reads.nR {w : World} {v : Value} {rs : List Rw} (h : Reads elRow w v (rs.map nR)) (hf : ∀ r ∈ rs, FineR r) : Reads elRow w v rs :=
  h.enc fun r hr => by
    have := fun k hk => nR_at (hf r hr) (k := k) hk
    simp only [elRow]
    rw [this 0 (by omega), this 1 (by omega), this 2 (by omega), this 3 (by omega), this 4 (by omega), this 5 (by omega), this 6 (by omega), this 7 (by omega)]
    rfl
theorem lines_len {c : Nat} : ∀ {ls : List (List UInt8)}, (∀ l ∈ ls, l.length ≤ c) → (ls.flatMap fun l => l ++ [10]).length ≤ (c + 1) * ls.length
  | [], _ => by simp
  | a :: ls, h => by
    have h1 := h a (by simp)
    have h2 := lines_len (ls := ls) (fun l hl => h l (by simp [hl]))
    rw [List.flatMap_cons, List.length_append, List.length_append, List.length_singleton, List.length_cons, Nat.mul_add, Nat.mul_one]
    omega
theorem text_len {g : List Int} {rs : List Rw} {bs : List Bd} (h : zldE g rs bs = 0) : (textT g rs bs).length ≤ 1000000 := by
  obtain ⟨hf, h1, h2, h3⟩ := Fine.of h
  have h4 : ∀ l ∈ lnsT g rs bs, l.length ≤ 2000 := fun l hl => by
    rw [lnsT] at hl
    simp only [List.mem_cons, List.mem_append, List.mem_map] at hl
    rcases hl with rfl | ⟨r, hr, rfl⟩ | ⟨b, hb, rfl⟩
    · have := lnW_len gensW (ns := g) (fun n hn => (hf.gi n hn).i64)
      have hg : gensW.length = 4 := rfl
      omega
    · exact rowLn_len (hf.ri r hr)
    · exact bondLn_len (hf.bi b hb)
  have h5 := lines_len h4
  have h6 : (lnsT g rs bs).length ≤ 121 := by simp [lnsT]; omega
  rw [textT]
  refine Nat.le_trans h5 ?_
  calc 2001 * (lnsT g rs bs).length ≤ 2001 * 121 := Nat.mul_le_mul_left _ h6
    _ ≤ 1000000 := by decide
end Go.Proofs.YtndhomjfjhohoaaGreatDoor

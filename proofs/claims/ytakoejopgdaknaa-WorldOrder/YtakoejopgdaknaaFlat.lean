/- A type made of ints, structs and arrays alone: every cell of a value of it that can be read is an int of 64 bits. -/
import Derived.Test.YtakoejopgdaknaaOpen
namespace Go.Proofs.Ytakoejopgdaknaa
open Go.ChangeShapes Go.WideShapes Go.ChangeAt Go.RowKit

/-- the fields lie one behind the other from 'off' to 'tot' -/
def coversB (P : Program) : List Field → Nat → Nat → Bool
  | [], off, tot => off == tot
  | f :: fs, off, tot => f.offset == off && coversB P fs (off + P.cellsOf f.type) tot
/-- ints, and structs and arrays of these, all cells taken -/
def flatB (P : Program) : Nat → TypeId → Bool
  | 0, _ => false
  | n + 1, t => match P.underlying t with
    | some (.int .i64) => true
    | some (.struct fs) => fs.toList.all (fun f => flatB P n f.type) && coversB P fs.toList 0 (P.cellsOf t)
    | some (.array k e) => flatB P n e && (k * P.cellsOf e == P.cellsOf t)
    | _ => false

theorem coversB_mem {P : Program} {tot : Nat} : ∀ (fs : List Field) (off i : Nat), coversB P fs off tot = true → off ≤ i → i < tot → ∃ f ∈ fs, f.offset ≤ i ∧ i < f.offset + P.cellsOf f.type
  | [], off, i, h, h1, h2 => by simp [coversB] at h; omega
  | f :: fs, off, i, h, h1, h2 => by
    simp [coversB] at h
    by_cases e : i < off + P.cellsOf f.type
    · exact ⟨f, by simp, by omega, by omega⟩
    · obtain ⟨g, hg, hh⟩ := coversB_mem fs _ i h.2 (by omega) h2
      exact ⟨g, by simp [hg], hh⟩

theorem flat_cells {H : Type} {enc : TypeId × Value → H} {P : Program} {W : World} {base : Nat} {sp : Nat → Bool} {held : Bool} :
    ∀ (m : Nat) (t : TypeId) (fuel : Nat) (cs : List Value) (x : DataW H × List MemPlace), flatB P m t = true → DataW.trod enc P W base sp held fuel t cs = some x → ∀ v ∈ cs, ∃ z, v = .int .i64 z ∧ I64 z
  | 0, t, fuel, cs, x, hf, h => by simp [flatB] at hf
  | m + 1, t, fuel, cs, x, hf, h => by
    rw [flatB] at hf
    split at hf
    · rename_i ht
      obtain ⟨n, rfl, _, wn⟩ := DataW.trod_int ht h
      intro v hv
      simp at hv
      exact ⟨n, hv, I64_of wn⟩
    · rename_i fs ht
      obtain ⟨xs, n, _, _, hl, hlen, hp⟩ := DataW.trod_struct ht h
      simp only [Bool.and_eq_true, List.all_eq_true] at hf
      intro v hv
      obtain ⟨i, hi, rfl⟩ := List.getElem_of_mem hv
      obtain ⟨f, hfm, h1, h2⟩ := coversB_mem _ 0 i hf.2 (by omega) (by omega)
      obtain ⟨j, hj, e⟩ := List.getElem_of_mem hfm
      have hj' : fs[j]? = some f := by simp at hj e; rw [Array.getElem?_eq_getElem hj, e]
      have hx := hp j f hj'
      have hjx : j < xs.length := by simp at hj; omega
      rw [List.getElem?_eq_getElem hjx] at hx
      refine flat_cells m f.type n _ _ (hf.1 f hfm) hx _ ?_
      refine List.mem_iff_getElem?.2 ⟨i - f.offset, ?_⟩
      rw [List.getElem?_take_of_lt (by omega), List.getElem?_drop, show f.offset + (i - f.offset) = i from by omega, List.getElem?_eq_getElem hi]
    · rename_i k e ht
      obtain ⟨xs, n, _, _, hl, hlen, hp⟩ := DataW.trod_array ht h
      simp only [Bool.and_eq_true, beq_iff_eq] at hf
      intro v hv
      obtain ⟨i, hi, rfl⟩ := List.getElem_of_mem hv
      have hpos : 0 < P.cellsOf e := by
        rcases Nat.eq_zero_or_pos (P.cellsOf e) with h0 | h0
        · rw [h0] at hf; omega
        · exact h0
      have hq : i / P.cellsOf e < k := by
        rw [Nat.div_lt_iff_lt_mul hpos]; omega
      have hx := hp (i / P.cellsOf e) hq
      rw [List.getElem?_eq_getElem (by omega)] at hx
      refine flat_cells m e n _ _ hf.1 hx _ ?_
      refine List.mem_iff_getElem?.2 ⟨i % P.cellsOf e, ?_⟩
      have hm := Nat.mod_lt i hpos
      have hd := Nat.div_add_mod i (P.cellsOf e)
      rw [List.getElem?_take_of_lt hm, List.getElem?_drop, show i / P.cellsOf e * P.cellsOf e + i % P.cellsOf e = i from by rw [Nat.mul_comm]; exact hd, List.getElem?_eq_getElem hi]
    · cases hf

theorem ints_of_cells : ∀ (cs : List Value), (∀ v ∈ cs, ∃ z, v = Value.int .i64 z ∧ I64 z) → ∃ zs : List Int, cs = zs.map (Value.int .i64) ∧ ∀ z ∈ zs, I64 z
  | [], _ => ⟨[], rfl, by simp⟩
  | v :: cs, h => by
    obtain ⟨z, rfl, hz⟩ := h v (by simp)
    obtain ⟨zs, rfl, hs⟩ := ints_of_cells cs (fun v hv => h v (by simp [hv]))
    exact ⟨z :: zs, rfl, by simpa using ⟨hz, hs⟩⟩

/-- A struct of ints, handed over by value. -/
theorem open_flat {H : Type} {enc : TypeId × Value → H} {P : Program} {W : World} {base b0 : Nat} {sp : Nat → Bool} {held : Bool} {r : Reach} {t : TypeId} {fs : Array Field} {v : Value} {d : DataW H} {p : List MemPlace} (m n : Nat)
    (ht : P.underlying t = some (.struct fs)) (hn : P.cellsOf t = n) (hf : flatB P m t = true) (hv : Value.okWide P W r b0 t v) (h : DataW.Trod enc P W base sp held t v d p) :
    ∃ zs : List Int, zs.length = n ∧ v = .agg (zs.map (Value.int .i64)).toArray ∧ ∀ z ∈ zs, I64 z := by
  obtain ⟨cs, rfl, hsz⟩ := okWide_struct ht hv
  obtain ⟨fuel, hh⟩ := h
  obtain ⟨zs, e, hz⟩ := ints_of_cells _ (flat_cells m t fuel _ _ hf hh)
  have e' : cs.toList = zs.map (Value.int .i64) := by simpa [Value.cells] using e
  refine ⟨zs, ?_, ?_, hz⟩
  · have := congrArg List.length e'
    simp at this; omega
  · rw [← e']
theorem list9 {zs : List Int} (h : zs.length = 9) : ∃ m v0 v1 v2 v3 v4 v5 v6 v7, zs = [m, v0, v1, v2, v3, v4, v5, v6, v7] := by
  match zs, h with
  | [m, v0, v1, v2, v3, v4, v5, v6, v7], _ => exact ⟨m, v0, v1, v2, v3, v4, v5, v6, v7, rfl⟩
end Go.Proofs.Ytakoejopgdaknaa

/- The form's own reach: how long a slice that came in may be. -/
import Derived.Test.YtakoejopgdaknaaOpenRows
import Derived.SizedLaws
namespace Go.Proofs.Ytakoejopgdaknaa
open Go.ChangeShapes Go.WideShapes Go.ChangeAt Go.RowKit Go.Deep

theorem trod_len {H : Type} {enc : TypeId × Value → H} {P : Program} {W : World} {base : Nat} {held : Bool} {T e : TypeId} {a : Option Addr} {len cap B : Nat} {d : DataW H} {p : List MemPlace}
    (hT : P.underlying T = some (.slice e)) (hB : P.bytesOf e = B) (h : DataW.Trod enc P W base (fun _ => true) held T (.slice a len cap) d p) (hs : ∀ elems spare, d = .slice elems spare → (elems.length + spare.length) * P.bytesOf e ≤ reachBytes) : len * B ≤ 140737488351232 := by
  obtain ⟨fuel, hf⟩ := h
  rcases open_slice hT hf with ⟨hcs, _⟩ | ⟨x, l, c, m, n, D, Pl, hcs, _, hl, hm, hmm, hx, hi⟩
  · simp [Value.cells] at hcs
    obtain ⟨rfl, rfl, rfl⟩ := hcs
    simp
  · simp [Value.cells] at hcs
    obtain ⟨rfl, rfl, rfl⟩ := hcs
    simp only [Prod.mk.injEq] at hx
    have := hs _ _ hx.1
    rw [hB] at this
    simp only [List.length_map, List.length_range] at this
    have e1 : len * B ≤ (len + (m - len)) * B := Nat.mul_le_mul_right _ (by omega)
    exact Nat.le_trans e1 (Nat.le_trans this (by decide))
end Go.Proofs.Ytakoejopgdaknaa

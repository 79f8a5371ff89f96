/- How slices that came in are opened: of elements that lie in cells by an encoding: handles, bools. -/
import Derived.Test.YtakoejopgdaknaaFlat
import Derived.Test.YtakoejopgdaknaaEls
import Derived.Deep.Slices
namespace Go.Proofs.Ytakoejopgdaknaa
open Go.ChangeShapes Go.WideShapes Go.ChangeAt Go.RowKit Go.Deep

theorem list_of_index {α : Type} {p : Nat → α → Prop} : ∀ (n : Nat), (∀ i, i < n → ∃ x, p i x) → ∃ xs : List α, xs.length = n ∧ ∀ i x, xs[i]? = some x → p i x
  | 0, _ => ⟨[], rfl, by simp⟩
  | n + 1, h => by
    obtain ⟨xs, hl, hx⟩ := list_of_index n (fun i hi => h i (by omega))
    obtain ⟨x, hp⟩ := h n (by omega)
    refine ⟨xs ++ [x], by simp [hl], fun i y hy => ?_⟩
    rcases Nat.lt_or_ge i n with hi | hi
    · rw [List.getElem?_append_left (by omega)] at hy; exact hx i y hy
    · have : i = n := by have := (List.getElem?_eq_some_iff.1 hy).1; simp [hl] at this; omega
      subst this
      rw [List.getElem?_append_right (by omega), hl] at hy
      simp at hy; subst hy; exact hp

theorem addr_add (b off i : Nat) : (⟨b, off, none⟩ : Addr).add i = ⟨b, off + i, none⟩ := by
  unfold Addr.add; split <;> simp_all

theorem Reads_ofP {α : Type} (E : El α) (OK : α → Prop) {H : Type} {enc : TypeId × Value → H} {P : Program} {W : World} {base : Nat} {held : Bool} {T e : TypeId} {a : Option Addr} {len cap : Nat} {d : DataW H} {p : List MemPlace}
    (hT : P.underlying T = some (.slice e)) (hC : P.cellsOf e = E.size) (hdec : ∀ (fuel : Nat) (cs : List Value) x, cs.length = E.size → DataW.trod enc P W base (fun _ => true) held fuel e cs = some x → ∃ y : α, cs = E.enc y ∧ OK y)
    (h : DataW.Trod enc P W base (fun _ => true) held T (.slice a len cap) d p) : ∃ xs, Reads E W (.slice a len cap) xs ∧ ∀ x ∈ xs, OK x := by
  obtain ⟨fuel, hf⟩ := h
  rcases open_slice hT hf with ⟨hcs, _⟩ | ⟨x, l, c, m, n, D, Pl, hcs, _, hl, hm, hmm, _, hi⟩
  · simp [Value.cells] at hcs
    obtain ⟨rfl, rfl, rfl⟩ := hcs
    exact ⟨[], ⟨none, 0, rfl, by simp, by simp [maxLen], fun k hk => by simp at hk⟩, by simp⟩
  · simp [Value.cells] at hcs
    obtain ⟨rfl, rfl, rfl⟩ := hcs
    simp at hmm
    subst hmm
    have hex : ∀ i, i < len → ∃ y : α, (∀ j, j < E.size → W.cell? ((x.add (i * E.size)).add j) = (E.enc y)[j]?) ∧ OK y := fun i hil => by
      obtain ⟨cs', hc, ht⟩ := hi i (by omega)
      rw [hC] at hc
      obtain ⟨_, hlen, hat⟩ := World.cells?_some hc
      obtain ⟨y, rfl, hy⟩ := hdec _ _ _ hlen ht
      exact ⟨y, hat, hy⟩
    obtain ⟨xs, hxl, hx⟩ := list_of_index len hex
    refine ⟨xs, ⟨some x, m, by rw [hxl], by omega, hm, fun k hk => ?_⟩, fun y hy => ?_⟩
    · have hk' := (hx k xs[k] (List.getElem?_eq_getElem hk)).1
      have h0 := hk' 0 E.pos
      have hs : x.spot = none := by
        have hx0 := (hx 0 (xs[0]'(by omega)) (List.getElem?_eq_getElem (by omega))).1 0 E.pos
        have hh : W.cell? ((x.add (0 * E.size)).add 0) = some ((E.enc (xs[0]'(by omega)))[0]'(by rw [E.len]; exact E.pos)) := by rw [hx0, List.getElem?_eq_getElem]
        have := World.cell?_spot hh
        simpa [Addr.add] using this
      obtain ⟨b, off, spot⟩ := x
      simp only at hs
      subst hs
      have hg : xs.getD k E.zero = xs[k] := by rw [List.getD_eq_getElem?_getD, List.getElem?_eq_getElem hk]; rfl
      refine ⟨b, off, rfl, ?_, fun j hj => ?_⟩
      · have hh : W.cell? ((⟨b, off, none⟩ : Addr).add (k * E.size)) = some ((E.enc xs[k])[0]'(by rw [E.len]; exact E.pos)) := by
          have := h0; rw [addr_add, addr_add, Nat.add_zero] at this; rw [addr_add, this, List.getElem?_eq_getElem]
        rw [addr_add] at hh
        exact World.block_lt_of_cell? _ _ hh
      · have := hk' j hj
        rw [addr_add, addr_add] at this
        rw [hg]; exact this
    · obtain ⟨i, hi', rfl⟩ := List.getElem_of_mem hy
      exact (hx i _ (List.getElem?_eq_getElem hi')).2
theorem Reads_of {α : Type} (E : El α) {H : Type} {enc : TypeId × Value → H} {P : Program} {W : World} {base : Nat} {held : Bool} {T e : TypeId} {a : Option Addr} {len cap : Nat} {d : DataW H} {p : List MemPlace}
    (hT : P.underlying T = some (.slice e)) (hC : P.cellsOf e = E.size) (hdec : ∀ (fuel : Nat) (cs : List Value) x, cs.length = E.size → DataW.trod enc P W base (fun _ => true) held fuel e cs = some x → ∃ y : α, cs = E.enc y)
    (h : DataW.Trod enc P W base (fun _ => true) held T (.slice a len cap) d p) : ∃ xs, Reads E W (.slice a len cap) xs := by
  obtain ⟨xs, hx, _⟩ := Reads_ofP E (fun _ => True) hT hC (fun fuel cs x hl ht => by obtain ⟨y, e⟩ := hdec fuel cs x hl ht; exact ⟨y, e, trivial⟩) h
  exact ⟨xs, hx⟩

theorem hand_dec {H : Type} {enc : TypeId × Value → H} {W : World} {base : Nat} {sp : Nat → Bool} {held : Bool} (fuel : Nat) (cs : List Value) (x) (hl : cs.length = elHand.size) (h : DataW.trod enc Try.prog W base sp held fuel 38 cs = some x) : ∃ y, cs = elHand.enc y := by
  obtain ⟨zs, rfl, _⟩ := ints_of_cells cs (flat_cells 3 38 fuel cs x (by kernel_rfl) h)
  have hl' : zs.length = 2 := by simpa [elHand] using hl
  match zs, hl' with
  | [u, v], _ => exact ⟨(u, v), rfl⟩
theorem bool_dec {H : Type} {enc : TypeId × Value → H} {W : World} {base : Nat} {sp : Nat → Bool} {held : Bool} (fuel : Nat) (cs : List Value) (x) (_ : cs.length = elBool.size) (h : DataW.trod enc Try.prog W base sp held fuel 4 cs = some x) : ∃ y, cs = elBool.enc y := by
  obtain ⟨b, rfl, _⟩ := DataW.trod_bool Try.underlying4 h
  exact ⟨b, rfl⟩
end Go.Proofs.Ytakoejopgdaknaa

/- The slots of the program and of the reference, side by side, apart in memory. -/
import Derived.Test.YtdaefadapkkgjaaRefTake
namespace Go.Proofs.Ytdaefadapkkgjaa
open Go.RowKit

/-- Both kinds of slots, side by side, apart, all in blocks from B on. -/
structure Both (w0 w : World) (p q : Nat) (F G : Nat → Prop) (l : List (Int × Bool)) : Prop where
  s : SlotsAt w p F l
  r : RefAt w q 29 [] G l
  apart : ∀ k, F k → ¬ G k
  fb : ∀ k, F k → w0.heap.size ≤ k
  gb : ∀ k, G k → w0.heap.size ≤ k
  ok : SlotOk l
  below : Below w0.heap.size w0 w

theorem Both.later {w0 w w' : World} {p q : Nat} {F G : Nat → Prop} {l : List (Int × Bool)} (h : Both w0 w p q F G l) (hb : Below w.heap.size w w') : Both w0 w' p q F G l :=
  ⟨h.s.later hb, h.r.later hb, h.apart, h.fb, h.gb, h.ok, nb_trans h.below hb⟩
/-- Each has done the same. -/
theorem Both.moved {w0 w w1 w2 : World} {p q : Nat} {F G F' G' : Nat → Prop} {l l' : List (Int × Bool)} (h : Both w0 w p q F G l) (hs : SlotsAt w1 p F' l') (k1 : Kept F w w1) (m1 : Moves w F F') (k2 : Kept G w1 w2) (m2 : Moves w1 G G') (hr : RefAt w2 q 29 [] G' l') (ok : SlotOk l') : Both w0 w2 p q F' G' l' := by
  have hap : ∀ k, F' k → ¬ G k := m1.apart h.r.lt h.apart
  exact ⟨hs.kept k2 hap, hr, m2.apart' hs.lt (fun k hk hg => hap k hk hg), m1.above h.below.size h.fb, m2.above (Nat.le_trans h.below.size k1.size) h.gb, ok,
    (h.below.trans (k1.below h.below.size h.fb)).trans (k2.below (Nat.le_trans h.below.size k1.size) h.gb)⟩

theorem Both.start (w : World) : Both w ((w.alloc (.cells #[.slice none 0 0] 53)).alloc (.cells #[.slice none 0 0, .slice none 0 0] 29)) w.heap.size (w.heap.size + 1) (fun k => k = w.heap.size) (fun k => k = w.heap.size + 1) [] := by
  refine ⟨⟨.slice none 0 0, heap_alloc2_old w _ _, Owns.nil _ _ _, rfl, (fun k hk => by cases hk), (fun k hk => by simp; omega)⟩, ⟨.slice none 0 0, .slice none 0 0, heap_alloc2_new w _ _, Owns.nil _ _ _, Owns.nil _ _ _, rfl, (fun k hk => by cases hk), (fun k hk => by cases hk), (fun k hk => by simp; omega)⟩, (fun k hk => by omega), (fun k hk => by omega), (fun k hk => by omega), SlotOk.nil, nb_alloc (nb_alloc (Below.refl _ _) _) _⟩
theorem Both.gens {w0 w : World} {p q : Nat} {F G : Nat → Prop} {l : List (Int × Bool)} (h : Both w0 w p q F G l) : ∃ vg, w.cell? ⟨q, 0, none⟩ = some vg ∧ q < w.heap.size ∧ ∀ x, Below w.heap.size w x → Ints x vg (gensL l) := by
  have hq := h.r.lt
  obtain ⟨vg, vl, hqh, hg, _, hG, _⟩ := h.r
  exact ⟨vg, by rw [cell_of_row _ _ _ _ _ _ hqh]; simp, hq q hG, fun x hx => Ints.ofReads (hg.later hx).reads⟩
end Go.Proofs.Ytdaefadapkkgjaa

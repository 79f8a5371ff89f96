/- Slots of a law's own, and what stays true of them. -/
import Derived.Test.YtdaefadapkkgjaaSlotAll
namespace Go.Proofs.Ytdaefadapkkgjaa
open Go.RowKit

/-- Slots of the law's own. -/
structure Own1 (w0 w : World) (p : Nat) (F : Nat → Prop) (l : List (Int × Bool)) : Prop where
  s : SlotsAt w p F l
  fb : ∀ k, F k → w0.heap.size ≤ k
  ok : SlotOk l
  below : Below w0.heap.size w0 w
theorem Own1.later {w0 w w' : World} {p : Nat} {F : Nat → Prop} {l : List (Int × Bool)} (h : Own1 w0 w p F l) (hb : Below w.heap.size w w') : Own1 w0 w' p F l := ⟨h.s.later hb, h.fb, h.ok, nb_trans h.below hb⟩
theorem Own1.moved {w0 w w1 : World} {p : Nat} {F F' : Nat → Prop} {l l' : List (Int × Bool)} (h : Own1 w0 w p F l) (hs : SlotsAt w1 p F' l') (k1 : Kept F w w1) (m1 : Moves w F F') (ok : SlotOk l') : Own1 w0 w1 p F' l' :=
  ⟨hs, m1.above h.below.size h.fb, ok, h.below.trans (k1.below h.below.size h.fb)⟩

end Go.Proofs.Ytdaefadapkkgjaa

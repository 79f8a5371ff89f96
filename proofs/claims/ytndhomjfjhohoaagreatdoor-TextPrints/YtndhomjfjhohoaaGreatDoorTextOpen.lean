/- A state's slices, opened. -/
import Derived.Test.YtndhomjfjhohoaaGreatDoorGroundA
import Derived.Test.YtndhomjfjhohoaaGreatDoorGroundH
import Derived.ProofKit
import Derived.OpenShut
namespace Go.Proofs.YtndhomjfjhohoaaGreatDoor
open Go.ChangeShapes Go.WideShapes Go.ChangeAt Go.RowKit Go.Deep
theorem slice_of {H : Type} {enc : TypeId × Value → H} {P : Program} {W : World} {base : Nat} {sp : Nat → Bool} {held : Bool} {T e : TypeId} {m : Nat} {v : Value} {y : DataW H × List MemPlace} (hT : P.underlying T = some (.slice e)) (h : DataW.trod enc P W base sp held m T [v] = some y) : ∃ a l k, v = .slice a l k := by
  rcases open_slice hT h with ⟨hcs, _⟩ | ⟨x, l, c, m, n, D, Pl, hcs, _⟩
  · exact ⟨_, _, _, by simpa using hcs⟩
  · exact ⟨_, _, _, by simpa using hcs⟩
theorem bond_dec {H : Type} {enc : TypeId × Value → H} {W : World} {base : Nat} {sp : Nat → Bool} {held : Bool} (fuel : Nat) (cs : List Value) (x) (hl : cs.length = elBond.size) (h : DataW.trod enc Tryz.prog W base sp held fuel 58 cs = some x) : ∃ y, cs = elBond.enc y := by
  obtain ⟨zs, rfl, _⟩ := ints_of_cells cs (flat_cells 5 58 fuel cs x (by kernel_rfl) h)
  have hl' : zs.length = 4 := by simpa [elBond] using hl
  match zs, hl' with
  | [a, b, c, d], _ => exact ⟨((a, b), (c, d)), rfl⟩
end Go.Proofs.YtndhomjfjhohoaaGreatDoor

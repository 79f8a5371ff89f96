/- Operations and rows that came in. -/
import Derived.Test.YtlclceiebnnpgaaGroundA
namespace Go.Proofs.Ytlclceiebnnpgaa
open Go.ChangeShapes Go.WideShapes Go.ChangeAt Go.RowKit Go.Deep

theorem row_dec {H : Type} {enc : TypeId × Value → H} {W : World} {base : Nat} {sp : Nat → Bool} {held : Bool} (fuel : Nat) (cs : List Value) (x) (hl : cs.length = elRow.size) (h : DataW.trod enc Try.prog W base sp held fuel 127 cs = some x) : ∃ y, cs = elRow.enc y := by
  obtain ⟨zs, rfl, _⟩ := ints_of_cells cs (flat_cells 5 127 fuel cs x (by kernel_rfl) h)
  have hl' : zs.length = 11 := by simpa [elRow] using hl
  match zs, hl' with
  | [a4, a5, a6, a7, a8, a9, a10, a11, a12, a13, a14], _ => exact ⟨⟨a4, a5, a6, fun j => [a7, a8, a9, a10, a11, a12, a13, a14].getD j 0⟩, rfl⟩
/-- An operation: what to do, a beast, two handles, a component, a value. -/
structure Opm where
  d : Int
  m : Int
  f : Nat → Int
  a : Int
  b : Int
  ta : Int
  tb : Int
  k : Int
  n : Int
def opZ : Opm := ⟨0, 0, fun _ => 0, 0, 0, 0, 0, 0, 0⟩
def elOp : El Opm := { enc := fun x => [.int .i64 x.d, .int .i64 x.m, .int .i64 (x.f 0), .int .i64 (x.f 1), .int .i64 (x.f 2), .int .i64 (x.f 3), .int .i64 (x.f 4), .int .i64 (x.f 5), .int .i64 (x.f 6), .int .i64 (x.f 7), .int .i64 x.a, .int .i64 x.b, .int .i64 x.ta, .int .i64 x.tb, .int .i64 x.k, .int .i64 x.n], size := 16, zero := opZ, len := fun _ => rfl, pos := by decide, one := fun x u hu => by simp at hu; rcases hu with rfl | rfl | rfl | rfl | rfl | rfl | rfl | rfl | rfl | rfl | rfl | rfl | rfl | rfl | rfl | rfl <;> rfl }
/-- its handles fit 64 bits -/
def OpOk (x : Opm) : Prop := I64 x.a ∧ I64 x.b ∧ I64 x.ta ∧ I64 x.tb
theorem op_dec {H : Type} {enc : TypeId × Value → H} {W : World} {base : Nat} {sp : Nat → Bool} {held : Bool} (fuel : Nat) (cs : List Value) (x) (hl : cs.length = elOp.size) (h : DataW.trod enc Try.prog W base sp held fuel 40 cs = some x) : ∃ y, cs = elOp.enc y ∧ OpOk y := by
  obtain ⟨zs, rfl, hz⟩ := ints_of_cells cs (flat_cells 5 40 fuel cs x (by kernel_rfl) h)
  have hl' : zs.length = 16 := by simpa [elOp] using hl
  match zs, hl', hz with
  | [a0, a1, a2, a3, a4, a5, a6, a7, a8, a9, a10, a11, a12, a13, a14, a15], _, hz => exact ⟨⟨a0, a1, fun j => [a2, a3, a4, a5, a6, a7, a8, a9].getD j 0, a10, a11, a12, a13, a14, a15⟩, rfl, hz a10 (by simp), hz a11 (by simp), hz a12 (by simp), hz a13 (by simp)⟩
end Go.Proofs.Ytlclceiebnnpgaa

/- Deeds that came in; the tables of the program and of the reference, side by side. -/
import Derived.Test.YtdlbljheobkfaaaOpenSized
import Derived.Test.YtdlbljheobkfaaaTableNew
import Derived.Test.YtdlbljheobkfaaaRefTable4
namespace Go.Proofs.Ytdlbljheobkfaaa
open Go.ChangeShapes Go.WideShapes Go.ChangeAt Go.RowKit Go.Deep

/-- A deed: what to do, a row's number, a component, a value, a row. -/
structure Dd where
  d : Int
  i : Int
  k : Int
  n : Int
  r : Rw
def ddZ : Dd := ⟨0, 0, 0, 0, rowZ⟩
def elDeed : El Dd := { enc := fun x => [.int .i64 x.d, .int .i64 x.i, .int .i64 x.k, .int .i64 x.n, .int .i64 x.r.s, .int .i64 x.r.g, .int .i64 x.r.m, .int .i64 (x.r.f 0), .int .i64 (x.r.f 1), .int .i64 (x.r.f 2), .int .i64 (x.r.f 3), .int .i64 (x.r.f 4), .int .i64 (x.r.f 5), .int .i64 (x.r.f 6), .int .i64 (x.r.f 7)], size := 15, zero := ddZ, len := fun _ => rfl, pos := by decide, one := fun x u hu => by simp at hu; rcases hu with rfl | rfl | rfl | rfl | rfl | rfl | rfl | rfl | rfl | rfl | rfl | rfl | rfl | rfl | rfl <;> rfl }
theorem deed_dec {H : Type} {enc : TypeId × Value → H} {W : World} {base : Nat} {sp : Nat → Bool} {held : Bool} (fuel : Nat) (cs : List Value) (x) (hl : cs.length = elDeed.size) (h : DataW.trod enc Try.prog W base sp held fuel 37 cs = some x) : ∃ y, cs = elDeed.enc y := by
  obtain ⟨zs, rfl, _⟩ := ints_of_cells cs (flat_cells 5 37 fuel cs x (by kernel_rfl) h)
  have hl' : zs.length = 15 := by simpa [elDeed] using hl
  match zs, hl' with
  | [a0, a1, a2, a3, a4, a5, a6, a7, a8, a9, a10, a11, a12, a13, a14], _ => exact ⟨⟨a0, a1, a2, a3, ⟨a4, a5, a6, fun j => [a7, a8, a9, a10, a11, a12, a13, a14].getD j 0⟩⟩, rfl⟩

/-- Both tables, side by side, apart, all in blocks of the law's own. -/
structure BothT (w0 w : World) (p q : Nat) (F G : Nat → Prop) (m : Int) (rows : List Rw) : Prop where
  t : TableAt w p F m rows
  r : RefTab w q G m rows
  apart : ∀ k, F k → ¬ G k
  fb : ∀ k, F k → w0.heap.size ≤ k
  gb : ∀ k, G k → w0.heap.size ≤ k
  ok : TabOk m rows
  below : Below w0.heap.size w0 w
theorem BothT.later {w0 w w' : World} {p q : Nat} {F G : Nat → Prop} {m : Int} {rows : List Rw} (h : BothT w0 w p q F G m rows) (hb : Below w.heap.size w w') : BothT w0 w' p q F G m rows :=
  ⟨h.t.later hb, h.r.later hb, h.apart, h.fb, h.gb, h.ok, nb_trans h.below hb⟩
/-- The program's has been turned, then something was made, then the reference's. -/
theorem BothT.moved {w0 w w1 w1' w2 : World} {p q : Nat} {F G F' G' : Nat → Prop} {m : Int} {rows rows' : List Rw} (h : BothT w0 w p q F G m rows) (ht : TableAt w1 p F' m rows') (k1 : Kept F w w1) (m1 : Moves w F F') (hb : Below w1.heap.size w1 w1') (hr : RefTab w2 q G' m rows') (k2 : Kept G w1' w2) (m2 : Moves w1' G G') (ok : TabOk m rows') : BothT w0 w2 p q F' G' m rows' := by
  have hap : ∀ k, F' k → ¬ G k := m1.apart h.r.lt h.apart
  have hs := h.below.size
  have hs1 := k1.size
  have hs2 := hb.size
  exact ⟨(ht.later hb).kept k2 hap, hr, m2.apart' (ht.later hb).lt (fun k hk hg => hap k hk hg), m1.above hs h.fb, m2.above (by omega) h.gb, ok,
    ((h.below.trans (k1.below hs h.fb)).trans (hb.mono (by omega))).trans (k2.below (by omega) h.gb)⟩
theorem BothT.start {w w1 : World} {p : Nat} {F : Nat → Prop} {m : Int} (ht : TableAt w1 p F m []) (hF : ∀ b, F b → w.heap.size ≤ b) (hb : Below w.heap.size w w1) (h0 : 0 ≤ m) (h1 : m ≤ 255) : BothT w (w1.alloc (.cells #[.int .i64 m, .slice none 0 0] 30)) p w1.heap.size F (fun k => k = w1.heap.size) m [] := by
  have hs := hb.size
  exact ⟨ht.later (nb_alloc (Below.refl _ _) _), ⟨.slice none 0 0, ⟨heap_alloc_new w1 _, rfl, OwnsF.nil _ _ _ _, fun k e => by simp [Value.ownBlock] at e⟩, rfl, fun k e => by simp [Value.ownBlock] at e, fun k e => by simp; omega⟩, fun k hk e => by have := ht.lt k hk; omega, hF, fun k e => by omega, TabOk.nil h0 h1, nb_alloc hb _⟩
end Go.Proofs.Ytdlbljheobkfaaa

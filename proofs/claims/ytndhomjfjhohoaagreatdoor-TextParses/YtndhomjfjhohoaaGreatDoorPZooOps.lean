
/- The embedded methods of the program's zoo: what each returns and leaves of the whole. -/
import Derived.Test.YtndhomjfjhohoaaGreatDoorPZooAt
import Derived.Test.YtndhomjfjhohoaaGreatDoorGroundE
import Derived.Test.YtndhomjfjhohoaaGreatDoorGroundF
import Derived.Test.YtndhomjfjhohoaaGreatDoorGroundH
namespace Go.Proofs.YtndhomjfjhohoaaGreatDoor
set_option maxRecDepth 8000
open Go.RowKit

def PzPost (w : World) (p : Nat) (F : Nat → Prop) (x : Value) (s' : Zs) (e : Ending) (w' : World) : Prop := e = .returned x ∧ ∃ F', PzAt w' p F' s' ∧ Kept F w w' ∧ Moves w F F'
section
variable {w w' : World} {p : Nat} {F : Nat → Prop} {s : Zs}
theorem PzPost.same {x : Value} (h : PzAt w p F s) (hb : Below w.heap.size w w') : PzPost w p F x s (.returned x) w' := ⟨rfl, F, h.later hb, Kept.ofBelow hb, Moves.refl _ _⟩
/-- What has been made before a call does not matter. -/
theorem PzPost.from {X : World} {x : Value} {s' : Zs} {e : Ending} (h : PzPost X p F x s' e w') (hX : Below w.heap.size w X) : PzPost w p F x s' e w' := by
  obtain ⟨h1, F', h2, h3, h4⟩ := h
  exact ⟨h1, F', h2, (Kept.ofBelow hX).trans h3 (fun _ h => .inl h), fun b hb => (h4 b hb).imp id (fun e => Nat.le_trans hX.size e)⟩
theorem ZOk.lenM (ok : ZOk s) : s.bs.length < maxLen := by have := ok.len; unfold maxLen; omega
end

theorem pzLive (p : Nat) (F : Nat → Prop) (s : Zs) (a b : Int) (g : Bool) (w : World) (h : PzAt w p F s) (hg : liveH s.l (a, b) = g) :
    Calls Tryz.prog 88 #[.pointer (some ⟨p, 0, none⟩), .agg #[.int .i64 a, .int .i64 b]] w fun e w' => e = .returned (.bool g) ∧ Below w.heap.size w w' := by
  obtain ⟨F0, F1, u, vm, hz, rfl⟩ := h.open
  obtain ⟨c, tm, pm, ks, tb, tr, hk, pl, h2⟩ := hz.wld
  rw [← hg]
  exact live_any p _ s.l a b w h2.slots
theorem pzParent (p : Nat) (F : Nat → Prop) (s : Zs) (a b c d : Int) (g : Bool) (w : World) (h : PzAt w p F s) (ok : ZOk s) (ha : I64r a) (hb : I64r b) (hq : parB s.bs (a, b) = (c, d)) (hg : hasP s.bs (a, b) = g) :
    Calls Tryz.prog 75 #[.pointer (some ⟨p, 3, none⟩), .agg #[.int .i64 a, .int .i64 b]] w fun e w' => e = .returned (.tuple #[.agg #[.int .i64 c, .int .i64 d], .bool g]) ∧ Below w.heap.size w w' := by
  obtain ⟨F0, F1, u, vm, hz, rfl⟩ := h.open
  exact famParent_any p F1 s.bs a b c d g w ⟨vm, hz.fam⟩ ok.f.sorted ha hb hq hg
theorem pzAdopt (p : Nat) (F : Nat → Prop) (s : Zs) (a b c d : Int) (w : World) (h : PzAt w p F s) (ok : ZOk s) (hab : okH (a, b)) (hcd : okH (c, d)) :
    Calls Tryz.prog 92 #[.pointer (some ⟨p, 3, none⟩), .agg #[.int .i64 a, .int .i64 b], .agg #[.int .i64 c, .int .i64 d]] w (PzPost w p F (.int .i64 (adoptE s.bs (a, b) (c, d))) ⟨s.l, s.rows, adoptB s.bs (a, b) (c, d)⟩) := by
  obtain ⟨F0, F1, u, vm, hz, rfl⟩ := h.open
  exact (famAdopt_any p F1 s.bs a b c d w ⟨vm, hz.fam⟩ ok.f hab hcd ok.lenM).mono fun e w' ⟨he, _, h1, h2, h3⟩ => ⟨he, hz.famStep h1 h2 h3⟩
end Go.Proofs.YtndhomjfjhohoaaGreatDoor

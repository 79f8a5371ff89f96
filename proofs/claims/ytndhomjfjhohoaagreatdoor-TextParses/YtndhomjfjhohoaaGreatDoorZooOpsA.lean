
/- Some of the reference's functions on its whole zoo: what each returns and leaves. -/
import Derived.Test.YtndhomjfjhohoaaGreatDoorZooFull
import Derived.Test.YtndhomjfjhohoaaGreatDoorGroundG
import Derived.Test.YtndhomjfjhohoaaGreatDoorRefAdopt
namespace Go.Proofs.YtndhomjfjhohoaaGreatDoor
set_option maxRecDepth 8000
open Go.RowKit

def ZfPost (w : World) (q : Nat) (G : Nat → Prop) (x : Value) (s' : Zs) (e : Ending) (w' : World) : Prop := e = .returned x ∧ ∃ G', ZfAt w' q G' s' ∧ Kept G w w' ∧ Moves w G G'
section
variable {w w' : World} {q : Nat} {G : Nat → Prop} {s : Zs}
theorem ZfPost.same {x : Value} (h : ZfAt w q G s) (hb : Below w.heap.size w w') : ZfPost w q G x s (.returned x) w' := ⟨rfl, G, h.later hb, Kept.ofBelow hb, Moves.refl _ _⟩
theorem ZfAt.open (h : ZfAt w q G s) : ∃ G0 G1 vB, ZfIs w q G0 G1 s vB ∧ G = fun b => G0 b ∨ G1 b := by
  obtain ⟨G0, G1, vB, h, hG⟩ := h
  exact ⟨G0, G1, vB, h, funext fun b => propext (hG b)⟩
theorem ZOk.len32 (ok : ZOk s) : s.bs.length * 32 ≤ 140737488300000 := by have := ok.len; omega
end

theorem atI_live {s : Zs} (ok : ZOk s) {a b : Int} (h : liveH s.l (a, b) = true) : (0 : Int) ≤ atI s.rows a b := by
  rw [atI_yes (by rw [ok.has (a, b)]; exact h)]; omega
theorem atI_dead {s : Zs} (ok : ZOk s) {a b : Int} (h : liveH s.l (a, b) = false) : atI s.rows a b = -1 := atI_no (by rw [ok.has (a, b)]; exact h)

theorem zfAtI (q : Nat) (G : Nat → Prop) (s : Zs) (a b : Int) (w : World) (h : ZfAt w q G s) :
    Calls Tryz.prog 65 #[.pointer (some ⟨q, 0, none⟩), .agg #[.int .i64 a, .int .i64 b]] w fun e w' => e = .returned (.int .i64 (atI s.rows a b)) ∧ Below w.heap.size w w' := by
  obtain ⟨G0, G1, vB, hz, rfl⟩ := h.open
  exact refAtI_any q G0 s.l s.rows vB a b w hz.zoo
theorem zfParent (q : Nat) (G : Nat → Prop) (s : Zs) (a b c d : Int) (g : Bool) (w : World) (h : ZfAt w q G s) (hq : parB s.bs (a, b) = (c, d)) (hg : hasP s.bs (a, b) = g) :
    Calls Tryz.prog 66 #[.pointer (some ⟨q, 0, none⟩), .agg #[.int .i64 a, .int .i64 b]] w fun e w' => e = .returned (.tuple #[.agg #[.int .i64 c, .int .i64 d], .bool g]) ∧ Below w.heap.size w w' := by
  obtain ⟨G0, G1, vB, hz, rfl⟩ := h.open
  exact refParent_any q _ s.bs a b c d g w hz.bon hq hg
theorem zfAdopt (q : Nat) (G : Nat → Prop) (s : Zs) (a b c d : Int) (w : World) (h : ZfAt w q G s) (ok : ZOk s) :
    Calls Tryz.prog 67 #[.pointer (some ⟨q, 0, none⟩), .agg #[.int .i64 a, .int .i64 b], .agg #[.int .i64 c, .int .i64 d]] w (ZfPost w q G (.int .i64 (adoptE s.bs (a, b) (c, d))) ⟨s.l, s.rows, adoptB s.bs (a, b) (c, d)⟩) := by
  obtain ⟨G0, G1, vB, hz, rfl⟩ := h.open
  exact (refAdopt_any q _ s.bs a b c d w hz.bon ok.f ok.len32).mono fun e w' ⟨he, _, h1, h2, h3, h4⟩ => ⟨he, hz.bonStep h1 h2 h3 h4⟩
end Go.Proofs.YtndhomjfjhohoaaGreatDoor

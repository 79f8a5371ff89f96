
/- A zoo and the reference's, both of the call's own, apart. -/
import Derived.Test.YtlaahlphfkadjaaGreatZooOps
import Derived.Test.YtlaahlphfkadjaaGreatPZooDo
namespace Go.Proofs.YtlaahlphfkadjaaGreat
open Go.RowKit

structure BothZ (B : World) (wr : World) (p q : Nat) (F G : Nat → Prop) (s t : Zs) : Prop where
  pz : PzAt wr p F s
  zf : ZfAt wr q G t
  ap : ∀ b, F b → ¬ G b
  fb : ∀ b, F b → B.heap.size ≤ b
  gb : ∀ b, G b → B.heap.size ≤ b
  below : Below B.heap.size B wr
section
variable {B wr x : World} {p q : Nat} {F G : Nat → Prop} {s t s' : Zs} {v : Value} {e : Ending}
theorem BothZ.later (h : BothZ B wr p q F G s t) (hb : Below wr.heap.size wr x) : BothZ B x p q F G s t :=
  ⟨h.pz.later hb, h.zf.later hb, h.ap, h.fb, h.gb, nb_trans h.below hb⟩
/-- The program's zoo has been turned. -/
theorem BothZ.turnP (h : BothZ B wr p q F G s t) (hp : PzPost wr p F v s' e x) : e = .returned v ∧ ∃ F', BothZ B x p q F' G s' t ∧ Kept F wr x ∧ Moves wr F F' := by
  obtain ⟨he, F', h1, h2, h3⟩ := hp
  refine ⟨he, F', ⟨h1, h.zf.kept h2 (fun b hg hf => h.ap b hf hg), fun b hf hg => ?_, h3.above h.below.size h.fb, h.gb, h.below.trans (h2.below h.below.size h.fb)⟩, h2, h3⟩
  rcases h3 b hf with e1 | e1
  · exact h.ap b e1 hg
  · have := h.zf.lt b hg; omega
/-- The reference's zoo has been turned. -/
theorem BothZ.turnQ (h : BothZ B wr p q F G s t) (hp : ZfPost wr q G v s' e x) : e = .returned v ∧ ∃ G', BothZ B x p q F G' s s' ∧ Kept G wr x ∧ Moves wr G G' := by
  obtain ⟨he, G', h1, h2, h3⟩ := hp
  refine ⟨he, G', ⟨h.pz.kept h2 h.ap, h1, fun b hf hg => ?_, h.fb, h3.above h.below.size h.gb, h.below.trans (h2.below h.below.size h.gb)⟩, h2, h3⟩
  rcases h3 b hg with e1 | e1
  · exact h.ap b hf e1
  · have := h.pz.lt b hf; omega
theorem BothZ.start {w w1 : World} (hw1 : w.alloc (.cells #[.slice none 0 0, .map none, .map none, .map none] 73) = w1) : BothZ w (w1.alloc (.cells #[.slice none 0 0, .slice none 0 0, .slice none 0 0, .slice none 0 0] 33)) w.heap.size w1.heap.size (fun b => b = w.heap.size) (fun b => b = w1.heap.size) zNil zNil := by
  have hs : w1.heap.size = w.heap.size + 1 := by rw [← hw1]; simp
  have hb1 : Below w.heap.size w w1 := by rw [← hw1]; exact nb_alloc (Below.refl _ _) _
  have hf : PzAt w1 w.heap.size (fun b => b = w.heap.size) zNil := by rw [← hw1]; exact PzAt.new w
  exact ⟨hf.later (nb_alloc (Below.refl _ _) _), ZfAt.new w1, fun b e e2 => by omega, fun b e => by omega, fun b e => by omega, nb_alloc hb1 _⟩
/-- What is refused changes nothing, of both. -/
theorem doE_none {s : Zs} {o : Opm} (h1 : o.d < 1 ∨ 6 < o.d) : doE s o = 1 ∧ doZ s o = s ∧ doH s o = (0, 0) := by
  unfold doE doZ doH
  refine ⟨?_, ?_, ?_⟩
  all_goals repeat (rw [if_neg (by omega)])
end
end Go.Proofs.YtlaahlphfkadjaaGreat


/- The reference's zoo in memory, whole: its slots, rows and bonds. -/
import Derived.Test.YtndhomjfjhohoaaGreatDoorGroundG
import Derived.Test.YtndhomjfjhohoaaGreatDoorGroundI
import Derived.Test.YtndhomjfjhohoaaGreatDoorGroundD
namespace Go.Proofs.YtndhomjfjhohoaaGreatDoor
open Go.RowKit

/-- At block q lies the zoo s: its slots and rows in the blocks G0, its bonds in the blocks G1. -/
structure ZfIs (w : World) (q : Nat) (G0 G1 : Nat → Prop) (s : Zs) (vB : Value) : Prop where
  zoo : ZooAt w q G0 s.l s.rows vB
  own : Owns elBond w 58 vB s.bs
  inB : ∀ k, vB.ownBlock = some k → G1 k
  ap : ∀ b, G1 b → ¬ G0 b
  lt : ∀ b, G1 b → b < w.heap.size
def ZfAt (w : World) (q : Nat) (G : Nat → Prop) (s : Zs) : Prop := ∃ G0 G1 vB, ZfIs w q G0 G1 s vB ∧ ∀ b, G b ↔ G0 b ∨ G1 b
section
variable {w w' : World} {q : Nat} {G G0 G1 : Nat → Prop} {s : Zs} {vB : Value}
theorem ZfIs.kept {H : Nat → Prop} (h : ZfIs w q G0 G1 s vB) (hk : Kept H w w') (h0 : ∀ b, G0 b → ¬ H b) (h1 : ∀ b, G1 b → ¬ H b) : ZfIs w' q G0 G1 s vB :=
  ⟨h.zoo.kept hk h0, h.own.kept hk (fun k e => h1 k (h.inB k e)), h.inB, h.ap, fun b hb => Nat.lt_of_lt_of_le (h.lt b hb) hk.size⟩
theorem ZfAt.kept {H : Nat → Prop} (h : ZfAt w q G s) (hk : Kept H w w') (hf : ∀ b, G b → ¬ H b) : ZfAt w' q G s := by
  obtain ⟨G0, G1, vB, h, hG⟩ := h
  exact ⟨G0, G1, vB, h.kept hk (fun b hb => hf b ((hG b).2 (.inl hb))) (fun b hb => hf b ((hG b).2 (.inr hb))), hG⟩
theorem ZfAt.later (h : ZfAt w q G s) (hb : Below w.heap.size w w') : ZfAt w' q G s := h.kept (H := fun _ => False) (Kept.ofBelow hb) (fun _ _ => id)
theorem ZfAt.lt (h : ZfAt w q G s) : ∀ b, G b → b < w.heap.size := by
  obtain ⟨G0, G1, vB, h, hG⟩ := h
  exact fun b hb => ((hG b).1 hb).elim (h.zoo.lt b) (h.lt b)
theorem ZfAt.at_ (h : ZfAt w q G s) : G q := by
  obtain ⟨G0, G1, vB, h, hG⟩ := h
  exact (hG q).2 (.inl h.zoo.at_)
theorem ZfAt.new (w : World) : ZfAt (w.alloc (.cells #[.slice none 0 0, .slice none 0 0, .slice none 0 0, .slice none 0 0] 81)) w.heap.size (fun b => b = w.heap.size) zNil :=
  ⟨fun b => b = w.heap.size, fun _ => False, .slice none 0 0, ⟨ZooAt.new w, Owns.nil _ _ _, fun k e => by simp [Value.ownBlock] at e, fun _ h => h.elim, fun _ h => h.elim⟩, fun b => by simp⟩
/-- Its bonds, as the contracts on bonds want them. -/
theorem ZfIs.bon (h : ZfIs w q G0 G1 s vB) : BonAt w q (fun b => b = q ∨ G1 b) s.bs := by
  obtain ⟨c, vL, hz⟩ := h.zoo
  have hq := hz.at_
  obtain ⟨vg, vl, hb, -⟩ := hz.slots
  exact ⟨vg, vl, vL, vB, ⟨hb, h.own, fun k e => ⟨.inr (h.inB k e), fun e2 => h.ap k (h.inB k e) (by rw [e2]; exact hq.1)⟩, .inl rfl, fun b hb' => hb'.elim (fun e => by rw [e]; exact hz.lt q hq.1) (h.lt b)⟩⟩
/-- The bonds have been turned. -/
theorem ZfIs.bonStep {G1' : Nat → Prop} {bs' : List Bd} (h : ZfIs w q G0 G1 s vB) (hb : BonAt w' q G1' bs') (hk : Kept (fun b => b = q ∨ G1 b) w w') (hm : Moves w (fun b => b = q ∨ G1 b) G1') (hs : SameS w w' q) :
    ∃ G', ZfAt w' q G' ⟨s.l, s.rows, bs'⟩ ∧ Kept (fun b => G0 b ∨ G1 b) w w' ∧ Moves w (fun b => G0 b ∨ G1 b) G' := by
  obtain ⟨c, vL, hz⟩ := h.zoo
  have hq := hz.at_
  obtain ⟨vg, vl, hqb, h1, h2, hGq, hvg, hvl, hlt⟩ := hz.slots
  obtain ⟨v0, v1, v2, vB', hbi⟩ := hb
  obtain ⟨x, hx⟩ := hs vg vl vL vB hqb
  have he := hbi.block.symm.trans hx
  simp only [Option.some.injEq, Obj.cells.injEq, Array.mk.injEq, List.cons.injEq, and_true] at he
  obtain ⟨rfl, rfl, rfl, rfl⟩ := he
  have hap : ∀ b, G0 b → b ≠ q → ¬ (b = q ∨ G1 b) := fun b hb hne e => e.elim hne (fun e => h.ap b e hb)
  have hnL : ∀ k, v2.ownBlock = some k → k ≠ q := fun k e e2 => by have := (hz.inL k e).2; rw [e2, hq.2] at this; exact absurd this (by decide)
  have hlt' : ∀ b, G0 b → b < w'.heap.size := fun b hb => Nat.lt_of_lt_of_le (hz.lt b hb) hk.size
  refine ⟨fun b => G0 b ∨ (G1' b ∧ b ≠ q), ⟨G0, fun b => G1' b ∧ b ≠ q, vB', ⟨⟨c, v2, ⟨⟨v0, v1, hbi.block, h1.kept hk (fun k e => hap k (hvg k e).1.1 (hvg k e).2), h2.kept hk (fun k e => hap k (hvl k e).1.1 (hvl k e).2.1), hGq, hvg, hvl, fun k hb => hlt' k hb.1⟩, hz.own.kept hk (fun k e => hap k (hz.inL k e).1 (hnL k e)), hz.inL, hlt'⟩⟩, hbi.own, fun k e => hbi.inB k e, ?_, fun b hb => hbi.lt b hb.1⟩, fun _ => Iff.rfl⟩, hk.mono (fun b e => .inl (e.elim (fun e => .inl (by rw [e]; exact hq.1)) .inr)), ?_⟩
  · rintro b ⟨hb, hne⟩ hg
    rcases hm b hb with (e | e) | e
    · exact hne e
    · exact h.ap b e hg
    · have := hz.lt b hg; omega
  · rintro b (hb | ⟨hb, hne⟩)
    · exact .inl (.inl hb)
    · rcases hm b hb with (e | e) | e
      · exact absurd e hne
      · exact .inl (.inr e)
      · exact .inr e
/-- A zoo has been moved over another one: block q holds now what block r holds. -/
theorem ZfIs.moved {r : Nat} (h : ZfIs w r G0 G1 s vB) (hq : q < w.heap.size) (hn0 : ¬ G0 q) (hn1 : ¬ G1 q) (hk : Kept (fun b => b = q) w w') (hb : ∀ c, w.heap[r]? = some (.cells c 81 (0, 0)) → w'.heap[q]? = some (.cells c 81 (0, 0))) :
    ZfAt w' q (fun b => b = q ∨ ((G0 b ∨ G1 b) ∧ b ≠ r)) s := by
  obtain ⟨c, vL, hz⟩ := h.zoo
  have hr := hz.at_
  obtain ⟨vg, vl, hqb, h1, h2, hGq, hvg, hvl, hlt⟩ := hz.slots
  have hne : ∀ b, G0 b → b ≠ q := fun b hb e => hn0 (by rw [← e]; exact hb)
  have hne1 : ∀ b, G1 b → b ≠ q := fun b hb e => hn1 (by rw [← e]; exact hb)
  have hlt0 : ∀ b, (b = q ∨ (G0 b ∧ b ≠ r)) → b < w'.heap.size := fun b hb => hb.elim (fun e => by rw [e]; exact Nat.lt_of_lt_of_le hq hk.size) (fun e => Nat.lt_of_lt_of_le (hz.lt b e.1) hk.size)
  have hc0 : ∀ b, G0 b → (if b = q then (0 : Int) else c b) = c b := fun b hb => if_neg (hne b hb)
  have hLr : ∀ k, vL.ownBlock = some k → k ≠ r := fun k e e2 => by have := (hz.inL k e).2; rw [e2, hr.2] at this; exact absurd this (by decide)
  refine ⟨fun b => b = q ∨ (G0 b ∧ b ≠ r), G1, vB, ⟨⟨fun b => if b = q then 0 else c b, vL, ⟨⟨vg, vl, hb _ hqb, h1.kept hk (fun k e => hne k (hvg k e).1.1), h2.kept hk (fun k e => hne k (hvl k e).1.1), ⟨.inl rfl, if_pos rfl⟩, fun k e => ⟨⟨.inr ⟨(hvg k e).1.1, (hvg k e).2⟩, (hc0 k (hvg k e).1.1).trans (hvg k e).1.2⟩, hne k (hvg k e).1.1⟩, fun k e => ⟨⟨.inr ⟨(hvl k e).1.1, (hvl k e).2.1⟩, (hc0 k (hvl k e).1.1).trans (hvl k e).1.2⟩, hne k (hvl k e).1.1, (hvl k e).2.2⟩, fun b hb => hlt0 b hb.1⟩, hz.own.kept hk (fun k e => hne k (hz.inL k e).1), fun k e => ⟨.inr ⟨(hz.inL k e).1, hLr k e⟩, (hc0 k (hz.inL k e).1).trans (hz.inL k e).2⟩, hlt0⟩⟩, h.own.kept hk (fun k e => hne1 k (h.inB k e)), h.inB, fun b hb => ?_, fun b hb => Nat.lt_of_lt_of_le (h.lt b hb) hk.size⟩, fun b => ?_⟩
  · rintro (e | e)
    · exact hne1 b hb e
    · exact h.ap b hb e.1
  · constructor
    · rintro (e | ⟨e | e, e2⟩)
      · exact .inl (.inl e)
      · exact .inl (.inr ⟨e, e2⟩)
      · exact .inr e
    · rintro ((e | e) | e)
      · exact .inl e
      · exact .inr ⟨.inl e.1, e.2⟩
      · exact .inr ⟨.inr e, fun e2 => h.ap b e (by rw [e2]; exact hr.1)⟩
end
end Go.Proofs.YtndhomjfjhohoaaGreatDoor

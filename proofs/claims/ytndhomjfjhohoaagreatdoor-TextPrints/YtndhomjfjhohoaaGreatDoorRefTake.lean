/- The contract of the reference's Take. -/
import Derived.Test.YtndhomjfjhohoaaGreatDoorGroundE
import Derived.Deep.RegionLaw
namespace Go.Proofs.YtndhomjfjhohoaaGreatDoor
open Go.RowKit

theorem infoBool : (Tryz.prog.info? 4).map (fun i => (i.zero, i.size, i.bytes)) = some (some (.bool false), 1, 1) := by kernel_rfl

def RTakePost (w : World) (q : Nat) (T : TypeId) (rest : List Value) (G : Nat → Prop) (l : List (Int × Bool)) (e : Ending) (w' : World) : Prop :=
  e = .returned (.tuple #[.agg #[.int .i64 (takeH l).1, .int .i64 (takeH l).2], .int .i64 (takeE l)]) ∧ ∃ G', RefAt w' q T rest G' (takeL l) ∧ Kept G w w' ∧ Moves w G G'

/-- The flag of slot i is written. -/
theorem refAt_flag {w : World} {q g c g' c' i : Nat} {T : TypeId} {rest : List Value} {G : Nat → Prop} {l : List (Int × Bool)} {x : Bool}
    (hq : w.heap[q]? = some (.cells (.slice (some ⟨g, 0, none⟩) l.length c :: .slice (some ⟨g', 0, none⟩) l.length c' :: rest).toArray T (0, 0)))
    (hg : Owns elInt w 3 (.slice (some ⟨g, 0, none⟩) l.length c) (gensL l)) (hl : Owns elBool w 4 (.slice (some ⟨g', 0, none⟩) l.length c') (livesL l))
    (hG : G q) (hGg : G g) (hGg' : G g') (n1 : g ≠ q) (n2 : g' ≠ q) (n3 : g ≠ g') (hlt : ∀ k, G k → k < w.heap.size) (hi : i < l.length) :
    RefAt (w.setCell ⟨g', i, none⟩ (.bool x)) q T rest G (l.set i ((l.getD i slotZ).1, x)) ∧ Kept G w (w.setCell ⟨g', i, none⟩ (.bool x)) := by
  have k1 : Kept (fun k => k = g') w (w.setCell ⟨g', i, none⟩ (.bool x)) := Kept.setCell (F := fun k => k = g') w (p := ⟨g', i, none⟩) rfl _
  refine ⟨⟨.slice (some ⟨g, 0, none⟩) l.length c, .slice (some ⟨g', 0, none⟩) l.length c', ?_, ?_, ?_, hG, ?_, ?_, fun k hk => by simpa using hlt k hk⟩, ?_⟩
  · rw [heap_setCell_other _ _ _ _ (Ne.symm n2)]; exact hq
  · have h1 := hg.kept k1 (fun k hk => by simp [Value.ownBlock] at hk; subst hk; exact n3)
    rw [gensL_set]
    have e : (gensL l).set i (l.getD i slotZ).1 = gensL l := by
      rw [← gensL_at]
      refine List.ext_getElem? fun j => ?_
      by_cases e : i = j
      · subst e; rw [List.getElem?_set_self (by rw [gensL_len]; exact hi), List.getD_eq_getElem?_getD, List.getElem?_eq_getElem (by rw [gensL_len]; exact hi)]; rfl
      · rw [List.getElem?_set_ne e]
    rw [e]; exact h1
  · have h1 := hl.stored1 rfl i x (.bool x) (by rw [livesL_len]; exact hi) rfl
    rw [livesL_set]; exact h1
  · intro k hk; simp [Value.ownBlock] at hk; subst hk; exact ⟨hGg, n1⟩
  · intro k hk; simp [Value.ownBlock] at hk; subst hk; exact ⟨hGg', n2, by simp [Value.ownBlock]; exact n3⟩
  · exact k1.mono (G := G) (fun k e => by rw [e]; exact .inl hGg')

/-- What the walk reads, without parting the empty case. -/
theorem RefAt.cells' {w : World} {q : Nat} {T : TypeId} {rest : List Value} {G : Nat → Prop} {l : List (Int × Bool)} (h : RefAt w q T rest G l) :
    ∃ a c a' c', w.heap[q]? = some (.cells (.slice a l.length c :: .slice a' l.length c' :: rest).toArray T (0, 0)) ∧ Owns elInt w 3 (.slice a l.length c) (gensL l) ∧ Owns elBool w 4 (.slice a' l.length c') (livesL l) ∧ G q ∧
      (∀ k, (Value.slice a l.length c).ownBlock = some k → G k ∧ k ≠ q) ∧ (∀ k, (Value.slice a' l.length c').ownBlock = some k → G k ∧ k ≠ q ∧ (Value.slice a l.length c).ownBlock ≠ some k) ∧ (∀ k, G k → k < w.heap.size) ∧
      w.cell? ⟨q, 0, none⟩ = some (.slice a l.length c) ∧ w.cell? ⟨q, 1, none⟩ = some (.slice a' l.length c') ∧
      ∀ k, k < l.length → ∃ b b', a = some ⟨b, 0, none⟩ ∧ a' = some ⟨b', 0, none⟩ ∧ b < w.heap.size ∧ b' < w.heap.size ∧ w.cell? ⟨b, k, none⟩ = some (.int .i64 (l.getD k slotZ).1) ∧ w.cell? ⟨b', k, none⟩ = some (.bool (l.getD k slotZ).2) := by
  have h' := h
  obtain ⟨vg, vl, hq, hg, hl, hG, hvg, hvl, hlt⟩ := h
  have q0 : w.cell? ⟨q, 0, none⟩ = some vg := by rw [cell_of_row _ _ _ _ _ _ hq]; simp
  have q1 : w.cell? ⟨q, 1, none⟩ = some vl := by rw [cell_of_row _ _ _ _ _ _ hq]; simp
  obtain ⟨a, c, rfl, _⟩ := hg.reads
  obtain ⟨a', c', rfl, _⟩ := hl.reads
  rw [gensL_len] at q0 hq hg hvg hvl
  rw [livesL_len] at q1 hq hl hvl
  refine ⟨a, c, a', c', hq, hg, hl, hG, hvg, hvl, hlt, q0, q1, fun k hk => ?_⟩
  obtain ⟨g, d, g', d', _, _, _, _, hGg, hGg', _, _, _, _, p0, p1, x0, x1, _, _⟩ := h'.open hk
  rw [q0] at p0
  rw [q1] at p1
  simp only [Option.some.injEq, Value.slice.injEq] at p0 p1
  obtain ⟨rfl, _, rfl⟩ := p0
  obtain ⟨rfl, _, rfl⟩ := p1
  exact ⟨g, g', rfl, rfl, hlt g hGg, hlt g' hGg', x0, x1⟩


/-- The two rows are appended to, and written back. -/
theorem refTake_end {w W w1 w2 : World} {q k c c' g1 g2 cap1 cap2 : Nat} {a a' : Option Addr} {T : TypeId} {rest : List Value} {G : Nat → Prop} {l : List (Int × Bool)}
    (hn : l.length = k) (hq : W.heap[q]? = some (.cells (.slice a k c :: .slice a' k c' :: rest).toArray T (0, 0))) (hBW : Below w.heap.size w W) (hGw : ∀ b, G b → b < w.heap.size) (hGq : G q) (hWs : W.heap.size = w.heap.size + 1)
    (hvg : ∀ b, (Value.slice a k c).ownBlock = some b → G b ∧ b ≠ q) (hvl : ∀ b, (Value.slice a' k c').ownBlock = some b → G b ∧ b ≠ q ∧ (Value.slice a k c).ownBlock ≠ some b)
    (h1 : Grew W w1 (.slice a k c) g1) (o1 : w1.ownsRow 0 3 1 (.slice (some ⟨g1, 0, none⟩) (k + 1) cap1) (k + 1) ((gensL l).flatMap elInt.enc ++ [.int .i64 0]))
    (h2 : Grew w1 w2 (.slice a' k c') g2) (o2 : w2.ownsRow 0 4 1 (.slice (some ⟨g2, 0, none⟩) (k + 1) cap2) (k + 1) ((livesL l).flatMap elBool.enc ++ [.bool true])) (y : World)
    (hy : Kept (fun b => b = w.heap.size) ((w2.setCell ⟨q, 0, none⟩ (.slice (some ⟨g1, 0, none⟩) (k + 1) cap1)).setCell ⟨q, 1, none⟩ (.slice (some ⟨g2, 0, none⟩) (k + 1) cap2)) y) :
    RefAt y q T rest (fun b => G b ∨ b = g1 ∨ b = g2) (l ++ [(0, true)]) ∧ Kept G w y ∧ Moves w G (fun b => G b ∨ b = g1 ∨ b = g2) := by
  have hqw := hGw q hGq
  have e1 : g1 ≠ q ∧ g1 ≠ w.heap.size ∧ (G g1 ∨ w.heap.size ≤ g1) := by
    rcases h1.at_ with e | e
    · have := hvg g1 e; have := hGw g1 this.1; exact ⟨(hvg g1 e).2, by omega, .inl (hvg g1 e).1⟩
    · exact ⟨by omega, by omega, .inr (by omega)⟩
  have l1 := h1.lt
  have e2 : g2 ≠ q ∧ g2 ≠ w.heap.size ∧ (G g2 ∨ w.heap.size ≤ g2) ∧ g1 ≠ g2 := by
    have := h1.size
    rcases h2.at_ with e | e
    · have hh := hvl g2 e; have := hGw g2 hh.1
      refine ⟨hh.2.1, by omega, .inl hh.1, fun ee => ?_⟩
      rcases h1.at_ with e' | e'
      · exact hh.2.2 (by rw [← ee]; exact e')
      · omega
    · exact ⟨by omega, by omega, .inr (by omega), by omega⟩
  have hne1 : (Value.slice a' k c').ownBlock ≠ some g1 := fun e => by
    have hh := hvl g1 e; have := hGw g1 hh.1
    rcases h1.at_ with e' | e'
    · exact hh.2.2 e'
    · omega
  have o1' : w2.ownsRow 0 3 1 (.slice (some ⟨g1, 0, none⟩) (k + 1) cap1) (k + 1) ((gensL l).flatMap elInt.enc ++ [.int .i64 0]) :=
    ownsRow_block o1 (fun g hg => by simp [Value.ownBlock] at hg; subst hg; exact h2.far g1 l1 hne1)
  have hq2 : w2.heap[q]? = some (.cells (.slice a k c :: .slice a' k c' :: rest).toArray T (0, 0)) := by
    rw [h2.far q (by have := h1.size; omega) (fun e => (hvl q e).2.1 rfl), h1.far q (by omega) (fun e => (hvg q e).2 rfl)]; exact hq
  have k2 : Kept (fun b => b = q) w2 ((w2.setCell ⟨q, 0, none⟩ (.slice (some ⟨g1, 0, none⟩) (k + 1) cap1)).setCell ⟨q, 1, none⟩ (.slice (some ⟨g2, 0, none⟩) (k + 1) cap2)) :=
    (Kept.setCell (F := fun b => b = q) w2 (p := ⟨q, 0, none⟩) rfl _).trans (Kept.setCell (F := fun b => b = q) _ (p := ⟨q, 1, none⟩) rfl _) (fun _ h => .inl h)
  have hq3 : ((w2.setCell ⟨q, 0, none⟩ (.slice (some ⟨g1, 0, none⟩) (k + 1) cap1)).setCell ⟨q, 1, none⟩ (.slice (some ⟨g2, 0, none⟩) (k + 1) cap2)).heap[q]? = some (.cells (.slice (some ⟨g1, 0, none⟩) (k + 1) cap1 :: .slice (some ⟨g2, 0, none⟩) (k + 1) cap2 :: rest).toArray T (0, 0)) := by
    rw [heap_setCell_same _ _ _ _ _ _ (heap_setCell_same _ _ _ _ _ _ hq2)]; simp
  have hmv : Moves w G (fun b => G b ∨ b = g1 ∨ b = g2) := fun b hb => by
    rcases hb with hb | rfl | rfl
    · exact .inl hb
    · exact e1.2.2
    · exact e2.2.2.1
  have s2 := h2.size
  have s1 := h1.size
  have l2 := h2.lt
  have sy := hy.size
  have s3 := k2.size
  refine ⟨⟨.slice (some ⟨g1, 0, none⟩) (k + 1) cap1, .slice (some ⟨g2, 0, none⟩) (k + 1) cap2, ?_, ?_, ?_, .inl hGq, ?_, ?_, ?_⟩, ?_, hmv⟩
  · rw [hy.block q (by omega) (by omega)]; exact hq3
  · have : Owns elInt w2 3 (.slice (some ⟨g1, 0, none⟩) (k + 1) cap1) (gensL (l ++ [(0, true)])) := by
      unfold Owns; simp only [gensL, List.map_append, List.flatMap_append, List.length_append, List.length_map, hn]; exact o1'
    exact (this.kept k2 (fun b hb => by simp [Value.ownBlock] at hb; subst hb; exact e1.1)).kept hy (fun b hb => by simp [Value.ownBlock] at hb; subst hb; exact e1.2.1)
  · have : Owns elBool w2 4 (.slice (some ⟨g2, 0, none⟩) (k + 1) cap2) (livesL (l ++ [(0, true)])) := by
      unfold Owns; simp only [livesL, List.map_append, List.flatMap_append, List.length_append, List.length_map, hn]; exact o2
    exact (this.kept k2 (fun b hb => by simp [Value.ownBlock] at hb; subst hb; exact e2.1)).kept hy (fun b hb => by simp [Value.ownBlock] at hb; subst hb; exact e2.2.1)
  · intro b hb; simp [Value.ownBlock] at hb; subst hb; exact ⟨.inr (.inl rfl), e1.1⟩
  · intro b hb; simp [Value.ownBlock] at hb; subst hb; exact ⟨.inr (.inr rfl), e2.1, by simp [Value.ownBlock]; exact e2.2.2.2⟩
  · intro b hb
    rcases hb with hb | rfl | rfl
    · have := hGw b hb; omega
    · omega
    · omega
  · exact ((((Kept.ofBelow hBW).trans (h1.kept (F := G) (fun b hb => (hvg b hb).1)) (fun _ h => .inl h)).trans (h2.kept (F := G) (fun b hb => (hvl b hb).1)) (fun _ h => .inl h)).trans (k2.mono (G := G) (fun b e => by rw [e]; exact .inl hGq)) (fun _ h => .inl h)).trans hy (fun b e => .inr (by omega))

end Go.Proofs.YtndhomjfjhohoaaGreatDoor

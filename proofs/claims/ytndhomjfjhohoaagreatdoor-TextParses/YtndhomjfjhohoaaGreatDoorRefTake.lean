
/- The contract of the reference's Take. -/
import Derived.Test.YtndhomjfjhohoaaGreatDoorGroundE
import Derived.Deep.RegionLaw
namespace Go.Proofs.YtndhomjfjhohoaaGreatDoor
open Go.RowKit

theorem infoBool : (Tryz.prog.info? 4).map (fun i => (i.zero, i.size, i.bytes)) = some (some (.bool false), 1, 1) := by kernel_rfl

/-- The flag of slot i is written. -/
theorem refAt_flag {w : World} {q g c g' c' i : Nat} {T : TypeId} {rest : List Value} {G : Nat → Prop} {l : List (Int × Bool)} {x : Bool}
    (hq : w.heap[q]? = some (.cells (.slice (some ⟨g, 0, none⟩) l.length c :: .slice (some ⟨g', 0, none⟩) l.length c' :: rest).toArray T (0, 0)))
    (hg : Owns elInt w 3 (.slice (some ⟨g, 0, none⟩) l.length c) (gensL l)) (hl : Owns elBool w 4 (.slice (some ⟨g', 0, none⟩) l.length c') (livesL l))
    (hG : G q) (hGg : G g) (hGg' : G g') (n1 : g ≠ q) (n2 : g' ≠ q) (n3 : g ≠ g') (hlt : ∀ k, G k → k < w.heap.size) (hi : i < l.length) :
    RefAt (w.setCell ⟨g', i, none⟩ (.bool x)) q T rest G (l.set i ((l.getD i slotZ).1, x)) ∧ Kept G w (w.setCell ⟨g', i, none⟩ (.bool x)) := by
  have k1 : Kept (fun k => k = g') w (w.setCell ⟨g', i, none⟩ (.bool x)) := Kept.setCell (F := fun k => k = g') w (p := ⟨g', i, none⟩) rfl _
  refine ⟨⟨.slice (some ⟨g, 0, none⟩) l.length c, .slice (some ⟨g', 0, none⟩) l.length c', ?_, ?_, ?_, hG, ?_, ?_, fun k hk => by simpa using hlt k hk⟩, ?_⟩
  · rw [heap_setCell_other _ _ _ _ (Ne.symm n2)]; exact hq
  · have h1 := hg.kept k1 (fun k hk => by simp [Value.ownBlock] at hk; subst hk; exact n3)
    rw [gensL_set]
    have e : (gensL l).set i (l.getD i slotZ).1 = gensL l := by
      rw [← gensL_at]
      refine List.ext_getElem? fun j => ?_
      by_cases e : i = j
      · subst e; rw [List.getElem?_set_self (by rw [gensL_len]; exact hi), List.getD_eq_getElem?_getD, List.getElem?_eq_getElem (by rw [gensL_len]; exact hi)]; rfl
      · rw [List.getElem?_set_ne e]
    rw [e]; exact h1
  · have h1 := hl.stored1 rfl i x (.bool x) (by rw [livesL_len]; exact hi) rfl
    rw [livesL_set]; exact h1
  · intro k hk; simp [Value.ownBlock] at hk; subst hk; exact ⟨hGg, n1⟩
  · intro k hk; simp [Value.ownBlock] at hk; subst hk; exact ⟨hGg', n2, by simp [Value.ownBlock]; exact n3⟩
  · exact k1.mono (G := G) (fun k e => by rw [e]; exact .inl hGg')

end Go.Proofs.YtndhomjfjhohoaaGreatDoor

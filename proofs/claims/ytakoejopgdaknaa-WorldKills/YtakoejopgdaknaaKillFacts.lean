/- What the laws ask of a world of which an entity was killed: plain facts. -/
import Derived.Test.YtakoejopgdaknaaRowFacts
namespace Go.Proofs.Ytakoejopgdaknaa
open Go.RowKit

/-- What is killed is gone. -/
theorem takeH_freed {l : List (Int × Bool)} {a b : Int} (h : liveB l a b = true) (he : takeE (freeL l a b) = 0) : takeH (freeL l a b) ≠ (a, b) := by
  intro e
  obtain ⟨h0, h1, h2⟩ := liveB_iff.1 h
  obtain ⟨i, rfl⟩ := Int.eq_ofNat_of_zero_le h0
  have hf : freeL l i b = l.set i (b + 1, false) := by rw [freeL, h, if_pos rfl, Int.toNat_natCast]
  rw [hf] at e he
  unfold takeH at e
  unfold takeE at he
  split at e
  · simp only [Prod.mk.injEq] at e
    obtain ⟨e1, e2⟩ := e
    rw [show firstFree (l.set i (b + 1, false)) = i by omega, getD_set_eq _ _ _ _ (by omega)] at e2
    simp only at e2
    omega
  · rename_i hn
    rw [if_neg hn] at he
    split at e
    · simp only [Prod.mk.injEq, List.length_set] at e
      omega
    · rename_i hn2
      rw [if_neg hn2] at he
      simp at he
theorem killR_at {l : List (Int × Bool)} {rows : List Rw} (h : WOk l rows) {t : Nat} {r : Rw} (ht : t < rows.length) (hr : rows.getD t rowZ = r) : killR rows r.s r.g = rows.take t ++ rows.drop (t + 1) := by
  have hrt : rows[t] = r := by rw [← hr, List.getD_eq_getElem?_getD, List.getElem?_eq_getElem ht]; rfl
  have hsplit : rows = rows.take t ++ r :: rows.drop (t + 1) := by
    rw [← hrt, List.getElem_cons_drop, List.take_append_drop]
  have hp := h.up
  rw [hsplit] at hp
  obtain ⟨-, hp2, hp3⟩ := List.pairwise_append.1 hp
  obtain ⟨hp4, -⟩ := List.pairwise_cons.1 hp2
  have e : killR rows r.s r.g = killR (rows.take t ++ r :: rows.drop (t + 1)) r.s r.g := by rw [← hsplit]
  rw [e, killR, List.filter_append, List.filter_cons, show isH r.s r.g r = true by simp [isH]]
  congr 1
  · rw [List.filter_eq_self]
    intro x hx
    have := hp3 x hx r (by simp)
    simp [isH]; omega
  · simp only [Bool.not_true]
    rw [if_neg (by decide), List.filter_eq_self]
    intro x hx
    have := hp4 x hx
    simp [isH]; omega
theorem hasH_killR (rows : List Rw) (a b : Int) : hasH (killR rows a b) a b = false := by
  cases hh : hasH (killR rows a b) a b
  · rfl
  · obtain ⟨r, hr, e1, e2⟩ := hasH_iff.1 hh
    have := (List.mem_filter.1 hr).2
    rw [isH_iff.2 ⟨e1, e2⟩] at this
    cases this
theorem hasH_kill_spawn {l : List (Int × Bool)} {rows : List Rw} (h : WOk l rows) {a b : Int} (hh : hasH rows a b = true) (m : Int) (f : Nat → Int) : hasH (spawnR (freeL l a b) (killR rows a b) m f) a b = false := by
  unfold spawnR
  split
  · rename_i he
    have hte : takeE (freeL l a b) = 0 := by
      unfold spawnE at he
      split at he
      · exact he
      · rename_i hb; exact absurd he hb
    cases hq : hasH (insR (killR rows a b) ⟨(takeH (freeL l a b)).1, (takeH (freeL l a b)).2, m, f⟩) a b
    · rfl
    · obtain ⟨r, hr, e1, e2⟩ := hasH_iff.1 hq
      rcases mem_insR.1 hr with rfl | hr
      · exact absurd (Prod.ext e1 e2) (takeH_freed (by rw [← h.has]; exact hh) hte)
      · have := hasH_iff.2 ⟨r, hr, e1, e2⟩
        rw [hasH_killR] at this; cases this
  · exact hasH_killR _ _ _
end Go.Proofs.Ytakoejopgdaknaa

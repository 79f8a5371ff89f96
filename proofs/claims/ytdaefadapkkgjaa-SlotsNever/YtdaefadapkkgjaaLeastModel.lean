/- Of slots whose generations are small: the least free slot is taken, and there are never more slots than were live at once. -/
import Derived.Test.YtdaefadapkkgjaaBackModel
namespace Go.Proofs.Ytdaefadapkkgjaa
open Go.RowKit

def genLe (k : Nat) (l : List (Int × Bool)) : Prop := ∀ j, j < l.length → (l.getD j slotZ).1 ≤ k
theorem genLe.mono {k m : Nat} {l : List (Int × Bool)} (h : genLe k l) (hm : k ≤ m) : genLe m l := fun j hj => by have := h j hj; omega
theorem genLe.nil (k : Nat) : genLe k [] := fun j hj => by simp at hj
theorem genLe.take {k : Nat} {l : List (Int × Bool)} (h : genLe k l) : genLe k (takeL l) := by
  unfold takeL
  split
  · rename_i hl
    intro j hj
    by_cases e : firstFree l = j
    · subst e; rw [getD_set_eq _ _ _ _ hl]; exact h _ hl
    · rw [getD_set_ne _ _ _ e]; exact h j (by simpa using hj)
  · split
    · intro j hj
      rcases Nat.lt_or_ge j l.length with e | e
      · rw [getD_append_l _ _ _ _ e]; exact h j e
      · obtain rfl : j = l.length := by simp at hj; omega
        rw [getD_append_last]; simp
    · exact h
theorem genLe.free {k : Nat} {l : List (Int × Bool)} (h : genLe k l) (a b : Int) : genLe (k + 1) (freeL l a b) := by
  unfold freeL
  split
  · rename_i hl
    obtain ⟨h0, h1, h2⟩ := liveB_iff.1 hl
    intro j hj
    by_cases e : a.toNat = j
    · subst e; rw [getD_set_eq _ _ _ _ (by omega)]
      have := h a.toNat (by omega)
      rw [h2] at this; simp at this ⊢; omega
    · rw [getD_set_ne _ _ _ e]; have := h j (by simpa using hj); omega
  · exact h.mono (by omega)
theorem freeB_of {k : Nat} {l : List (Int × Bool)} (h : genLe k l) (hk : k < 1000000) {j : Nat} (hj : j < l.length) : freeB (l.getD j slotZ) = !(l.getD j slotZ).2 := by
  have := h j hj
  rw [freeB, decide_eq_true (by omega), Bool.and_true]
theorem allTo_all {l : List (Int × Bool)} : ∀ (k : Nat), (∀ j, j < k → (l.getD j slotZ).2 = true) → (allTo l k).length = k
  | 0, _ => rfl
  | k + 1, h => by
    rw [allTo, if_pos (h k (by omega)), List.length_append, allTo_all k (fun j hj => h j (by omega))]; rfl
theorem allTo_some {l : List (Int × Bool)} {j : Nat} (hj : (l.getD j slotZ).2 = false) : ∀ (k : Nat), j < k → (allTo l k).length + 1 ≤ k
  | 0, h => by omega
  | k + 1, h => by
    rw [allTo]
    by_cases e : j = k
    · subst e; rw [if_neg (by rw [hj]; decide)]
      have := allTo_len l j; omega
    · have := allTo_some hj k (by omega)
      split
      · simp; omega
      · omega
theorem take_most {k : Nat} {l : List (Int × Bool)} (h : genLe k l) (hk : k < 1000000) (he : takeE l = 0) : ((takeL l).length : Int) = max (l.length : Int) (((allL l).length : Int) + 1) := by
  by_cases hl : firstFree l < l.length
  · rw [takeL_old hl, List.length_set]
    have hf := firstFree_lt hl
    rw [freeB_of h hk hl] at hf
    have := allTo_some (by simpa using hf) l.length hl
    unfold allL; omega
  · have hall : ∀ j, j < l.length → (l.getD j slotZ).2 = true := fun j hj => by
      have := firstFree_not (l := l) (k := j) (by omega)
      rw [freeB_of h hk hj] at this; simpa using this
    by_cases h60 : l.length < 60
    · rw [takeL_new hl h60]
      have := allTo_all l.length hall
      simp only [allL, this, List.length_append, List.length_cons, List.length_nil]; omega
    · rw [takeE_no hl h60] at he; cases he
theorem take_none {l : List (Int × Bool)} (he : takeE l ≠ 0) : takeL l = l := by
  by_cases hl : firstFree l < l.length
  · exact absurd (takeE_old hl) he
  · by_cases h60 : l.length < 60
    · exact absurd (takeE_new hl h60) he
    · exact takeL_no hl h60
theorem take_least {k : Nat} {l : List (Int × Bool)} (h : genLe k l) (hk : k < 1000000) (he : takeE l = 0) : 0 ≤ (takeH l).1 ∧ (takeH l).1 ≤ l.length ∧ ∀ j : Nat, (j : Int) < (takeH l).1 → (j : Int) ∈ liveNums l := by
  have key : ∀ j : Nat, j < firstFree l → (j : Int) ∈ liveNums l := fun j hj => by
    have hjl : j < l.length := Nat.lt_of_lt_of_le hj (firstFree_le l)
    have := firstFree_not hj
    rw [freeB_of h hk hjl] at this
    exact (mem_liveNums hjl).2 (by simpa using this)
  by_cases hl : firstFree l < l.length
  · rw [takeH_old hl]
    exact ⟨by simp, by simp; omega, fun j hj => key j (by simp at hj; omega)⟩
  · by_cases h60 : l.length < 60
    · rw [takeH_new hl h60]
      have := firstFree_le l
      exact ⟨by simp, by simp, fun j hj => key j (by simp at hj; omega)⟩
    · rw [takeE_no hl h60] at he; cases he
end Go.Proofs.Ytdaefadapkkgjaa

/- Contracts and plain facts, several texts in one. -/
import Derived.Test.YtcmpaohefihijabGreatDoorGroundA
import Derived.Test.YtcmpaohefihijabGreatDoorGroundB
import Derived.Test.YtcmpaohefihijabGreatDoorGroundC
import Derived.Test.YtcmpaohefihijabGreatDoorGroundD
import Derived.Test.YtcmpaohefihijabGreatDoorGroundE
import Derived.Test.YtcmpaohefihijabGreatDoorGroundF
/- The reference's Matches returns what the program's Matches returns, for every set and query of 64-bit integers. -/
namespace Go.Proofs.YtcmpaohefihijabGreatDoor
open Go.RowKit

/-- among the first k bits none is at odds with Need and Not -/
def okTo (m a b : Int) : Nat → Bool
  | 0 => true
  | k + 1 => okTo m a b k && !(tb a k && !tb m k || tb b k && tb m k)
/-- Any is empty, or met among the first k bits -/
def anyTo (m c : Int) : Nat → Bool
  | 0 => c == 0
  | k + 1 => anyTo m c k || (tb c k && tb m k)

theorem okTo_iff (m a b : Int) (k : Nat) : okTo m a b k = true ↔ ∀ j, j < k → (tb a j = true → tb m j = true) ∧ (tb b j = true → tb m j = false) := by
  induction k with
  | zero => simp [okTo]
  | succ k ih =>
    simp only [okTo, Bool.and_eq_true, ih]
    constructor
    · rintro ⟨h, g⟩ j hj
      by_cases e : j = k
      · subst e; revert g; cases tb a j <;> cases tb m j <;> cases tb b j <;> simp
      · exact h j (by omega)
    · intro h
      refine ⟨fun j hj => h j (by omega), ?_⟩
      have := h k (by omega)
      revert this; cases tb a k <;> cases tb m k <;> cases tb b k <;> simp

theorem anyTo_iff (m c : Int) (k : Nat) : anyTo m c k = true ↔ c = 0 ∨ ∃ j, j < k ∧ tb c j = true ∧ tb m j = true := by
  induction k with
  | zero => simp [anyTo]
  | succ k ih =>
    simp only [anyTo, Bool.or_eq_true, ih, Bool.and_eq_true]
    constructor
    · rintro ((h | ⟨j, hj, h⟩) | h)
      · exact .inl h
      · exact .inr ⟨j, by omega, h⟩
      · exact .inr ⟨k, by omega, h⟩
    · rintro (h | ⟨j, hj, h⟩)
      · exact .inl (.inl h)
      · by_cases e : j = k
        · subst e; exact .inr h
        · exact .inl (.inr ⟨j, by omega, h⟩)

theorem matchB_iff (m a b c : Int) (ha : I64 a) : matchB m a b c = (okTo m a b 64 && anyTo m c 64) := by
  have z : I64 0 := ⟨by decide, by decide⟩
  have h1 : bits .and .i64 m a = a ↔ ∀ j, j < 64 → tb a j = true → tb m j = true := by
    constructor
    · intro h j hj hb
      have := tb_and m a j hj
      rw [h, hb] at this; simpa using this.symm
    · intro h
      refine i64_ext (and_I64 _ _) ha fun j hj => ?_
      rw [tb_and m a j hj]; have := h j hj; revert this; cases tb a j <;> cases tb m j <;> simp
  have h2 : bits .and .i64 m b = 0 ↔ ∀ j, j < 64 → tb b j = true → tb m j = false := by
    constructor
    · intro h j hj hb
      have := tb_and m b j hj
      rw [h, hb, tb_zero] at this; simpa using this.symm
    · intro h
      refine i64_ext (and_I64 _ _) z fun j hj => ?_
      rw [tb_and m b j hj, tb_zero]; have := h j hj; revert this; cases tb b j <;> cases tb m j <;> simp
  have h3 : bits .and .i64 m c = 0 ↔ ¬ ∃ j, j < 64 ∧ tb c j = true ∧ tb m j = true := by
    constructor
    · rintro h ⟨j, hj, hc, hm⟩
      have := tb_and m c j hj
      rw [h, hc, hm, tb_zero] at this; simp at this
    · intro h
      refine i64_ext (and_I64 _ _) z fun j hj => ?_
      rw [tb_and m c j hj, tb_zero]
      cases hc : tb c j <;> cases hm : tb m j <;> simp
      exact h ⟨j, hj, hc, hm⟩
  rw [Bool.eq_iff_iff, Bool.and_eq_true, okTo_iff, anyTo_iff]
  simp only [matchB, Bool.and_eq_true, Bool.or_eq_true, beq_iff_eq, bne_iff_ne, ne_eq, h1, h2, h3, Classical.not_not]
  constructor
  · rintro ⟨⟨p, q⟩, r⟩
    exact ⟨fun j hj => ⟨p j hj, q j hj⟩, r⟩
  · rintro ⟨p, r⟩
    exact ⟨⟨fun j hj => (p j hj).1, fun j hj => (p j hj).2⟩, r⟩

theorem okTo_false {m a b : Int} {k : Nat} (h : okTo m a b k = false) : ∀ j, k ≤ j → okTo m a b j = false := by
  intro j hj
  induction j with
  | zero => obtain rfl : k = 0 := by omega
            exact h
  | succ j ih =>
    by_cases e : k = j + 1
    · subst e; exact h
    · rw [okTo, ih (by omega)]; rfl

end Go.Proofs.YtcmpaohefihijabGreatDoor


/- The reference's Parse over plain lists answers as the program's. No Go in sight. -/
import Derived.Test.YtndhomjfjhohoaaGreatDoorTextE
import Derived.Test.YtndhomjfjhohoaaGreatDoorTextR2
namespace Go.Proofs.YtndhomjfjhohoaaGreatDoor
open Go Go.RowKit

noncomputable def reE (t : List UInt8) : Int := if 6000 < t.length then 2 else if Lib.hasSuffix t [10] then (match rfLines 0 sttZ (spl 10 (Lib.trimSuffix t [10])) with | none => 9 | some s => if prE s.g s.r s.b = 0 then 0 else 9) else 9
noncomputable def reS (t : List UInt8) : Stt := if reE t = 0 then (rfLines 0 sttZ (spl 10 (Lib.trimSuffix t [10]))).getD sttZ else sttZ
theorem reE_zero {t : List UInt8} (h : reE t = 0) : t.length ≤ 6000 ∧ prE (reS t).g (reS t).r (reS t).b = 0 ∧ textT (reS t).g (reS t).r (reS t).b = t := by
  have hs : reS t = (rfLines 0 sttZ (spl 10 (Lib.trimSuffix t [10]))).getD sttZ := by rw [reS, if_pos h]
  rw [hs]
  unfold reE at h
  split at h
  · cases h
  · rename_i hl
    split at h
    · rename_i hx
      cases hr : rfLines 0 sttZ (spl 10 (Lib.trimSuffix t [10])) with
      | none => rw [hr] at h; cases h
      | some s =>
        rw [hr] at h
        simp only at h
        split at h
        · rename_i hp
          refine ⟨by omega, hp, ?_⟩
          rw [Option.getD_some, textT, rfLines_all (spl_ne _ _) hr, jn_lines (spl_ne _ _), jn_spl]
          exact (suffix_of hx).symm
        · cases h
    · cases h
theorem reE_text {g : List Int} {rs : List Rw} {bs : List Bd} (h : prE g rs bs = 0) (hl : (textT g rs bs).length ≤ 6000) : reE (textT g rs bs) = 0 := by
  obtain ⟨hf, -⟩ := Fine.of (prE_load h).1
  have hne : lnsT g rs bs ≠ [] := by simp [lnsT]
  have ht : textT g rs bs = jn 10 (lnsT g rs bs) ++ [10] := jn_lines hne
  rw [reE, if_neg (by omega), ht, if_pos (suffix_snoc _ _).1, (suffix_snoc _ _).2, spl_jn hne lns_no10, rf_text hf]
  simp only
  rw [if_pos (by rw [prE_nR hf.ri]; exact h)]
theorem E_or (t : List UInt8) : t.length ≤ 6000 → (paE t = 0 ∨ paE t = 9) ∧ (reE t = 0 ∨ reE t = 9) := fun hl => by
  unfold paE reE
  rw [if_neg (by omega), if_neg (by omega)]
  constructor
  · cases rdT t with
    | none => exact .inr rfl
    | some s => simp only; split <;> simp
  · split
    · cases rfLines 0 sttZ (spl 10 (Lib.trimSuffix t [10])) with
      | none => exact .inr rfl
      | some s => simp only; split <;> simp
    · exact .inr rfl
theorem re_pa (t : List UInt8) : reE t = paE t := by
  by_cases hl : t.length ≤ 6000
  · obtain ⟨h1, h2⟩ := E_or t hl
    have i1 : paE t = 0 → reE t = 0 := fun h => by
      obtain ⟨-, hp, ht⟩ := paE_zero h
      have := reE_text hp (by rw [ht]; exact hl)
      rw [ht] at this; exact this
    have i2 : reE t = 0 → paE t = 0 := fun h => by
      obtain ⟨-, hp, ht⟩ := reE_zero h
      have := (paE_text hp (by rw [ht]; exact hl)).1
      rw [ht] at this; exact this
    rcases h1 with h1 | h1 <;> rcases h2 with h2 | h2
    · rw [h1, h2]
    · rw [i1 h1] at h2; cases h2
    · rw [i2 h2] at h1; cases h1
    · rw [h1, h2]
  · rw [reE, paE, if_pos (by omega), if_pos (by omega)]
theorem re_pa_state {t : List UInt8} (h : reE t = 0) : paS t = ⟨(reS t).g, (reS t).r.map nR, (reS t).b⟩ ∧ ∀ r ∈ (reS t).r, FineR r := by
  obtain ⟨hl, hp, ht⟩ := reE_zero h
  have := (paE_text hp (by rw [ht]; exact hl)).2
  rw [ht] at this
  exact ⟨this, (Fine.of (prE_load hp).1).1.ri⟩
end Go.Proofs.YtndhomjfjhohoaaGreatDoor

/- Slots that are loaded from their own generations and live numbers are as they were. -/
import Derived.Test.YtlclceiebnnpgaaGreatLoadModel
namespace Go.Proofs.YtlclceiebnnpgaaGreat
open Go.RowKit

def liveNums (l : List (Int × Bool)) : List Int := (allL l).map (·.1)
theorem allTo_lt (l : List (Int × Bool)) : ∀ k, ∀ x ∈ allTo l k, 0 ≤ x.1 ∧ x.1 < (k : Int)
  | 0, x, hx => by simp [allTo] at hx
  | k + 1, x, hx => by
    rw [allTo] at hx
    split at hx
    · rw [List.mem_append] at hx
      rcases hx with hx | hx
      · have := allTo_lt l k x hx; omega
      · simp at hx; subst hx; simp; omega
    · have := allTo_lt l k x hx; omega
theorem allTo_nodup (l : List (Int × Bool)) : ∀ k, ((allTo l k).map (·.1)).Nodup
  | 0 => by simp [allTo]
  | k + 1 => by
    rw [allTo]
    split
    · rw [List.map_append]
      refine nodup_snoc (allTo_nodup l k) (fun h => ?_)
      obtain ⟨x, hx, e⟩ := List.mem_map.1 h
      have := allTo_lt l k x hx
      simp only at e; omega
    · exact allTo_nodup l k
theorem mem_liveNums {l : List (Int × Bool)} {k : Nat} (hk : k < l.length) : (k : Int) ∈ liveNums l ↔ (l.getD k slotZ).2 = true := by
  rw [liveNums, List.mem_map]
  constructor
  · rintro ⟨⟨a, b⟩, hx, e⟩
    simp only at e; subst e
    have := (liveB_iff.1 (mem_allL.1 hx)).2.2
    rw [Int.toNat_natCast] at this; rw [this]
  · intro h
    exact ⟨((k : Int), (l.getD k slotZ).1), mem_allL.2 (liveB_iff.2 ⟨by omega, by omega, by rw [Int.toNat_natCast]; exact Prod.ext rfl h⟩), rfl⟩
theorem mkL_self (l : List (Int × Bool)) : mkL (gensL l) (liveNums l) = l := by
  refine eqD (d := slotZ) (by rw [mkL_len, gensL_lenK]) fun j hj => ?_
  rw [mkL_len] at hj
  rw [mkL_at hj]
  rw [gensL_lenK] at hj
  have e1 : (gensL l).getD j 0 = (l.getD j slotZ).1 := by
    simp only [gensL, List.getD_eq_getElem?_getD, List.getElem?_map]
    cases l[j]? <;> rfl
  refine Prod.ext e1 ?_
  simp only
  rw [Bool.eq_iff_iff, decide_eq_true_iff, mem_liveNums hj]
theorem ldE_self {l : List (Int × Bool)} (ok : SlotOk l) : ldE (gensL l) (liveNums l) = 0 := by
  have h1 : lstE (gensL l) = 0 := lstE_ok (by rw [gensL_lenK]; exact ok.len) (fun j hj => by
    rw [gensL_lenK] at hj
    have e1 : (gensL l).getD j 0 = (l.getD j slotZ).1 := by
      simp only [gensL, List.getD_eq_getElem?_getD, List.getElem?_map]
      cases l[j]? <;> rfl
    rw [e1]; have := ok.gen j hj; generalize (l.getD j slotZ).1 = q at *; simp [okG, inB]; omega)
  rw [ldE_ok h1]
  have hnd : (liveNums l).Nodup := allTo_nodup l _
  refine (enlE_end (b := false) (fun j hj => ?_) hnd (decide_eq_false (fun h => ?_))).trans rfl
  · have hm : (liveNums l).getD j 0 ∈ liveNums l := memD hj
    obtain ⟨x, hx, e⟩ := List.mem_map.1 hm
    have := allTo_lt l _ x hx
    rw [← e, gensL_lenK]; simp [inB]; omega
  · rw [mkL_self] at h
    obtain ⟨k, hk, e⟩ := List.getElem_of_mem h
    have e' : l.getD k slotZ = (1000000, true) := by rw [List.getD_eq_getElem?_getD, List.getElem?_eq_getElem hk]; exact e
    have := ok.live k hk (by rw [e'])
    rw [e'] at this
    exact absurd this (by decide)
end Go.Proofs.YtlclceiebnnpgaaGreat

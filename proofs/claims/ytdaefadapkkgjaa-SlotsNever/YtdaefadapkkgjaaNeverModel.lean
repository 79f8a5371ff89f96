/- Of handles that are taken and freed: no handle comes twice, and what was freed is never live again. -/
import Derived.Test.YtdaefadapkkgjaaLeastModel
namespace Go.Proofs.Ytdaefadapkkgjaa
open Go.RowKit

theorem allTo_count (l : List (Int × Bool)) : ∀ k, k ≤ l.length → (allTo l k).length = (l.take k).countP (·.2)
  | 0, _ => by simp [allTo]
  | k + 1, h => by
    rw [allTo, List.take_succ_eq_append_getElem (by omega), List.countP_append]
    have e : l.getD k slotZ = l[k] := by rw [List.getD_eq_getElem?_getD, List.getElem?_eq_getElem (by omega)]; rfl
    rw [e]
    have ih := allTo_count l k (by omega)
    split
    · rename_i hl; rw [List.length_append, ih]; simp [hl]
    · rename_i hl; rw [ih]; simp [hl]
theorem allL_count (l : List (Int × Bool)) : (allL l).length = l.countP (·.2) := by
  rw [allL, allTo_count l _ (Nat.le_refl _), List.take_length]
theorem countP_set_on {l : List (Int × Bool)} {i : Nat} {x : Int × Bool} (h : i < l.length) (h0 : (l.getD i slotZ).2 = false) (h1 : x.2 = true) : (l.set i x).countP (·.2) = l.countP (·.2) + 1 := by
  have e : l.getD i slotZ = l[i] := by rw [List.getD_eq_getElem?_getD, List.getElem?_eq_getElem h]; rfl
  rw [e] at h0
  rw [List.countP_set h, if_neg (by rw [h0]; decide), if_pos h1]; omega
theorem countP_set_off {l : List (Int × Bool)} {i : Nat} {x : Int × Bool} (h : i < l.length) (h0 : (l.getD i slotZ).2 = true) (h1 : x.2 = false) : (l.set i x).countP (·.2) + 1 = l.countP (·.2) := by
  have e : l.getD i slotZ = l[i] := by rw [List.getD_eq_getElem?_getD, List.getElem?_eq_getElem h]; rfl
  rw [e] at h0
  have hp : 0 < l.countP (·.2) := List.countP_pos_iff.2 ⟨l[i], List.getElem_mem h, h0⟩
  rw [List.countP_set h, if_pos h0, if_neg (by rw [h1]; decide)]; omega

/-- ks: what was ever taken; fs: what was freed. -/
structure NI (l : List (Int × Bool)) (ks fs : List (Int × Int)) : Prop where
  bnd : ∀ h ∈ ks, 0 ≤ h.1 ∧ h.1 < l.length ∧ 0 ≤ h.2 ∧ h.2 ≤ (l.getD h.1.toNat slotZ).1 ∧ (h.2 = (l.getD h.1.toNat slotZ).1 → (l.getD h.1.toNat slotZ).2 = true)
  all : ∀ h, h ∈ allL l → h ∈ ks
  dead : ∀ h, h ∈ ks → (h ∈ fs ↔ liveB l h.1 h.2 = false)
  sub : ∀ h, h ∈ fs → h ∈ ks
  cnt : ks.length = (allL l).length + fs.length

theorem NI.nil : NI [] [] [] := ⟨by simp, by simp [allL, allTo], by simp, by simp, by simp [allL, allTo]⟩

/-- a slot is made live at its generation -/
theorem NI.put {l l' : List (Int × Bool)} {ks fs : List (Int × Int)} (h : NI l ks fs) {i : Nat} {g : Int} (hlen : l.length ≤ l'.length) (hi : i < l'.length) (hx : l'.getD i slotZ = (g, true)) (hg : 0 ≤ g)
    (hold : ∀ j, j < l.length → j ≠ i → l'.getD j slotZ = l.getD j slotZ) (hnew : ∀ j, j < l'.length → j ≠ i → j < l.length) (hi2 : i < l.length → (l.getD i slotZ) = (g, false)) (hc : (allL l').length = (allL l).length + 1) :
    NI l' (ks ++ [((i : Int), g)]) fs ∧ ((i : Int), g) ∉ ks ∧ liveB l' i g = true := by
  have hlv : liveB l' i g = true := liveB_iff.2 ⟨by omega, by omega, by rw [Int.toNat_natCast]; exact hx⟩
  have hni : ((i : Int), g) ∉ ks := fun hm => by
    obtain ⟨_, h2, _, _, h5⟩ := h.bnd _ hm
    have e := hi2 (by simp at h2; omega)
    simp only [Int.toNat_natCast] at h5
    rw [e] at h5
    exact absurd (h5 rfl) (by simp)
  have lv : ∀ q ∈ ks, liveB l' q.1 q.2 = liveB l q.1 q.2 := fun q hq => by
    obtain ⟨b1, b2, b3, b4, b5⟩ := h.bnd q hq
    by_cases e : q.1.toNat = i
    · have el := hi2 (by omega)
      rw [e, el] at b4 b5
      have hne : ¬ q.2 = g := fun ee => absurd (b5 ee) (by simp)
      have f1 : liveB l' q.1 q.2 = false := by
        cases hh : liveB l' q.1 q.2
        · rfl
        · have := (liveB_iff.1 hh).2.2
          rw [e, hx] at this
          simp only [Prod.mk.injEq] at this
          exact absurd this.1.symm hne
      have f2 : liveB l q.1 q.2 = false := by
        cases hh : liveB l q.1 q.2
        · rfl
        · have := (liveB_iff.1 hh).2.2
          rw [e, el] at this
          simp at this
      rw [f1, f2]
    · rw [Bool.eq_iff_iff, liveB_iff, liveB_iff, hold _ (by omega) e]
      constructor
      · rintro ⟨x1, _, x3⟩; exact ⟨x1, b2, x3⟩
      · rintro ⟨x1, _, x3⟩; exact ⟨x1, by omega, x3⟩
  refine ⟨⟨fun q hq => ?_, fun q hq => ?_, fun q hq => ?_, fun q hq => by simp [h.sub q hq], by simp [h.cnt, hc]; omega⟩, hni, hlv⟩
  · rw [List.mem_append] at hq
    rcases hq with hq | hq
    · obtain ⟨b1, b2, b3, b4, b5⟩ := h.bnd q hq
      by_cases e : q.1.toNat = i
      · have el := hi2 (by omega)
        rw [e, el] at b4 b5
        refine ⟨b1, by omega, b3, by rw [e, hx]; exact b4, fun _ => by rw [e, hx]⟩
      · rw [hold _ (by omega) e]; exact ⟨b1, by omega, b3, b4, b5⟩
    · simp at hq; subst hq
      simp only [Int.toNat_natCast]
      rw [hx]; exact ⟨by omega, by omega, hg, by simp, fun _ => rfl⟩
  · obtain ⟨a, b⟩ := q
    have hl := liveB_iff.1 (mem_allL.1 hq)
    by_cases e : a.toNat = i
    · have := hl.2.2
      rw [e, hx] at this
      simp only [Prod.mk.injEq] at this
      have ea : a = (i : Int) := by omega
      rw [List.mem_append, ea, ← this.1]; simp
    · rw [List.mem_append]
      refine .inl (h.all _ (mem_allL.2 (liveB_iff.2 ⟨hl.1, ?_, ?_⟩)))
      · have := hnew a.toNat (by omega) e; omega
      · rw [← hold _ (hnew a.toNat (by omega) e) e]; exact hl.2.2
  · rw [List.mem_append] at hq
    rcases hq with hq | hq
    · rw [lv q hq]; exact h.dead q hq
    · simp at hq; subst hq
      constructor
      · intro hf; exact absurd (h.sub _ hf) hni
      · intro hf; rw [hlv] at hf; cases hf
theorem NI.take {l : List (Int × Bool)} {ks fs : List (Int × Int)} (h : NI l ks fs) (ok : SlotOk l) (he : takeE l = 0) : NI (takeL l) (ks ++ [takeH l]) fs ∧ takeH l ∉ ks ∧ liveB (takeL l) (takeH l).1 (takeH l).2 = true := by
  by_cases hl : firstFree l < l.length
  · have hf := firstFree_lt hl
    simp [freeB] at hf
    have hg := ok.gen _ hl
    have hfalse : (l.getD (firstFree l) slotZ).2 = false := by
      have := firstFree_lt hl
      simp only [freeB, Bool.and_eq_true, Bool.not_eq_true'] at this; exact this.1
    rw [takeL_old hl, takeH_old hl]
    refine h.put (i := firstFree l) (by simp) (by simpa using hl) (getD_set_eq _ _ _ _ hl) hg.1 (fun j hj hne => getD_set_ne _ _ _ (Ne.symm hne)) (fun j hj _ => by simpa using hj) (fun _ => Prod.ext rfl hfalse) ?_
    rw [allL_count, allL_count, countP_set_on hl hfalse rfl]
  · by_cases h60 : l.length < 60
    · rw [takeL_new hl h60, takeH_new hl h60]
      refine h.put (i := l.length) (by simp) (by simp) (getD_append_last _ _ _) (by decide) (fun j hj _ => getD_append_l _ _ _ _ hj) (fun j hj hne => by simp at hj; omega) (fun hh => by omega) ?_
      rw [allL_count, allL_count, List.countP_append]; rfl
    · rw [takeE_no hl h60] at he; cases he
theorem NI.free {l : List (Int × Bool)} {ks fs : List (Int × Int)} (h : NI l ks fs) {a b : Int} (hm : (a, b) ∈ allL l) : NI (freeL l a b) ks (fs ++ [(a, b)]) ∧ (a, b) ∉ fs ∧ freeE l a b = 0 ∧ freeE (freeL l a b) a b = 7 := by
  have hlv := mem_allL.1 hm
  obtain ⟨h0, h1, h2⟩ := liveB_iff.1 hlv
  have hk := h.all _ hm
  have hnf : (a, b) ∉ fs := fun hf => by have := (h.dead _ hk).1 hf; simp only at this; rw [hlv] at this; cases this
  have hat : (freeL l a b).getD a.toNat slotZ = (b + 1, false) := by rw [freeL_live hlv, getD_set_eq _ _ _ _ (by omega)]
  have hlen : (freeL l a b).length = l.length := by rw [freeL_live hlv]; simp
  have hoth : ∀ j, j ≠ a.toNat → (freeL l a b).getD j slotZ = l.getD j slotZ := fun j hj => by rw [freeL_live hlv, getD_set_ne _ _ _ (Ne.symm hj)]
  have hdead : liveB (freeL l a b) a b = false := by
    cases hh : liveB (freeL l a b) a b
    · rfl
    · have := (liveB_iff.1 hh).2.2; rw [hat] at this; simp at this
  have lv : ∀ q ∈ ks, q ≠ (a, b) → liveB (freeL l a b) q.1 q.2 = liveB l q.1 q.2 := fun q hq hne => by
    obtain ⟨b1, b2, b3, b4, b5⟩ := h.bnd q hq
    by_cases e : q.1.toNat = a.toNat
    · have ea : q.1 = a := by omega
      have hb : ¬ q.2 = b := fun ee => hne (Prod.ext ea ee)
      have f1 : liveB (freeL l a b) q.1 q.2 = false := by
        cases hh : liveB (freeL l a b) q.1 q.2
        · rfl
        · have := (liveB_iff.1 hh).2.2; rw [e, hat] at this; simp at this
      have f2 : liveB l q.1 q.2 = false := by
        cases hh : liveB l q.1 q.2
        · rfl
        · have := (liveB_iff.1 hh).2.2
          rw [e, h2] at this; simp only [Prod.mk.injEq] at this; exact absurd this.1.symm hb
      rw [f1, f2]
    · rw [Bool.eq_iff_iff, liveB_iff, liveB_iff, hoth _ e, hlen]
  refine ⟨⟨fun q hq => ?_, fun q hq => ?_, fun q hq => ?_, fun q hq => ?_, ?_⟩, hnf, freeE_live hlv, freeE_dead hdead⟩
  · obtain ⟨b1, b2, b3, b4, b5⟩ := h.bnd q hq
    rw [hlen]
    by_cases e : q.1.toNat = a.toNat
    · rw [e, h2] at b4 b5
      rw [e, hat]
      simp only at b4 ⊢
      exact ⟨b1, b2, b3, by omega, fun ee => by omega⟩
    · rw [hoth _ e]; exact ⟨b1, b2, b3, b4, b5⟩
  · obtain ⟨x, y⟩ := q
    have hl := liveB_iff.1 (mem_allL.1 hq)
    by_cases e : x.toNat = a.toNat
    · have := hl.2.2; rw [e, hat] at this; simp at this
    · refine h.all _ (mem_allL.2 (liveB_iff.2 ⟨hl.1, ?_, ?_⟩))
      · rw [← hlen]; exact hl.2.1
      · rw [← hoth _ e]; exact hl.2.2
  · by_cases e : q = (a, b)
    · subst e; simp only [List.mem_append, List.mem_singleton, or_true, true_iff]; exact hdead
    · rw [lv q hq e, List.mem_append]
      have : ¬ q ∈ [(a, b)] := by simpa using e
      simp only [this, or_false]
      exact h.dead q hq
  · rw [List.mem_append] at hq
    rcases hq with hq | hq
    · exact h.sub q hq
    · simp at hq; subst hq; exact hk
  · have : (allL (freeL l a b)).length + 1 = (allL l).length := by
      rw [allL_count, allL_count, freeL_live hlv]
      exact countP_set_off (by omega) (by rw [h2]) rfl
    have := h.cnt
    simp; omega
theorem take_full {k : Nat} {l : List (Int × Bool)} (h : genLe k l) (hk : k < 1000000) (he : takeE l ≠ 0) : takeE l = 2 ∧ 60 ≤ (allL l).length := by
  by_cases hl : firstFree l < l.length
  · exact absurd (takeE_old hl) he
  · by_cases h60 : l.length < 60
    · exact absurd (takeE_new hl h60) he
    · refine ⟨takeE_no hl h60, ?_⟩
      have hall : ∀ j, j < l.length → (l.getD j slotZ).2 = true := fun j hj => by
        have := firstFree_not (l := l) (k := j) (by omega)
        rw [freeB_of h hk hj] at this; simpa using this
      have := allTo_all l.length hall
      unfold allL; omega
end Go.Proofs.Ytdaefadapkkgjaa

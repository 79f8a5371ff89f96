
/- What the reference's Print compares, over plain lists. No Go in sight. -/
import Derived.Test.YtndhomjfjhohoaaGreatDoorTextE
namespace Go.Proofs.YtndhomjfjhohoaaGreatDoor
open Go Go.RowKit

theorem rows_nodup {g : List Int} {rs : List Rw} (h : wldE g rs = 0) : (sNums rs).Nodup := by
  unfold wldE at h
  split at h
  · split at h
    · rename_i hl; exact ldE_zero hl
    · rename_i hl; exact absurd h hl
  · cases h
theorem rows_inj {rs : List Rw} (h : (sNums rs).Nodup) {x y : Rw} (hx : x ∈ rs) (hy : y ∈ rs) (e : x.s = y.s) : x = y := by
  obtain ⟨i, hi, rfl⟩ := List.getElem_of_mem hx
  obtain ⟨j, hj, rfl⟩ := List.getElem_of_mem hy
  have := List.pairwise_iff_getElem.1 h
  by_cases hij : i = j
  · subst hij; rfl
  · rcases Nat.lt_or_gt_of_ne hij with hl | hl
    · have := this i j (by simp [sNums]; exact hi) (by simp [sNums]; exact hj) hl
      simp [sNums] at this; exact absurd e this
    · have := this j i (by simp [sNums]; exact hj) (by simp [sNums]; exact hi) hl
      simp [sNums] at this; exact absurd e.symm this
theorem sortR_iff {g : List Int} {rs : List Rw} (h : wldE g rs = 0) : (sortR g.length rs = rs ↔ upS rs = true) ∧ ∀ k, ((sortR g.length rs).getD k rowZ).s = (rs.getD k rowZ).s → (sortR g.length rs).getD k rowZ = rs.getD k rowZ := by
  obtain ⟨hok, hm⟩ := WOk.load h
  have hn := rows_nodup h
  have hup := hok.up
  have n2 : rs.Nodup := (List.pairwise_map.1 hn).imp (fun hne e => hne (by rw [e]))
  have n1 : (sortR g.length rs).Nodup := hup.imp (fun hl e => by rw [e] at hl; omega)
  have hlen : (sortR g.length rs).length = rs.length := ((List.perm_ext_iff_of_nodup n1 n2).2 hm).length_eq
  refine ⟨⟨fun e => ?_, fun e => ?_⟩, fun k e => ?_⟩
  · rw [e] at hup
    refine decide_eq_true ?_
    rw [List.pairwise_map]
    exact hup.imp (fun hh => by omega)
  · have h1 := of_decide_eq_true e
    rw [List.pairwise_map] at h1
    have h2 := List.pairwise_map.1 hn
    exact rows_ext hup ((h1.and h2).imp (fun ⟨a, b⟩ => by omega)) hm
  · by_cases hk : k < rs.length
    · exact rows_inj hn ((hm _).1 (memD (by omega))) (memD hk) e
    · rw [List.getD_eq_getElem?_getD, List.getD_eq_getElem?_getD, List.getElem?_eq_none (by omega), List.getElem?_eq_none (by omega)]
theorem accB_mem {l : List (Int × Bool)} {bs : List Bd} : ∀ {t : Nat}, t ≤ bs.length → fitsTo l bs t → ∀ b, b ∈ accB (bs.take t) ↔ b ∈ bs.take t
  | 0, _, _, b => by simp [accB]
  | t + 1, ht, h, b => by
    have ih := accB_mem (t := t) (by omega) (fun j hj => h j (by omega))
    obtain ⟨-, h3, h4⟩ := h t (by omega)
    rw [takeB_snoc (by omega), accB_snoc, List.mem_append, List.mem_singleton]
    generalize bs.getD t bdZ0 = x at *
    have hlo : ¬ Loops (accB (bs.take t)) x.1 x.2 := fun hl => by rw [(adoptB_yes hl).2] at h4; cases h4
    rw [mem_adoptB hlo]
    constructor
    · rintro (rfl | ⟨hb, -⟩)
      · exact .inr rfl
      · exact .inl ((ih b).1 hb)
    · rintro (hb | rfl)
      · have hb' := (ih b).2 hb
        refine .inr ⟨hb', fun e => ?_⟩
        have : hasP (accB (bs.take t)) x.1 = true := hasP_iff.2 ⟨b.2, by rw [← e]; exact hb'⟩
        rw [h3] at this; cases this
      · exact .inl rfl
theorem keys_fit {l : List (Int × Bool)} {bs : List Bd} : ∀ {t : Nat}, t ≤ bs.length → fitsTo l bs t → ((bs.take t).map (·.1)).Nodup
  | 0, _, _ => by simp
  | t + 1, ht, h => by
    have ih := keys_fit (t := t) (by omega) (fun j hj => h j (by omega))
    have hm := accB_mem (t := t) (by omega) (fun j hj => h j (by omega))
    obtain ⟨-, h3, -⟩ := h t (by omega)
    rw [takeB_snoc (by omega), List.map_append, List.map_cons, List.map_nil]
    generalize bs.getD t bdZ0 = x at *
    refine List.nodup_append.2 ⟨ih, by simp, fun a ha b hb e => ?_⟩
    rw [List.mem_singleton] at hb
    subst hb e
    obtain ⟨y, hy, e⟩ := List.mem_map.1 ha
    have : hasP (accB (bs.take t)) x.1 = true := hasP_iff.2 ⟨y.2, by rw [← e]; exact (hm y).2 hy⟩
    rw [h3] at this; cases this
theorem accB_iff {g : List Int} {rs : List Rw} {bs : List Bd} (h : zldE g rs bs = 0) : accB bs = bs ↔ upC bs = true := by
  have h0 := h
  unfold zldE at h
  split at h
  · rename_i hw
    obtain ⟨hok, -⟩ := WOk.load hw
    have hf : fitsTo (mkL g (sNums rs)) bs bs.length := fun j hj => by
      have := fits_of_zero h (pre := []) rfl j hj
      simpa using this
    obtain ⟨i1, i2, i3⟩ := accB_ok hok.slots (Nat.le_refl _) hf
    have i4 := accB_mem (Nat.le_refl _) hf
    rw [List.take_length] at i1 i2 i3 i4
    constructor
    · intro e
      have hs := i1.sorted
      rw [e] at hs
      refine decide_eq_true ?_
      rw [List.pairwise_map]
      exact hs.imp (fun hh => by unfold hlt at hh; omega)
    · intro e
      have hup := of_decide_eq_true e
      rw [List.pairwise_map] at hup
      have hk : (bs.map (·.1)).Nodup := by have := keys_fit (Nat.le_refl _) hf; rwa [List.take_length] at this
      have hl : ∀ b ∈ bs, liveH (mkL g (sNums rs)) b.1 = true ∧ liveH (mkL g (sNums rs)) b.2 = true := fun b hb => i2 b ((i4 b).2 hb)
      have hs : SortedB bs := by
        refine List.Pairwise.imp_of_mem (fun {a b} ha hb hh => ?_) (hup.and (List.pairwise_map.1 hk))
        obtain ⟨h1, h2⟩ := hh
        by_cases e1 : a.1.1 = b.1.1
        · exfalso
          refine h2 (Prod.ext e1 ?_)
          have l1 := liveB_iff.1 (hl a ha).1
          have l2 := liveB_iff.1 (hl b hb).1
          rw [e1] at l1
          have := l1.2.2.symm.trans l2.2.2
          exact (Prod.mk.inj this).1
        · exact .inl (by omega)
      have := (accB_sorted hs (i1.acy.sub (fun b hb => (i4 b).2 hb)) hl bs.length (Nat.le_refl _)).1
      rwa [List.take_length] at this
  · rename_i hw; exact absurd h hw
end Go.Proofs.YtndhomjfjhohoaaGreatDoor

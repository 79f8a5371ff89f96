/- Rows put in the order of their slots, as the reference's WorldLoad does: plain lists. -/
import Derived.Test.YtlclceiebnnpgaaGreatWLoadModel
namespace Go.Proofs.YtlclceiebnnpgaaGreat
open Go.RowKit

def atSlot (rs : List Rw) (k : Nat) : List Rw := rs.filter (fun r => r.s == (k : Int))
def sortR (n : Nat) (rs : List Rw) : List Rw := (List.range n).flatMap (atSlot rs)
theorem sortR_succ (n : Nat) (rs : List Rw) : sortR (n + 1) rs = sortR n rs ++ atSlot rs n := by simp [sortR, List.range_succ, List.flatMap_append]
theorem mem_atSlot {rs : List Rw} {k : Nat} {x : Rw} : x ∈ atSlot rs k ↔ x ∈ rs ∧ x.s = (k : Int) := by simp [atSlot, List.mem_filter]
theorem mem_sortR {n : Nat} {rs : List Rw} {x : Rw} : x ∈ sortR n rs ↔ x ∈ rs ∧ 0 ≤ x.s ∧ x.s < (n : Int) := by
  unfold sortR
  rw [List.mem_flatMap]
  constructor
  · rintro ⟨k, hk, hx⟩
    rw [List.mem_range] at hk
    obtain ⟨h1, h2⟩ := mem_atSlot.1 hx
    exact ⟨h1, by omega, by omega⟩
  · rintro ⟨h1, h2, h3⟩
    exact ⟨x.s.toNat, by rw [List.mem_range]; omega, mem_atSlot.2 ⟨h1, by omega⟩⟩
theorem atSlot_up {rs : List Rw} (h : (sNums rs).Nodup) (k : Nat) : (atSlot rs k).Pairwise (fun x y => x.s < y.s) := by
  have hp : rs.Pairwise (fun x y => x.s ≠ y.s) := by rwa [sNums, List.nodup_iff_pairwise_ne, List.pairwise_map] at h
  refine List.Pairwise.imp_of_mem ?_ (hp.filter _)
  intro x y hx hy hne
  have h1 := (mem_atSlot (rs := rs) (k := k)).1 hx
  have h2 := (mem_atSlot (rs := rs) (k := k)).1 hy
  exact absurd (h1.2.trans h2.2.symm) hne
theorem sortR_up {rs : List Rw} (h : (sNums rs).Nodup) : ∀ n, (sortR n rs).Pairwise (fun x y => x.s < y.s)
  | 0 => by simp [sortR]
  | n + 1 => by
    rw [sortR_succ, List.pairwise_append]
    refine ⟨sortR_up h n, atSlot_up h n, fun x hx y hy => ?_⟩
    have h1 := (mem_sortR.1 hx).2.2
    have h2 := (mem_atSlot.1 hy).2
    omega
theorem rowsE_zero {l : List (Int × Bool)} : ∀ {rs : List Rw}, rowsE l rs = 0 → ∀ x ∈ rs, goodR l x
  | [], _ => fun x hx => by cases hx
  | r :: rs, h => fun x hx => by
    rw [rowsE] at h
    cases hl : liveB l r.s r.g
    · rw [hl] at h; simp at h
    · rw [hl, if_pos rfl] at h
      by_cases hb : bErr r.m [r.f 0, r.f 1, r.f 2, r.f 3, r.f 4, r.f 5, r.f 6, r.f 7] = 0
      · rw [if_pos hb] at h
        rcases List.mem_cons.1 hx with rfl | hx
        · exact ⟨hl, hb⟩
        · exact rowsE_zero h x hx
      · rw [if_neg hb] at h; exact absurd h hb
/-- What is loaded is a world as they can be. -/
theorem WOk.load {gens : List Int} {rs : List Rw} (h : wldE gens rs = 0) : WOk (mkL gens (sNums rs)) (sortR gens.length rs) ∧ ∀ x, x ∈ sortR gens.length rs ↔ x ∈ rs := by
  unfold wldE at h
  split at h
  · split at h
    · rename_i hl
      have hg := rowsE_zero h
      have hin : ∀ x ∈ rs, 0 ≤ x.s ∧ x.s < (gens.length : Int) := fun x hx => by
        have := liveB_iff.1 (hg x hx).1
        rw [mkL_len] at this
        exact ⟨this.1, this.2.1⟩
      have hm : ∀ x, x ∈ sortR gens.length rs ↔ x ∈ rs := fun x => by
        rw [mem_sortR]
        exact ⟨fun h => h.1, fun h => ⟨h, hin x h⟩⟩
      refine ⟨⟨mkL_ok hl, sortR_up (ldE_zero hl) _, fun r hr => (hg r ((hm r).1 hr)).1, fun a b hab => ?_, fun r hr => (hg r ((hm r).1 hr)).2⟩, hm⟩
      obtain ⟨h0, h1, h2⟩ := liveB_iff.1 hab
      rw [mkL_len] at h1
      obtain ⟨k, rfl⟩ := Int.eq_ofNat_of_zero_le h0
      rw [Int.toNat_natCast, mkL_at (by omega)] at h2
      simp only [Prod.mk.injEq, decide_eq_true_eq] at h2
      obtain ⟨r, hr, e⟩ := List.mem_map.1 h2.2
      refine ⟨r, (hm r).2 hr, e, ?_⟩
      have := (liveB_iff.1 (hg r hr).1).2.2
      rw [e, Int.toNat_natCast, mkL_at (by omega)] at this
      rw [← h2.1]
      exact (Prod.mk.inj this).1.symm
    · rename_i hl; exact absurd h hl
  · cases h
end Go.Proofs.YtlclceiebnnpgaaGreat

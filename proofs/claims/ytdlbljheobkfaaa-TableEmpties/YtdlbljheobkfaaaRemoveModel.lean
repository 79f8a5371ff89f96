/- Removing rows one by one: each comes out once. -/
import Derived.Test.YtdlbljheobkfaaaFill
namespace Go.Proofs.Ytdlbljheobkfaaa
open Go.RowKit

theorem set_perm {α : Type} (d l : α) : ∀ (ys : List α) (k : Nat), k < ys.length → (l :: ys).Perm (ys.getD k d :: ys.set k l)
  | y :: ys, 0, _ => by simpa using List.Perm.swap y l ys
  | y :: ys, k + 1, h => by
    have ih := set_perm d l ys k (by simpa using h)
    have e1 : (y :: ys).getD (k + 1) d = ys.getD k d := by simp
    rw [e1, List.set_cons_succ]
    exact (List.Perm.swap y l ys).trans ((ih.cons y).trans (List.Perm.swap _ _ _))
/-- All but the removed one stay. -/
theorem rmL_perm {α : Type} (xs : List α) (k : Nat) (d : α) (h : k < xs.length) : xs.Perm (xs.getD k d :: rmL xs k d) := by
  rcases List.eq_nil_or_concat xs with rfl | ⟨ys, l, rfl⟩
  · simp at h
  · rw [List.concat_eq_append] at *
    have hl : (ys ++ [l]).getD ((ys ++ [l]).length - 1) d = l := by simp [List.getD_eq_getElem?_getD]
    unfold rmL
    rw [hl]
    by_cases e : k < ys.length
    · rw [List.set_append_left _ _ e, List.dropLast_concat]
      have e2 : (ys ++ [l]).getD k d = ys.getD k d := by simp [List.getD_eq_getElem?_getD, List.getElem?_append_left e]
      rw [e2]
      exact (List.perm_append_singleton l ys).trans (set_perm d l ys k e)
    · have ek : k = ys.length := by simp at h; omega
      subst ek
      have e2 : (ys ++ [l]).getD ys.length d = l := by simp [List.getD_eq_getElem?_getD]
      rw [e2, List.set_append_right _ _ (Nat.le_refl _)]
      simp only [Nat.sub_self, List.set_cons_zero, List.dropLast_concat]
      exact List.perm_append_singleton l ys
theorem rmL_get {α : Type} (xs : List α) (k i : Nat) (d : α) (h : i < xs.length - 1) : (rmL xs k d).getD i d = (xs.set k (xs.getD (xs.length - 1) d)).getD i d := by
  unfold rmL
  rw [List.getD_eq_getElem?_getD, List.getElem?_dropLast, List.length_set, if_pos h, ← List.getD_eq_getElem?_getD]

/-- The rows that are still there, and the slots of those that came out. -/
structure EmptyI (m : Int) (zs : List Int) (n i : Nat) (cur : List Rw) (ks : List Int) : Prop where
  len : cur.length + i = n
  mem : ∀ r ∈ cur, ∃ s : Nat, s < n ∧ r = fillR m s (zs.getD s 0)
  nd : (cur.map (·.s)).Nodup
  ap : ∀ r ∈ cur, ¬ r.s ∈ ks
theorem fillL_mem (m : Int) (zs : List Int) : ∀ n r, r ∈ fillL m zs n → ∃ s : Nat, s < n ∧ r = fillR m s (zs.getD s 0)
  | 0, r, h => by simp [fillL] at h
  | n + 1, r, h => by
    rw [fillL, List.mem_append] at h
    rcases h with h | h
    · obtain ⟨s, hs, e⟩ := fillL_mem m zs n r h
      exact ⟨s, by omega, e⟩
    · simp at h; exact ⟨n, by omega, h⟩
theorem fillL_slots (m : Int) (zs : List Int) : ∀ n, ((fillL m zs n).map (·.s)).Nodup
  | 0 => by simp [fillL]
  | n + 1 => by
    rw [fillL, List.map_append, List.nodup_append]
    refine ⟨fillL_slots m zs n, by simp, fun x hx y hy e => ?_⟩
    obtain ⟨r, hr, rfl⟩ := List.mem_map.1 hx
    obtain ⟨s, hs, rfl⟩ := fillL_mem m zs n r hr
    simp [fillR] at hy e
    omega
theorem EmptyI.start (m : Int) (zs : List Int) (n : Nat) : EmptyI m zs n 0 (fillL m zs n) [] := ⟨by rw [fillL_len]; rfl, fillL_mem m zs n, fillL_slots m zs n, fun r _ => by simp⟩
theorem EmptyI.next {m : Int} {zs : List Int} {n i k : Nat} {cur : List Rw} {ks : List Int} (h : EmptyI m zs n i cur ks) (hk : k < cur.length) :
    EmptyI m zs n (i + 1) (rmL cur k rowZ) (ks ++ [(cur.getD k rowZ).s]) ∧ ¬ (cur.getD k rowZ).s ∈ ks ∧ ∃ s : Nat, s < n ∧ cur.getD k rowZ = fillR m s (zs.getD s 0) := by
  have hp := rmL_perm cur k rowZ hk
  have hr : cur.getD k rowZ ∈ cur := mem_getD hk
  have hnd := (hp.map (·.s)).nodup_iff.1 h.nd
  rw [List.map_cons, List.nodup_cons] at hnd
  refine ⟨⟨by have := h.len; rw [rmL_len]; omega, fun r hr' => h.mem r (hp.mem_iff.2 (by simp [hr'])), hnd.2, fun r hr' e => ?_⟩, h.ap _ hr, h.mem _ hr⟩
  rw [List.mem_append] at e
  rcases e with e | e
  · exact h.ap r (hp.mem_iff.2 (by simp [hr'])) e
  · rw [List.mem_singleton] at e
    exact hnd.1 (by rw [← e]; exact List.mem_map.2 ⟨r, hr', rfl⟩)
end Go.Proofs.Ytdlbljheobkfaaa

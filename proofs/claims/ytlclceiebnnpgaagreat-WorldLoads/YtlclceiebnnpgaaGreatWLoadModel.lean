/- What Load of a world does, over plain lists: its errors and its result. -/
import Derived.Test.YtlclceiebnnpgaaGreatLoadModel
import Derived.Test.YtlclceiebnnpgaaGreatRowFacts
namespace Go.Proofs.YtlclceiebnnpgaaGreat
open Go.RowKit

def sloL (rs : List Rw) : List (Int × Bool) := rs.map fun r => (r.s, false)
def sNums (rs : List Rw) : List Int := rs.map fun r => r.s
theorem gensL_sloL (rs : List Rw) : gensL (sloL rs) = sNums rs := by simp [gensL, sloL, sNums, Function.comp_def]
theorem sloL_len (rs : List Rw) : (sloL rs).length = rs.length := by simp [sloL]
theorem sNums_len (rs : List Rw) : (sNums rs).length = rs.length := by simp [sNums]
theorem sloL_at {rs : List Rw} {k : Nat} (h : k < rs.length) : ((sloL rs).getD k slotZ).1 = (rs.getD k rowZ).s := by
  simp [sloL, List.getD_eq_getElem?_getD, List.getElem?_eq_getElem h]
def goodR (l : List (Int × Bool)) (r : Rw) : Prop := liveB l r.s r.g = true ∧ bErr r.m [r.f 0, r.f 1, r.f 2, r.f 3, r.f 4, r.f 5, r.f 6, r.f 7] = 0
def rowsE (l : List (Int × Bool)) : List Rw → Int
  | [] => 0
  | r :: rs => if liveB l r.s r.g then (if bErr r.m [r.f 0, r.f 1, r.f 2, r.f 3, r.f 4, r.f 5, r.f 6, r.f 7] = 0 then rowsE l rs else bErr r.m [r.f 0, r.f 1, r.f 2, r.f 3, r.f 4, r.f 5, r.f 6, r.f 7]) else 7
def wldE (gens : List Int) (rs : List Rw) : Int := if rs.length ≤ 60 then (if ldE gens (sNums rs) = 0 then rowsE (mkL gens (sNums rs)) rs else ldE gens (sNums rs)) else 2
theorem rowsE_skip {l : List (Int × Bool)} : ∀ {xs ys : List Rw}, (∀ x ∈ xs, goodR l x) → rowsE l (xs ++ ys) = rowsE l ys
  | [], _, _ => rfl
  | x :: xs, ys, h => by
    have hx := h x (by simp)
    rw [List.cons_append, rowsE, hx.1, if_pos rfl, if_pos hx.2]
    exact rowsE_skip (fun y hy => h y (by simp [hy]))
theorem split_at {rs : List Rw} {t : Nat} {r : Rw} (ht : t < rs.length) (hr : rs.getD t rowZ = r) : rs = rs.take t ++ r :: rs.drop (t + 1) := by
  have hrt : rs[t] = r := by rw [← hr, List.getD_eq_getElem?_getD, List.getElem?_eq_getElem ht]; rfl
  rw [← hrt, List.getElem_cons_drop, List.take_append_drop]
theorem rowsE_dead {l : List (Int × Bool)} {rs : List Rw} {t : Nat} {r : Rw} (hg : ∀ x ∈ rs.take t, goodR l x) (ht : t < rs.length) (hr : rs.getD t rowZ = r) (h : liveB l r.s r.g = false) : rowsE l rs = 7 := by
  rw [split_at ht hr, rowsE_skip hg, rowsE, h]; rfl
theorem rowsE_bad {l : List (Int × Bool)} {rs : List Rw} {t : Nat} {r : Rw} (hg : ∀ x ∈ rs.take t, goodR l x) (ht : t < rs.length) (hr : rs.getD t rowZ = r) (h : liveB l r.s r.g = true) (hb : bErr r.m [r.f 0, r.f 1, r.f 2, r.f 3, r.f 4, r.f 5, r.f 6, r.f 7] ≠ 0) : rowsE l rs = bErr r.m [r.f 0, r.f 1, r.f 2, r.f 3, r.f 4, r.f 5, r.f 6, r.f 7] := by
  rw [split_at ht hr, rowsE_skip hg, rowsE, h, if_pos rfl, if_neg hb]
theorem rowsE_ok {l : List (Int × Bool)} {rs : List Rw} (hg : ∀ x ∈ rs, goodR l x) : rowsE l rs = 0 := by
  have := rowsE_skip (ys := []) hg
  rw [List.append_nil] at this; exact this
theorem good_next {l : List (Int × Bool)} {rs : List Rw} {t : Nat} {r : Rw} (hg : ∀ x ∈ rs.take t, goodR l x) (ht : t < rs.length) (hr : rs.getD t rowZ = r) (h : goodR l r) : (∀ x ∈ rs.take (t + 1), goodR l x) ∧ ∀ x, x ∈ rs.take (t + 1) ↔ x = r ∨ x ∈ rs.take t := by
  have e : rs.take (t + 1) = rs.take t ++ [r] := by rw [List.take_add_one, List.getElem?_eq_getElem ht, ← hr, List.getD_eq_getElem?_getD, List.getElem?_eq_getElem ht]; rfl
  have hm : ∀ x, x ∈ rs.take (t + 1) ↔ x = r ∨ x ∈ rs.take t := fun x => by rw [e, List.mem_append, List.mem_singleton]; exact Or.comm
  exact ⟨fun x hx => by rcases (hm x).1 hx with rfl | hx; · exact h
                        · exact hg x hx, hm⟩
theorem ldE_zero {gens live : List Int} (h : ldE gens live = 0) : live.Nodup := by
  have h1 : lstE gens = 0 := Classical.byContradiction fun hn => by rw [ldE_bad hn] at h; exact hn h
  rw [ldE_ok h1] at h
  unfold enlE at h
  split at h
  · split at h
    · assumption
    · cases h
  · cases h
theorem new_handle {rs : List Rw} {t : Nat} {r : Rw} (hn : (sNums rs).Nodup) (ht : t < rs.length) (hr : rs.getD t rowZ = r) : ∀ x ∈ rs.take t, x.s ≠ r.s := fun x hx e => by
  rw [split_at ht hr, sNums, List.map_append, List.map_cons, List.nodup_append] at hn
  exact hn.2.2 x.s (List.mem_map.2 ⟨x, hx, rfl⟩) r.s (by simp) e
theorem live_I64 {l : List (Int × Bool)} (ok : SlotOk l) {a b : Int} (h : liveB l a b = true) : I64r a ∧ I64r b := by
  obtain ⟨h0, h1, h2⟩ := liveB_iff.1 h
  have hl := ok.len
  have hg := ok.gen a.toNat (by omega)
  rw [h2] at hg
  simp only at hg
  exact ⟨⟨by omega, by omega⟩, ⟨by omega, by omega⟩⟩

/-- A world's own rows, loaded again. -/
theorem mkL_rows {l : List (Int × Bool)} {rows : List Rw} (h : WOk l rows) : mkL (gensL l) (sNums rows) = l := by
  refine eqD (d := slotZ) (by rw [mkL_len, gensL_lenK]) fun k hk => ?_
  rw [mkL_len] at hk
  rw [mkL_at hk, gensL_atR]
  rw [gensL_lenK] at hk
  refine Prod.ext rfl ?_
  show decide ((k : Int) ∈ sNums rows) = (l.getD k slotZ).2
  cases hf : (l.getD k slotZ).2
  · rw [decide_eq_false_iff_not]
    intro hm
    obtain ⟨r, hr, e⟩ := List.mem_map.1 hm
    have := (liveB_iff.1 (h.live r hr)).2.2
    rw [e, Int.toNat_natCast] at this
    rw [this] at hf; cases hf
  · rw [decide_eq_true_eq]
    obtain ⟨r, hr, e1, -⟩ := h.all (k : Int) (l.getD k slotZ).1 (liveB_iff.2 ⟨by omega, by omega, by rw [Int.toNat_natCast]; exact Prod.ext rfl hf⟩)
    exact List.mem_map.2 ⟨r, hr, e1⟩
theorem wldE_rows {l : List (Int × Bool)} {rows : List Rw} (h : WOk l rows) : ldE (gensL l) (sNums rows) = 0 ∧ wldE (gensL l) rows = 0 := by
  have hld : ldE (gensL l) (sNums rows) = 0 := by
    rw [ldE_ok (lstE_ok (by rw [gensL_lenK]; exact h.slots.len) (fun j hj => by
      rw [gensL_lenK] at hj
      rw [gensL_atR]
      have := h.slots.gen j hj
      generalize (l.getD j slotZ).1 = x at *
      simp [okG, inB]; omega))]
    rw [enlE_end (b := false) (fun j hj => by
      rw [sNums_len] at hj
      have hmem : rows.getD j rowZ ∈ rows := mem_getD hj
      have := (liveB_iff.1 (h.live _ hmem))
      rw [show (sNums rows).getD j 0 = (rows.getD j rowZ).s from getD_map _ _ _ rowZ _ hj, gensL_lenK]
      generalize (rows.getD j rowZ).s = x at *
      simp [inB]; omega) (by
      rw [sNums, List.nodup_iff_pairwise_ne, List.pairwise_map]
      exact h.up.imp (fun h => by omega)) (by
      rw [mkL_rows h, decide_eq_false_iff_not]
      intro hm
      obtain ⟨k, hk, e⟩ := List.getElem_of_mem hm
      have hg : l.getD k slotZ = (1000000, true) := by rw [List.getD_eq_getElem?_getD, List.getElem?_eq_getElem hk]; exact e
      have := h.slots.live k hk (by rw [hg])
      rw [hg] at this
      simp at this)]
    rfl
  refine ⟨hld, ?_⟩
  rw [wldE, if_pos h.len60, if_pos hld, mkL_rows h]
  exact rowsE_ok (fun x hx => ⟨h.live x hx, h.ok x hx⟩)
end Go.Proofs.YtlclceiebnnpgaaGreat

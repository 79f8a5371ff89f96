/- Rows picked out of a world, by increasing slots: plain lists. -/
import Derived.Test.YtlclceiebnnpgaaGreatPlaces
namespace Go.Proofs.YtlclceiebnnpgaaGreat
open Go.RowKit

/-- what Rows answers -/
def rowsQ (rows : List Rw) (a b c : Int) : List Rw := if qErr a b c = 0 then rows.filter (fun r => matchB r.m a b c) else []

theorem sorted_ext : ∀ {xs ys : List Rw}, xs.Pairwise (fun x y => x.s < y.s) → ys.Pairwise (fun x y => x.s < y.s) → (∀ x, x ∈ xs ↔ x ∈ ys) → xs = ys
  | [], [], _, _, _ => rfl
  | [], y :: ys, _, _, h => by have := (h y).2 (by simp); simp at this
  | x :: xs, [], _, _, h => by have := (h x).1 (by simp); simp at this
  | x :: xs, y :: ys, hx, hy, h => by
    obtain ⟨x1, x2⟩ := List.pairwise_cons.1 hx
    obtain ⟨y1, y2⟩ := List.pairwise_cons.1 hy
    have e : x = y := by
      rcases List.mem_cons.1 ((h x).1 (by simp)) with e | e
      · exact e
      · rcases List.mem_cons.1 ((h y).2 (by simp)) with e' | e'
        · exact e'.symm
        · have := y1 x e; have := x1 y e'; omega
    subst e
    congr 1
    refine sorted_ext x2 y2 (fun z => ?_)
    constructor
    · intro hz
      rcases List.mem_cons.1 ((h z).1 (by simp [hz])) with e | e
      · subst e; have := x1 z hz; omega
      · exact e
    · intro hz
      rcases List.mem_cons.1 ((h z).2 (by simp [hz])) with e | e
      · subst e; have := y1 z hz; omega
      · exact e

section
variable {ks : List Int} {tr : Int → List Rw} {hk : List (Int × Int)} {pl : Int × Int → Int × Nat} {rows : List Rw}
/-- What a loop over the tables has picked up: the tables in todo are still to come. -/
structure Pick (ks : List Int) (tr : Int → List Rw) (a b c : Int) (todo : List Int) (ys : List Rw) : Prop where
  mem : ∀ x, x ∈ ys ↔ ∃ k ∈ ks, ¬ k ∈ todo ∧ matchB k a b c = true ∧ x ∈ tr k
  nd : (ys.map hd).Nodup
theorem Laid.trNodup (h : Laid ks tr hk pl (· ∈ rows)) {k : Int} (hk' : k ∈ ks) : ((tr k).map hd).Nodup := by
  rw [List.nodup_iff_pairwise_ne, List.pairwise_iff_getElem]
  intro i j hi hj hij e
  simp at hi hj
  have e1 := (h.back k hk' i hi).2
  have e2 := (h.back k hk' j hj).2
  have g1 : (tr k).getD i rowZ = (tr k)[i] := by rw [List.getD_eq_getElem?_getD, List.getElem?_eq_getElem hi]; rfl
  have g2 : (tr k).getD j rowZ = (tr k)[j] := by rw [List.getD_eq_getElem?_getD, List.getElem?_eq_getElem hj]; rfl
  simp at e
  rw [g1, e, ← g2, e2] at e1
  have := congrArg Prod.snd e1
  simp at this
  omega
theorem Pick.start (ks : List Int) (tr : Int → List Rw) (a b c : Int) : Pick ks tr a b c ks [] := ⟨fun x => by simp; intro k h1 h2; exact absurd h1 h2, by simp⟩
theorem Pick.next {a b c : Int} {todo : List Int} {ys : List Rw} {k : Int} (h : Laid ks tr hk pl (· ∈ rows)) (p : Pick ks tr a b c todo ys) (hkt : k ∈ todo) (hkk : k ∈ ks) (hm : matchB k a b c = true) : Pick ks tr a b c (todo.filter (fun y => !decide (y = k))) (ys ++ tr k) := by
  refine ⟨fun x => ?_, ?_⟩
  · rw [List.mem_append, p.mem x]
    constructor
    · rintro (⟨j, hj, hn, hmj, hx⟩ | hx)
      · exact ⟨j, hj, fun e => hn (List.mem_filter.1 e).1, hmj, hx⟩
      · exact ⟨k, hkk, fun e => by have := (List.mem_filter.1 e).2; simp at this, hm, hx⟩
    · rintro ⟨j, hj, hn, hmj, hx⟩
      by_cases e : j = k
      · subst e; exact .inr hx
      · refine .inl ⟨j, hj, fun e2 => hn (List.mem_filter.2 ⟨e2, by simpa using e⟩), hmj, hx⟩
  · rw [List.map_append, List.nodup_append]
    refine ⟨p.nd, h.trNodup hkk, fun u hu v hv e => ?_⟩
    obtain ⟨x, hx, rfl⟩ := List.mem_map.1 hu
    obtain ⟨y, hy, rfl⟩ := List.mem_map.1 hv
    obtain ⟨j, hj, hn, _, hxj⟩ := (p.mem x).1 hx
    have := h.uniq ((h.mem x).2 ⟨j, hj, hxj⟩) ((h.mem y).2 ⟨k, hkk, hy⟩) e
    have e1 := (h.row j hj x hxj).1
    have e2 := (h.row k hkk y hy).1
    rw [this] at e1
    exact hn (by rw [← e1, e2]; exact hkt)
theorem Pick.skip {a b c : Int} {todo : List Int} {ys : List Rw} {k : Int} (p : Pick ks tr a b c todo ys) (hm : matchB k a b c = false) : Pick ks tr a b c (todo.filter (fun y => !decide (y = k))) ys := by
  refine ⟨fun x => ?_, p.nd⟩
  rw [p.mem x]
  constructor
  · rintro ⟨j, hj, hn, hmj, hx⟩
    exact ⟨j, hj, fun e => hn (List.mem_filter.1 e).1, hmj, hx⟩
  · rintro ⟨j, hj, hn, hmj, hx⟩
    refine ⟨j, hj, fun e => hn (List.mem_filter.2 ⟨e, ?_⟩), hmj, hx⟩
    simp
    rintro rfl
    rw [hm] at hmj; cases hmj
theorem Pick.len {a b c : Int} {todo : List Int} {ys : List Rw} (h : Laid ks tr hk pl (· ∈ rows)) (p : Pick ks tr a b c todo ys) : ys.length ≤ rows.length := by
  have := nodup_le (ys := rows.map hd) p.nd (fun u hu => by
    obtain ⟨x, hx, rfl⟩ := List.mem_map.1 hu
    obtain ⟨j, hj, _, _, hxj⟩ := (p.mem x).1 hx
    exact List.mem_map.2 ⟨x, (h.mem x).2 ⟨j, hj, hxj⟩, rfl⟩)
  simpa using this
/-- All picked up and sorted. -/
theorem Pick.done {l : List (Int × Bool)} {a b c : Int} {ys zs : List Rw} (h : Laid ks tr hk pl (· ∈ rows)) (ok : WOk l rows) (p : Pick ks tr a b c [] ys) (hp : zs.Perm ys) (hs : zs.Pairwise (fun x y => ¬ y.s < x.s)) : zs = rows.filter (fun r => matchB r.m a b c) := by
  have hmem : ∀ x, x ∈ zs ↔ x ∈ rows.filter (fun r => matchB r.m a b c) := fun x => by
    rw [hp.mem_iff, p.mem x, List.mem_filter, h.mem x]
    constructor
    · rintro ⟨j, hj, _, hmj, hx⟩
      exact ⟨⟨j, hj, hx⟩, by rw [(h.row j hj x hx).1]; exact hmj⟩
    · rintro ⟨⟨j, hj, hx⟩, hm⟩
      exact ⟨j, hj, by simp, by rw [← (h.row j hj x hx).1]; exact hm, hx⟩
  refine sorted_ext ?_ (ok.up.filter _) hmem
  have hnd : (zs.map hd).Nodup := (hp.map hd).nodup_iff.2 p.nd
  rw [List.nodup_iff_pairwise_ne, List.pairwise_map] at hnd
  refine List.Pairwise.imp_of_mem ?_ (hs.and hnd)
  rintro x y hx hy ⟨h1, h2⟩
  have : x.s ≠ y.s := fun e => h2 (by
    have hx' := (List.mem_filter.1 ((hmem x).1 hx)).1
    have hy' := (List.mem_filter.1 ((hmem y).1 hy)).1
    rw [hd, hd, e, ok.inj hx' hy' e])
  omega
end
theorem matchB_zero (m : Int) : matchB m 0 0 0 = true := by
  have h0 : bits .and .i64 m 0 = 0 := by
    refine i64_ext (and_I64 _ _) ⟨by omega, by omega⟩ (fun k hk => ?_)
    rw [tb_and _ _ _ hk, tb_zero]; simp
  simp [matchB, h0]
theorem rowsQ_all (rows : List Rw) : rowsQ rows 0 0 0 = rows := by
  have : qErr 0 0 0 = 0 := by decide
  rw [rowsQ, if_pos this, List.filter_eq_self]
  exact fun r _ => matchB_zero r.m
end Go.Proofs.YtlclceiebnnpgaaGreat

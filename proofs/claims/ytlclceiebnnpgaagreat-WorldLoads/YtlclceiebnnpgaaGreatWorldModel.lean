/- What a world answers, as plain functions: its slots l and its rows, by increasing slots. -/
import Derived.Test.YtlclceiebnnpgaaGreatGroundA
namespace Go.Proofs.YtlclceiebnnpgaaGreat
open Go.RowKit

def isH (a b : Int) (r : Rw) : Bool := r.s == a && r.g == b
theorem isH_iff {a b : Int} {r : Rw} : isH a b r = true ↔ r.s = a ∧ r.g = b := by simp [isH]
/-- the number of the row of a handle (the length: none) -/
def atN (rows : List Rw) (a b : Int) : Nat := rows.findIdx (isH a b)
def hasH (rows : List Rw) (a b : Int) : Bool := decide (atN rows a b < rows.length)
/-- Put and Drop at a row -/
def putK (r : Rw) (k : Nat) (n : Int) : Rw := ⟨r.s, r.g, if tb r.m k then r.m else r.m + 2 ^ k, upd r.f k n⟩
def dropK (r : Rw) (k : Nat) : Rw := ⟨r.s, r.g, r.m - 2 ^ k, upd r.f k 0⟩
/-- a row in its place -/
def insR (rows : List Rw) (r : Rw) : List Rw := rows.takeWhile (fun x => decide (x.s < r.s)) ++ r :: rows.dropWhile (fun x => decide (x.s < r.s))
def spawnE (l : List (Int × Bool)) (m : Int) (f : Nat → Int) : Int := if bErr m [f 0, f 1, f 2, f 3, f 4, f 5, f 6, f 7] = 0 then takeE l else bErr m [f 0, f 1, f 2, f 3, f 4, f 5, f 6, f 7]
def spawnH (l : List (Int × Bool)) (m : Int) (f : Nat → Int) : Int × Int := if bErr m [f 0, f 1, f 2, f 3, f 4, f 5, f 6, f 7] = 0 then takeH l else (0, 0)
def spawnL (l : List (Int × Bool)) (m : Int) (f : Nat → Int) : List (Int × Bool) := if bErr m [f 0, f 1, f 2, f 3, f 4, f 5, f 6, f 7] = 0 then takeL l else l
def spawnR (l : List (Int × Bool)) (rows : List Rw) (m : Int) (f : Nat → Int) : List Rw := if spawnE l m f = 0 then insR rows ⟨(takeH l).1, (takeH l).2, m, f⟩ else rows
def killE (rows : List Rw) (a b : Int) : Int := if hasH rows a b then 0 else 7
def killR (rows : List Rw) (a b : Int) : List Rw := rows.filter (fun r => !isH a b r)
def putWE (rows : List Rw) (a b k n : Int) : Int := if hasH rows a b then (if inB k 0 7 && inB n (-1000000000) 1000000000 then 0 else 1) else 7
def putWR (rows : List Rw) (a b k n : Int) : List Rw := if putWE rows a b k n = 0 then rows.set (atN rows a b) (putK (rows.getD (atN rows a b) rowZ) k.toNat n) else rows
def dropE (rows : List Rw) (a b k : Int) : Int := if hasH rows a b then (if inB k 0 7 then (if tb (rows.getD (atN rows a b) rowZ).m k.toNat then 0 else 5) else 1) else 7
def dropR (rows : List Rw) (a b k : Int) : List Rw := if dropE rows a b k = 0 then rows.set (atN rows a b) (dropK (rows.getD (atN rows a b) rowZ) k.toNat) else rows
def getE (rows : List Rw) (a b : Int) : Int := if hasH rows a b then 0 else 7
def getR (rows : List Rw) (a b : Int) : Rw := if hasH rows a b then rows.getD (atN rows a b) rowZ else rowZ

/-- Slots and rows, as they can be. -/
structure WOk (l : List (Int × Bool)) (rows : List Rw) : Prop where
  slots : SlotOk l
  up : rows.Pairwise (fun x y => x.s < y.s)
  live : ∀ r ∈ rows, liveB l r.s r.g = true
  all : ∀ a b, liveB l a b = true → ∃ r ∈ rows, r.s = a ∧ r.g = b
  ok : ∀ r ∈ rows, bErr r.m [r.f 0, r.f 1, r.f 2, r.f 3, r.f 4, r.f 5, r.f 6, r.f 7] = 0
theorem WOk.nil : WOk [] [] := ⟨SlotOk.nil, by simp, by simp, fun a b h => by have := liveB_iff.1 h; simp at this; omega, by simp⟩

theorem atN_le (rows : List Rw) (a b : Int) : atN rows a b ≤ rows.length := List.findIdx_le_length
theorem atN_is {rows : List Rw} {a b : Int} (h : atN rows a b < rows.length) : (rows.getD (atN rows a b) rowZ).s = a ∧ (rows.getD (atN rows a b) rowZ).g = b := by
  have := List.findIdx_getElem (w := h)
  rw [List.getD_eq_getElem?_getD, List.getElem?_eq_getElem h]
  exact isH_iff.1 this
theorem hasH_iff {rows : List Rw} {a b : Int} : hasH rows a b = true ↔ ∃ r ∈ rows, r.s = a ∧ r.g = b := by
  unfold hasH
  rw [decide_eq_true_eq]
  constructor
  · intro h
    exact ⟨_, mem_getD (d := rowZ) h, atN_is h⟩
  · rintro ⟨r, hr, h⟩
    exact List.findIdx_lt_length_of_exists ⟨r, hr, isH_iff.2 h⟩
/-- A handle is live just if it has a row. -/
theorem WOk.has {l : List (Int × Bool)} {rows : List Rw} (h : WOk l rows) (a b : Int) : hasH rows a b = liveB l a b := by
  rw [Bool.eq_iff_iff, hasH_iff]
  exact ⟨fun ⟨r, hr, e1, e2⟩ => by rw [← e1, ← e2]; exact h.live r hr, fun hl => h.all a b hl⟩
/-- Slots are apart. -/
theorem WOk.inj {l : List (Int × Bool)} {rows : List Rw} (h : WOk l rows) {x y : Rw} (hx : x ∈ rows) (hy : y ∈ rows) (e : x.s = y.s) : x.g = y.g := by
  have h1 := (liveB_iff.1 (h.live x hx)).2.2
  have h2 := (liveB_iff.1 (h.live y hy)).2.2
  rw [e, h2] at h1
  exact (Prod.mk.inj h1).1.symm
theorem idx_uniq {rows : List Rw} (h : rows.Pairwise (fun x y => x.s < y.s)) {i j : Nat} (hi : i < rows.length) (hj : j < rows.length) (e : (rows.getD i rowZ).s = (rows.getD j rowZ).s) : i = j := by
  rw [List.getD_eq_getElem?_getD, List.getElem?_eq_getElem hi, List.getD_eq_getElem?_getD, List.getElem?_eq_getElem hj] at e
  simp only [Option.getD_some] at e
  rcases Nat.lt_trichotomy i j with h1 | h1 | h1
  · have := List.pairwise_iff_getElem.1 h i j hi hj h1; omega
  · exact h1
  · have := List.pairwise_iff_getElem.1 h j i hj hi h1; omega
theorem up_ge {rows : List Rw} (h : rows.Pairwise (fun x y => x.s < y.s)) (h0 : ∀ r ∈ rows, 0 ≤ r.s) : ∀ i (hi : i < rows.length), (i : Int) ≤ rows[i].s
  | 0, hi => h0 _ (List.getElem_mem hi)
  | i + 1, hi => by
    have h1 := up_ge h h0 i (by omega)
    have h2 := List.pairwise_iff_getElem.1 h i (i + 1) (by omega) hi (by omega)
    omega
theorem WOk.len {l : List (Int × Bool)} {rows : List Rw} (h : WOk l rows) : rows.length ≤ l.length := by
  by_cases e : rows.length = 0
  · omega
  · have h0 : ∀ r ∈ rows, 0 ≤ r.s := fun r hr => (liveB_iff.1 (h.live r hr)).1
    have h1 := up_ge h.up h0 (rows.length - 1) (by omega)
    have h2 := (liveB_iff.1 (h.live _ (List.getElem_mem (show rows.length - 1 < rows.length by omega)))).2.1
    omega
theorem WOk.len60 {l : List (Int × Bool)} {rows : List Rw} (h : WOk l rows) : rows.length ≤ 60 := Nat.le_trans h.len h.slots.len

/-- A row has been changed, its handle kept. -/
theorem WOk.set {l : List (Int × Bool)} {rows : List Rw} (h : WOk l rows) {i : Nat} {r : Rw} (hi : i < rows.length) (hs : r.s = (rows.getD i rowZ).s) (hg : r.g = (rows.getD i rowZ).g) (hb : bErr r.m [r.f 0, r.f 1, r.f 2, r.f 3, r.f 4, r.f 5, r.f 6, r.f 7] = 0) : WOk l (rows.set i r) := by
  have hmem : ∀ x ∈ rows.set i r, ∃ y ∈ rows, x.s = y.s ∧ x.g = y.g := fun x hx => by
    rcases List.mem_or_eq_of_mem_set hx with hx | rfl
    · exact ⟨x, hx, rfl, rfl⟩
    · exact ⟨_, mem_getD (d := rowZ) hi, hs, hg⟩
  have hget : ∀ k (hk : k < rows.length), ((rows.set i r)[k]'(by simpa using hk)).s = rows[k].s ∧ ((rows.set i r)[k]'(by simpa using hk)).g = rows[k].g := fun k hk => by
    by_cases e : i = k
    · subst e
      rw [List.getElem_set_self]
      rw [List.getD_eq_getElem?_getD, List.getElem?_eq_getElem hi] at hs hg
      exact ⟨hs, hg⟩
    · rw [List.getElem_set_ne e]; exact ⟨rfl, rfl⟩
  refine ⟨h.slots, ?_, fun x hx => ?_, fun a b hl => ?_, fun x hx => ?_⟩
  · rw [List.pairwise_iff_getElem]
    intro p q hp hq hpq
    rw [List.length_set] at hp hq
    rw [(hget p hp).1, (hget q hq).1]
    exact List.pairwise_iff_getElem.1 h.up p q hp hq hpq
  · obtain ⟨y, hy, e1, e2⟩ := hmem x hx
    rw [e1, e2]; exact h.live y hy
  · obtain ⟨y, hy, e1, e2⟩ := h.all a b hl
    obtain ⟨k, hk, rfl⟩ := List.getElem_of_mem hy
    exact ⟨_, List.getElem_mem (by simpa using hk), (hget k hk).1.trans e1, (hget k hk).2.trans e2⟩
  · rcases List.mem_or_eq_of_mem_set hx with hx | rfl
    · exact h.ok x hx
    · exact hb

/-- Bits of a set, one put in or taken out. -/
theorem bit_in (m : Int) (k : Nat) (h0 : 0 ≤ m) (h1 : m ≤ 255) (hk : k < 8) (ht : tb m k = false) : (0 ≤ m + 2 ^ k ∧ m + 2 ^ k ≤ 255) ∧ ∀ j, j < 8 → tb (m + 2 ^ k) j = (tb m j || decide (j = k)) := by
  have key : ∀ (x : Fin 256) (y z : Fin 8), tb (x.val : Int) y.val = false → ((0 ≤ (x.val : Int) + 2 ^ y.val ∧ (x.val : Int) + 2 ^ y.val ≤ 255) ∧ tb ((x.val : Int) + 2 ^ y.val) z.val = (tb (x.val : Int) z.val || decide (z.val = y.val))) := by decide +kernel
  obtain ⟨n, rfl⟩ := Int.eq_ofNat_of_zero_le h0
  have hn : n < 256 := by omega
  exact ⟨(key ⟨n, hn⟩ ⟨k, hk⟩ ⟨0, by decide⟩ ht).1, fun j hj => (key ⟨n, hn⟩ ⟨k, hk⟩ ⟨j, hj⟩ ht).2⟩
theorem bit_out (m : Int) (k : Nat) (h0 : 0 ≤ m) (h1 : m ≤ 255) (hk : k < 8) (ht : tb m k = true) : (0 ≤ m - 2 ^ k ∧ m - 2 ^ k ≤ 255) ∧ ∀ j, j < 8 → tb (m - 2 ^ k) j = (tb m j && decide (j ≠ k)) := by
  have key : ∀ (x : Fin 256) (y z : Fin 8), tb (x.val : Int) y.val = true → ((0 ≤ (x.val : Int) - 2 ^ y.val ∧ (x.val : Int) - 2 ^ y.val ≤ 255) ∧ tb ((x.val : Int) - 2 ^ y.val) z.val = (tb (x.val : Int) z.val && decide (z.val ≠ y.val))) := by decide +kernel
  obtain ⟨n, rfl⟩ := Int.eq_ofNat_of_zero_le h0
  have hn : n < 256 := by omega
  exact ⟨(key ⟨n, hn⟩ ⟨k, hk⟩ ⟨0, by decide⟩ ht).1, fun j hj => (key ⟨n, hn⟩ ⟨k, hk⟩ ⟨j, hj⟩ ht).2⟩
theorem putK_ok {r : Rw} {k : Nat} {n : Int} (h : bErr r.m [r.f 0, r.f 1, r.f 2, r.f 3, r.f 4, r.f 5, r.f 6, r.f 7] = 0) (hk : k < 8) (hn : inB n (-1000000000) 1000000000 = true) : bErr (putK r k n).m [(putK r k n).f 0, (putK r k n).f 1, (putK r k n).f 2, (putK r k n).f 3, (putK r k n).f 4, (putK r k n).f 5, (putK r k n).f 6, (putK r k n).f 7] = 0 := by
  obtain ⟨⟨h0, h1⟩, hv⟩ := bErr_zero h
  have hf : ∀ j, j < 8 → inB ((putK r k n).f j) (-1000000000) 1000000000 = true := fun j hj => by
    unfold putK upd
    simp only
    split
    · exact hn
    · exact (hv j hj).2
  cases ht : tb r.m k
  · obtain ⟨⟨b0, b1⟩, hb⟩ := bit_in r.m k h0 h1 hk ht
    have hm : (putK r k n).m = r.m + 2 ^ k := by unfold putK; simp [ht]
    rw [hm]
    refine bErr_ok b0 b1 (fun j hj => ⟨fun e => ?_, hf j hj⟩)
    rw [hb j hj] at e
    simp at e
    unfold putK upd
    simp only
    rw [if_neg e.2]
    exact (hv j hj).1 e.1
  · have hm : (putK r k n).m = r.m := by unfold putK; simp [ht]
    rw [hm]
    refine bErr_ok h0 h1 (fun j hj => ⟨fun e => ?_, hf j hj⟩)
    unfold putK upd
    simp only
    rw [if_neg (fun e2 => by rw [e2, ht] at e; cases e)]
    exact (hv j hj).1 e
theorem dropK_ok {r : Rw} {k : Nat} (h : bErr r.m [r.f 0, r.f 1, r.f 2, r.f 3, r.f 4, r.f 5, r.f 6, r.f 7] = 0) (hk : k < 8) (ht : tb r.m k = true) : bErr (dropK r k).m [(dropK r k).f 0, (dropK r k).f 1, (dropK r k).f 2, (dropK r k).f 3, (dropK r k).f 4, (dropK r k).f 5, (dropK r k).f 6, (dropK r k).f 7] = 0 := by
  obtain ⟨⟨h0, h1⟩, hv⟩ := bErr_zero h
  obtain ⟨⟨b0, b1⟩, hb⟩ := bit_out r.m k h0 h1 hk ht
  refine bErr_ok (m := r.m - 2 ^ k) b0 b1 (fun j hj => ⟨fun e => ?_, ?_⟩)
  · unfold dropK upd
    simp only
    split
    · rfl
    · rename_i hne
      rw [hb j hj] at e
      simp [hne] at e
      exact (hv j hj).1 e
  · unfold dropK upd
    simp only
    split
    · decide
    · exact (hv j hj).2
theorem WOk.put {l : List (Int × Bool)} {rows : List Rw} (h : WOk l rows) (a b k n : Int) : WOk l (putWR rows a b k n) := by
  unfold putWR
  split
  · rename_i he
    unfold putWE at he
    cases hh : hasH rows a b
    · rw [hh] at he; simp at he
    · rw [hh, if_pos rfl] at he
      have hi : atN rows a b < rows.length := of_decide_eq_true hh
      cases h1 : inB k 0 7 <;> cases h2 : inB n (-1000000000) 1000000000 <;> rw [h1, h2] at he <;> simp at he
      have := inB_t h1
      exact h.set hi rfl rfl (putK_ok (h.ok _ (mem_getD hi)) (by omega) h2)
  · exact h
theorem WOk.drop {l : List (Int × Bool)} {rows : List Rw} (h : WOk l rows) (a b k : Int) : WOk l (dropR rows a b k) := by
  unfold dropR
  split
  · rename_i he
    unfold dropE at he
    cases hh : hasH rows a b
    · rw [hh] at he; simp at he
    · rw [hh, if_pos rfl] at he
      have hi : atN rows a b < rows.length := of_decide_eq_true hh
      cases h1 : inB k 0 7
      · rw [h1] at he; simp at he
      · rw [h1, if_pos rfl] at he
        cases h2 : tb (rows.getD (atN rows a b) rowZ).m k.toNat
        · rw [h2] at he; simp at he
        · have := inB_t h1
          exact h.set hi rfl rfl (dropK_ok (h.ok _ (mem_getD hi)) (by omega) h2)
  · exact h

theorem liveB_set {l : List (Int × Bool)} {i : Nat} {p : Int × Bool} (hi : i < l.length) (x y : Int) : liveB (l.set i p) x y = true ↔ (x = (i : Int) ∧ p = (y, true)) ∨ (x ≠ (i : Int) ∧ liveB l x y = true) := by
  rw [liveB_iff, liveB_iff, List.length_set]
  by_cases e : x = (i : Int)
  · subst e
    rw [Int.toNat_natCast, getD_set_eq _ _ _ _ hi]
    constructor
    · rintro ⟨_, _, h⟩; exact .inl ⟨rfl, h⟩
    · rintro (⟨_, h⟩ | ⟨h, _⟩)
      · exact ⟨by omega, by omega, h⟩
      · exact absurd rfl h
  · constructor
    · rintro ⟨h0, h1, h2⟩
      rw [getD_set_ne _ _ _ (by omega)] at h2
      exact .inr ⟨e, h0, h1, h2⟩
    · rintro (⟨h, _⟩ | ⟨_, h0, h1, h2⟩)
      · exact absurd h e
      · exact ⟨h0, h1, by rw [getD_set_ne _ _ _ (by omega)]; exact h2⟩
theorem liveB_free {l : List (Int × Bool)} {a b : Int} (h : liveB l a b = true) (x y : Int) : liveB (freeL l a b) x y = true ↔ x ≠ a ∧ liveB l x y = true := by
  obtain ⟨h0, h1, h2⟩ := liveB_iff.1 h
  obtain ⟨i, rfl⟩ := Int.eq_ofNat_of_zero_le h0
  rw [freeL, h, if_pos rfl, Int.toNat_natCast, liveB_set (by omega)]
  simp
theorem WOk.kill {l : List (Int × Bool)} {rows : List Rw} (h : WOk l rows) (a b : Int) : WOk (freeL l a b) (killR rows a b) := by
  cases hl : liveB l a b
  · have hf : freeL l a b = l := by rw [freeL, hl]; rfl
    have hr : killR rows a b = rows := by
      unfold killR
      rw [List.filter_eq_self]
      intro r hr
      cases hh : isH a b r
      · rfl
      · obtain ⟨e1, e2⟩ := isH_iff.1 hh
        have := h.live r hr
        rw [e1, e2, hl] at this
        cases this
    rw [hf, hr]; exact h
  · have hmem : ∀ r, r ∈ killR rows a b ↔ r ∈ rows ∧ isH a b r = false := fun r => by unfold killR; rw [List.mem_filter]; simp
    refine ⟨h.slots.free a b, h.up.filter _, fun r hr => ?_, fun x y hxy => ?_, fun r hr => h.ok r ((hmem r).1 hr).1⟩
    · obtain ⟨h1, h2⟩ := (hmem r).1 hr
      rw [liveB_free hl]
      refine ⟨fun e => ?_, h.live r h1⟩
      obtain ⟨r', hr', e1, e2⟩ := h.all a b hl
      have := h.inj h1 hr' (e.trans e1.symm)
      rw [isH_iff.2 ⟨e, this.trans e2⟩] at h2
      cases h2
    · rw [liveB_free hl] at hxy
      obtain ⟨r, hr, e1, e2⟩ := h.all x y hxy.2
      exact ⟨r, (hmem r).2 ⟨hr, by cases hh : isH a b r; · rfl
                                   · exact absurd (e1.symm.trans (isH_iff.1 hh).1) hxy.1⟩, e1, e2⟩
theorem liveB_take {l : List (Int × Bool)} (he : takeE l = 0) (x y : Int) : liveB (takeL l) x y = true ↔ (x, y) = takeH l ∨ liveB l x y = true := by
  unfold takeE at he
  by_cases h1 : firstFree l < l.length
  · rw [takeL, if_pos h1, takeH, if_pos h1, liveB_set h1]
    have hf := firstFree_lt h1
    have hnl : (l.getD (firstFree l) slotZ).2 = false := by unfold freeB at hf; cases hh : (l.getD (firstFree l) slotZ).2 <;> rw [hh] at hf <;> simp at hf ⊢
    simp only [Prod.mk.injEq, and_true]
    constructor
    · rintro (⟨e1, e2⟩ | ⟨_, e⟩)
      · exact .inl ⟨e1, e2.symm⟩
      · exact .inr e
    · rintro (⟨e1, e2⟩ | e)
      · exact .inl ⟨e1, e2.symm⟩
      · refine .inr ⟨fun ex => ?_, e⟩
        have h3 := (liveB_iff.1 e).2.2
        rw [ex, Int.toNat_natCast] at h3
        rw [h3] at hnl
        cases hnl
  · rw [if_neg h1] at he
    by_cases h2 : l.length < 60
    · rw [takeL, if_neg h1, if_pos h2, takeH, if_neg h1, if_pos h2, liveB_iff, liveB_iff, List.length_append]
      simp only [Prod.mk.injEq, List.length_cons, List.length_nil]
      constructor
      · rintro ⟨h0, h3, h4⟩
        by_cases e : x = (l.length : Int)
        · subst e
          rw [Int.toNat_natCast, getD_append_last] at h4
          simp at h4
          exact .inl ⟨rfl, h4.symm⟩
        · rw [getD_append_l _ _ _ _ (by omega)] at h4
          exact .inr ⟨h0, by omega, h4⟩
      · rintro (⟨rfl, rfl⟩ | ⟨h0, h3, h4⟩)
        · exact ⟨by omega, by omega, by rw [Int.toNat_natCast, getD_append_last]⟩
        · exact ⟨h0, by omega, by rw [getD_append_l _ _ _ _ (by omega)]; exact h4⟩
    · rw [if_neg h2] at he; simp at he
/-- The slot that Take takes is not live before. -/
theorem take_dead {l : List (Int × Bool)} (he : takeE l = 0) (y : Int) : liveB l (takeH l).1 y = false := by
  cases hh : liveB l (takeH l).1 y
  · rfl
  · exfalso
    obtain ⟨h0, h1, h2⟩ := liveB_iff.1 hh
    unfold takeE at he
    by_cases h3 : firstFree l < l.length
    · have hf := firstFree_lt h3
      rw [takeH, if_pos h3] at h2
      simp only [Int.toNat_natCast] at h2
      rw [h2] at hf
      simp [freeB] at hf
    · rw [if_neg h3] at he
      by_cases h4 : l.length < 60
      · rw [takeH, if_neg h3, if_pos h4] at h1
        simp at h1
      · rw [if_neg h4] at he; simp at he
theorem mem_insR {rows : List Rw} {r x : Rw} : x ∈ insR rows r ↔ x = r ∨ x ∈ rows := by
  unfold insR
  rw [List.mem_append, List.mem_cons]
  have : x ∈ rows ↔ x ∈ rows.takeWhile (fun x => decide (x.s < r.s)) ∨ x ∈ rows.dropWhile (fun x => decide (x.s < r.s)) := by
    rw [← List.mem_append, List.takeWhile_append_dropWhile]
  rw [this]
  constructor
  · rintro (h | h | h)
    · exact .inr (.inl h)
    · exact .inl h
    · exact .inr (.inr h)
  · rintro (h | h | h)
    · exact .inr (.inl h)
    · exact .inl h
    · exact .inr (.inr h)
theorem insR_up : ∀ {rows : List Rw} {r : Rw}, rows.Pairwise (fun x y => x.s < y.s) → (∀ x ∈ rows, x.s ≠ r.s) → (insR rows r).Pairwise (fun x y => x.s < y.s)
  | [], r, _, _ => by simp [insR]
  | x :: rows, r, h, hne => by
    obtain ⟨h1, h2⟩ := List.pairwise_cons.1 h
    by_cases e : x.s < r.s
    · have ei : insR (x :: rows) r = x :: insR rows r := by simp [insR, e]
      rw [ei, List.pairwise_cons]
      refine ⟨fun y hy => ?_, insR_up h2 (fun y hy => hne y (by simp [hy]))⟩
      rcases mem_insR.1 hy with rfl | hy
      · exact e
      · exact h1 y hy
    · have ei : insR (x :: rows) r = r :: x :: rows := by simp [insR, e]
      rw [ei, List.pairwise_cons]
      have hx := hne x (by simp)
      refine ⟨fun y hy => ?_, h⟩
      rcases List.mem_cons.1 hy with rfl | hy
      · omega
      · have := h1 y hy; omega
theorem WOk.spawn {l : List (Int × Bool)} {rows : List Rw} (h : WOk l rows) (m : Int) (f : Nat → Int) : WOk (spawnL l m f) (spawnR l rows m f) := by
  unfold spawnL spawnR spawnE
  by_cases hb : bErr m [f 0, f 1, f 2, f 3, f 4, f 5, f 6, f 7] = 0
  · rw [if_pos hb, if_pos hb]
    by_cases he : takeE l = 0
    · rw [if_pos he]
      have hne : ∀ x ∈ rows, x.s ≠ (takeH l).1 := fun x hx e => by
        have := h.live x hx
        rw [e, take_dead he] at this
        cases this
      refine ⟨h.slots.take, insR_up h.up hne, fun r hr => ?_, fun a b hl => ?_, fun r hr => ?_⟩
      · rw [liveB_take he]
        rcases mem_insR.1 hr with rfl | hr
        · exact .inl rfl
        · exact .inr (h.live r hr)
      · rw [liveB_take he] at hl
        rcases hl with e | hl
        · exact ⟨_, mem_insR.2 (.inl rfl), by rw [← e], by rw [← e]⟩
        · obtain ⟨r, hr, e1, e2⟩ := h.all a b hl
          exact ⟨r, mem_insR.2 (.inr hr), e1, e2⟩
      · rcases mem_insR.1 hr with rfl | hr
        · exact hb
        · exact h.ok r hr
    · rw [if_neg he]
      have : takeL l = l := by
        unfold takeE at he
        unfold takeL
        split
        · rename_i h1; rw [if_pos h1] at he; exact absurd rfl he
        · rename_i h1
          rw [if_neg h1] at he
          split
          · rename_i h2; rw [if_pos h2] at he; exact absurd rfl he
          · rfl
      rw [this]; exact h
  · rw [if_neg hb, if_neg hb, if_neg hb]; exact h
end Go.Proofs.YtlclceiebnnpgaaGreat

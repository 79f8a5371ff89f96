/- Contracts and plain facts, several texts in one. -/
import Derived.Deep.RegionHeld3
import Derived.ArgAppend
import Derived.Laws.AppendOwn
import Derived.Test.YtnmlapoiilckhaaDoorGroundA
/- What a world answers, as plain functions: its slots l and its rows, by increasing slots. -/
namespace Go.Proofs.YtnmlapoiilckhaaDoor
open Go.RowKit

def isH (a b : Int) (r : Rw) : Bool := r.s == a && r.g == b
theorem isH_iff {a b : Int} {r : Rw} : isH a b r = true ↔ r.s = a ∧ r.g = b := by simp [isH]
/-- the number of the row of a handle (the length: none) -/
def atN (rows : List Rw) (a b : Int) : Nat := rows.findIdx (isH a b)
def hasH (rows : List Rw) (a b : Int) : Bool := decide (atN rows a b < rows.length)
/-- Put and Drop at a row -/
def putK (r : Rw) (k : Nat) (n : Int) : Rw := ⟨r.s, r.g, if tb r.m k then r.m else r.m + 2 ^ k, upd r.f k n⟩
def dropK (r : Rw) (k : Nat) : Rw := ⟨r.s, r.g, r.m - 2 ^ k, upd r.f k 0⟩
/-- a row in its place -/
def insR (rows : List Rw) (r : Rw) : List Rw := rows.takeWhile (fun x => decide (x.s < r.s)) ++ r :: rows.dropWhile (fun x => decide (x.s < r.s))
def spawnE (l : List (Int × Bool)) (m : Int) (f : Nat → Int) : Int := if bErr m [f 0, f 1, f 2, f 3, f 4, f 5, f 6, f 7] = 0 then takeE l else bErr m [f 0, f 1, f 2, f 3, f 4, f 5, f 6, f 7]
def spawnH (l : List (Int × Bool)) (m : Int) (f : Nat → Int) : Int × Int := if bErr m [f 0, f 1, f 2, f 3, f 4, f 5, f 6, f 7] = 0 then takeH l else (0, 0)
def spawnL (l : List (Int × Bool)) (m : Int) (f : Nat → Int) : List (Int × Bool) := if bErr m [f 0, f 1, f 2, f 3, f 4, f 5, f 6, f 7] = 0 then takeL l else l
def spawnR (l : List (Int × Bool)) (rows : List Rw) (m : Int) (f : Nat → Int) : List Rw := if spawnE l m f = 0 then insR rows ⟨(takeH l).1, (takeH l).2, m, f⟩ else rows
def killE (rows : List Rw) (a b : Int) : Int := if hasH rows a b then 0 else 7
def killR (rows : List Rw) (a b : Int) : List Rw := rows.filter (fun r => !isH a b r)
def putWE (rows : List Rw) (a b k n : Int) : Int := if hasH rows a b then (if inB k 0 7 && inB n (-1000000000) 1000000000 then 0 else 1) else 7
def putWR (rows : List Rw) (a b k n : Int) : List Rw := if putWE rows a b k n = 0 then rows.set (atN rows a b) (putK (rows.getD (atN rows a b) rowZ) k.toNat n) else rows
def dropE (rows : List Rw) (a b k : Int) : Int := if hasH rows a b then (if inB k 0 7 then (if tb (rows.getD (atN rows a b) rowZ).m k.toNat then 0 else 5) else 1) else 7
def dropR (rows : List Rw) (a b k : Int) : List Rw := if dropE rows a b k = 0 then rows.set (atN rows a b) (dropK (rows.getD (atN rows a b) rowZ) k.toNat) else rows
def getE (rows : List Rw) (a b : Int) : Int := if hasH rows a b then 0 else 7
def getR (rows : List Rw) (a b : Int) : Rw := if hasH rows a b then rows.getD (atN rows a b) rowZ else rowZ

/-- Slots and rows, as they can be. -/
structure WOk (l : List (Int × Bool)) (rows : List Rw) : Prop where
  slots : SlotOk l
  up : rows.Pairwise (fun x y => x.s < y.s)
  live : ∀ r ∈ rows, liveB l r.s r.g = true
  all : ∀ a b, liveB l a b = true → ∃ r ∈ rows, r.s = a ∧ r.g = b
  ok : ∀ r ∈ rows, bErr r.m [r.f 0, r.f 1, r.f 2, r.f 3, r.f 4, r.f 5, r.f 6, r.f 7] = 0
theorem WOk.nil : WOk [] [] := ⟨SlotOk.nil, by simp, by simp, fun a b h => by have := liveB_iff.1 h; simp at this; omega, by simp⟩

theorem atN_le (rows : List Rw) (a b : Int) : atN rows a b ≤ rows.length := List.findIdx_le_length
theorem atN_is {rows : List Rw} {a b : Int} (h : atN rows a b < rows.length) : (rows.getD (atN rows a b) rowZ).s = a ∧ (rows.getD (atN rows a b) rowZ).g = b := by
  have := List.findIdx_getElem (w := h)
  rw [List.getD_eq_getElem?_getD, List.getElem?_eq_getElem h]
  exact isH_iff.1 this
theorem hasH_iff {rows : List Rw} {a b : Int} : hasH rows a b = true ↔ ∃ r ∈ rows, r.s = a ∧ r.g = b := by
  unfold hasH
  rw [decide_eq_true_eq]
  constructor
  · intro h
    exact ⟨_, mem_getD (d := rowZ) h, atN_is h⟩
  · rintro ⟨r, hr, h⟩
    exact List.findIdx_lt_length_of_exists ⟨r, hr, isH_iff.2 h⟩
/-- A handle is live just if it has a row. -/
theorem WOk.has {l : List (Int × Bool)} {rows : List Rw} (h : WOk l rows) (a b : Int) : hasH rows a b = liveB l a b := by
  rw [Bool.eq_iff_iff, hasH_iff]
  exact ⟨fun ⟨r, hr, e1, e2⟩ => by rw [← e1, ← e2]; exact h.live r hr, fun hl => h.all a b hl⟩
/-- Slots are apart. -/
theorem WOk.inj {l : List (Int × Bool)} {rows : List Rw} (h : WOk l rows) {x y : Rw} (hx : x ∈ rows) (hy : y ∈ rows) (e : x.s = y.s) : x.g = y.g := by
  have h1 := (liveB_iff.1 (h.live x hx)).2.2
  have h2 := (liveB_iff.1 (h.live y hy)).2.2
  rw [e, h2] at h1
  exact (Prod.mk.inj h1).1.symm
theorem idx_uniq {rows : List Rw} (h : rows.Pairwise (fun x y => x.s < y.s)) {i j : Nat} (hi : i < rows.length) (hj : j < rows.length) (e : (rows.getD i rowZ).s = (rows.getD j rowZ).s) : i = j := by
  rw [List.getD_eq_getElem?_getD, List.getElem?_eq_getElem hi, List.getD_eq_getElem?_getD, List.getElem?_eq_getElem hj] at e
  simp only [Option.getD_some] at e
  rcases Nat.lt_trichotomy i j with h1 | h1 | h1
  · have := List.pairwise_iff_getElem.1 h i j hi hj h1; omega
  · exact h1
  · have := List.pairwise_iff_getElem.1 h j i hj hi h1; omega
theorem up_ge {rows : List Rw} (h : rows.Pairwise (fun x y => x.s < y.s)) (h0 : ∀ r ∈ rows, 0 ≤ r.s) : ∀ i (hi : i < rows.length), (i : Int) ≤ rows[i].s
  | 0, hi => h0 _ (List.getElem_mem hi)
  | i + 1, hi => by
    have h1 := up_ge h h0 i (by omega)
    have h2 := List.pairwise_iff_getElem.1 h i (i + 1) (by omega) hi (by omega)
    omega
theorem WOk.len {l : List (Int × Bool)} {rows : List Rw} (h : WOk l rows) : rows.length ≤ l.length := by
  by_cases e : rows.length = 0
  · omega
  · have h0 : ∀ r ∈ rows, 0 ≤ r.s := fun r hr => (liveB_iff.1 (h.live r hr)).1
    have h1 := up_ge h.up h0 (rows.length - 1) (by omega)
    have h2 := (liveB_iff.1 (h.live _ (List.getElem_mem (show rows.length - 1 < rows.length by omega)))).2.1
    omega
theorem WOk.len60 {l : List (Int × Bool)} {rows : List Rw} (h : WOk l rows) : rows.length ≤ 60 := Nat.le_trans h.len h.slots.len

/-- A row has been changed, its handle kept. -/
theorem WOk.set {l : List (Int × Bool)} {rows : List Rw} (h : WOk l rows) {i : Nat} {r : Rw} (hi : i < rows.length) (hs : r.s = (rows.getD i rowZ).s) (hg : r.g = (rows.getD i rowZ).g) (hb : bErr r.m [r.f 0, r.f 1, r.f 2, r.f 3, r.f 4, r.f 5, r.f 6, r.f 7] = 0) : WOk l (rows.set i r) := by
  have hmem : ∀ x ∈ rows.set i r, ∃ y ∈ rows, x.s = y.s ∧ x.g = y.g := fun x hx => by
    rcases List.mem_or_eq_of_mem_set hx with hx | rfl
    · exact ⟨x, hx, rfl, rfl⟩
    · exact ⟨_, mem_getD (d := rowZ) hi, hs, hg⟩
  have hget : ∀ k (hk : k < rows.length), ((rows.set i r)[k]'(by simpa using hk)).s = rows[k].s ∧ ((rows.set i r)[k]'(by simpa using hk)).g = rows[k].g := fun k hk => by
    by_cases e : i = k
    · subst e
      rw [List.getElem_set_self]
      rw [List.getD_eq_getElem?_getD, List.getElem?_eq_getElem hi] at hs hg
      exact ⟨hs, hg⟩
    · rw [List.getElem_set_ne e]; exact ⟨rfl, rfl⟩
  refine ⟨h.slots, ?_, fun x hx => ?_, fun a b hl => ?_, fun x hx => ?_⟩
  · rw [List.pairwise_iff_getElem]
    intro p q hp hq hpq
    rw [List.length_set] at hp hq
    rw [(hget p hp).1, (hget q hq).1]
    exact List.pairwise_iff_getElem.1 h.up p q hp hq hpq
  · obtain ⟨y, hy, e1, e2⟩ := hmem x hx
    rw [e1, e2]; exact h.live y hy
  · obtain ⟨y, hy, e1, e2⟩ := h.all a b hl
    obtain ⟨k, hk, rfl⟩ := List.getElem_of_mem hy
    exact ⟨_, List.getElem_mem (by simpa using hk), (hget k hk).1.trans e1, (hget k hk).2.trans e2⟩
  · rcases List.mem_or_eq_of_mem_set hx with hx | rfl
    · exact h.ok x hx
    · exact hb

/-- Bits of a set, one put in or taken out. -/
theorem bit_in (m : Int) (k : Nat) (h0 : 0 ≤ m) (h1 : m ≤ 255) (hk : k < 8) (ht : tb m k = false) : (0 ≤ m + 2 ^ k ∧ m + 2 ^ k ≤ 255) ∧ ∀ j, j < 8 → tb (m + 2 ^ k) j = (tb m j || decide (j = k)) := by
  have key : ∀ (x : Fin 256) (y z : Fin 8), tb (x.val : Int) y.val = false → ((0 ≤ (x.val : Int) + 2 ^ y.val ∧ (x.val : Int) + 2 ^ y.val ≤ 255) ∧ tb ((x.val : Int) + 2 ^ y.val) z.val = (tb (x.val : Int) z.val || decide (z.val = y.val))) := by decide +kernel
  obtain ⟨n, rfl⟩ := Int.eq_ofNat_of_zero_le h0
  have hn : n < 256 := by omega
  exact ⟨(key ⟨n, hn⟩ ⟨k, hk⟩ ⟨0, by decide⟩ ht).1, fun j hj => (key ⟨n, hn⟩ ⟨k, hk⟩ ⟨j, hj⟩ ht).2⟩
theorem bit_out (m : Int) (k : Nat) (h0 : 0 ≤ m) (h1 : m ≤ 255) (hk : k < 8) (ht : tb m k = true) : (0 ≤ m - 2 ^ k ∧ m - 2 ^ k ≤ 255) ∧ ∀ j, j < 8 → tb (m - 2 ^ k) j = (tb m j && decide (j ≠ k)) := by
  have key : ∀ (x : Fin 256) (y z : Fin 8), tb (x.val : Int) y.val = true → ((0 ≤ (x.val : Int) - 2 ^ y.val ∧ (x.val : Int) - 2 ^ y.val ≤ 255) ∧ tb ((x.val : Int) - 2 ^ y.val) z.val = (tb (x.val : Int) z.val && decide (z.val ≠ y.val))) := by decide +kernel
  obtain ⟨n, rfl⟩ := Int.eq_ofNat_of_zero_le h0
  have hn : n < 256 := by omega
  exact ⟨(key ⟨n, hn⟩ ⟨k, hk⟩ ⟨0, by decide⟩ ht).1, fun j hj => (key ⟨n, hn⟩ ⟨k, hk⟩ ⟨j, hj⟩ ht).2⟩
theorem putK_ok {r : Rw} {k : Nat} {n : Int} (h : bErr r.m [r.f 0, r.f 1, r.f 2, r.f 3, r.f 4, r.f 5, r.f 6, r.f 7] = 0) (hk : k < 8) (hn : inB n (-1000000000) 1000000000 = true) : bErr (putK r k n).m [(putK r k n).f 0, (putK r k n).f 1, (putK r k n).f 2, (putK r k n).f 3, (putK r k n).f 4, (putK r k n).f 5, (putK r k n).f 6, (putK r k n).f 7] = 0 := by
  obtain ⟨⟨h0, h1⟩, hv⟩ := bErr_zero h
  have hf : ∀ j, j < 8 → inB ((putK r k n).f j) (-1000000000) 1000000000 = true := fun j hj => by
    unfold putK upd
    simp only
    split
    · exact hn
    · exact (hv j hj).2
  cases ht : tb r.m k
  · obtain ⟨⟨b0, b1⟩, hb⟩ := bit_in r.m k h0 h1 hk ht
    have hm : (putK r k n).m = r.m + 2 ^ k := by unfold putK; simp [ht]
    rw [hm]
    refine bErr_ok b0 b1 (fun j hj => ⟨fun e => ?_, hf j hj⟩)
    rw [hb j hj] at e
    simp at e
    unfold putK upd
    simp only
    rw [if_neg e.2]
    exact (hv j hj).1 e.1
  · have hm : (putK r k n).m = r.m := by unfold putK; simp [ht]
    rw [hm]
    refine bErr_ok h0 h1 (fun j hj => ⟨fun e => ?_, hf j hj⟩)
    unfold putK upd
    simp only
    rw [if_neg (fun e2 => by rw [e2, ht] at e; cases e)]
    exact (hv j hj).1 e
theorem dropK_ok {r : Rw} {k : Nat} (h : bErr r.m [r.f 0, r.f 1, r.f 2, r.f 3, r.f 4, r.f 5, r.f 6, r.f 7] = 0) (hk : k < 8) (ht : tb r.m k = true) : bErr (dropK r k).m [(dropK r k).f 0, (dropK r k).f 1, (dropK r k).f 2, (dropK r k).f 3, (dropK r k).f 4, (dropK r k).f 5, (dropK r k).f 6, (dropK r k).f 7] = 0 := by
  obtain ⟨⟨h0, h1⟩, hv⟩ := bErr_zero h
  obtain ⟨⟨b0, b1⟩, hb⟩ := bit_out r.m k h0 h1 hk ht
  refine bErr_ok (m := r.m - 2 ^ k) b0 b1 (fun j hj => ⟨fun e => ?_, ?_⟩)
  · unfold dropK upd
    simp only
    split
    · rfl
    · rename_i hne
      rw [hb j hj] at e
      simp [hne] at e
      exact (hv j hj).1 e
  · unfold dropK upd
    simp only
    split
    · decide
    · exact (hv j hj).2
theorem WOk.put {l : List (Int × Bool)} {rows : List Rw} (h : WOk l rows) (a b k n : Int) : WOk l (putWR rows a b k n) := by
  unfold putWR
  split
  · rename_i he
    unfold putWE at he
    cases hh : hasH rows a b
    · rw [hh] at he; simp at he
    · rw [hh, if_pos rfl] at he
      have hi : atN rows a b < rows.length := of_decide_eq_true hh
      cases h1 : inB k 0 7 <;> cases h2 : inB n (-1000000000) 1000000000 <;> rw [h1, h2] at he <;> simp at he
      have := inB_t h1
      exact h.set hi rfl rfl (putK_ok (h.ok _ (mem_getD hi)) (by omega) h2)
  · exact h
theorem WOk.drop {l : List (Int × Bool)} {rows : List Rw} (h : WOk l rows) (a b k : Int) : WOk l (dropR rows a b k) := by
  unfold dropR
  split
  · rename_i he
    unfold dropE at he
    cases hh : hasH rows a b
    · rw [hh] at he; simp at he
    · rw [hh, if_pos rfl] at he
      have hi : atN rows a b < rows.length := of_decide_eq_true hh
      cases h1 : inB k 0 7
      · rw [h1] at he; simp at he
      · rw [h1, if_pos rfl] at he
        cases h2 : tb (rows.getD (atN rows a b) rowZ).m k.toNat
        · rw [h2] at he; simp at he
        · have := inB_t h1
          exact h.set hi rfl rfl (dropK_ok (h.ok _ (mem_getD hi)) (by omega) h2)
  · exact h

theorem liveB_set {l : List (Int × Bool)} {i : Nat} {p : Int × Bool} (hi : i < l.length) (x y : Int) : liveB (l.set i p) x y = true ↔ (x = (i : Int) ∧ p = (y, true)) ∨ (x ≠ (i : Int) ∧ liveB l x y = true) := by
  rw [liveB_iff, liveB_iff, List.length_set]
  by_cases e : x = (i : Int)
  · subst e
    rw [Int.toNat_natCast, getD_set_eq _ _ _ _ hi]
    constructor
    · rintro ⟨_, _, h⟩; exact .inl ⟨rfl, h⟩
    · rintro (⟨_, h⟩ | ⟨h, _⟩)
      · exact ⟨by omega, by omega, h⟩
      · exact absurd rfl h
  · constructor
    · rintro ⟨h0, h1, h2⟩
      rw [getD_set_ne _ _ _ (by omega)] at h2
      exact .inr ⟨e, h0, h1, h2⟩
    · rintro (⟨h, _⟩ | ⟨_, h0, h1, h2⟩)
      · exact absurd h e
      · exact ⟨h0, h1, by rw [getD_set_ne _ _ _ (by omega)]; exact h2⟩
theorem liveB_free {l : List (Int × Bool)} {a b : Int} (h : liveB l a b = true) (x y : Int) : liveB (freeL l a b) x y = true ↔ x ≠ a ∧ liveB l x y = true := by
  obtain ⟨h0, h1, h2⟩ := liveB_iff.1 h
  obtain ⟨i, rfl⟩ := Int.eq_ofNat_of_zero_le h0
  rw [freeL, h, if_pos rfl, Int.toNat_natCast, liveB_set (by omega)]
  simp
theorem WOk.kill {l : List (Int × Bool)} {rows : List Rw} (h : WOk l rows) (a b : Int) : WOk (freeL l a b) (killR rows a b) := by
  cases hl : liveB l a b
  · have hf : freeL l a b = l := by rw [freeL, hl]; rfl
    have hr : killR rows a b = rows := by
      unfold killR
      rw [List.filter_eq_self]
      intro r hr
      cases hh : isH a b r
      · rfl
      · obtain ⟨e1, e2⟩ := isH_iff.1 hh
        have := h.live r hr
        rw [e1, e2, hl] at this
        cases this
    rw [hf, hr]; exact h
  · have hmem : ∀ r, r ∈ killR rows a b ↔ r ∈ rows ∧ isH a b r = false := fun r => by unfold killR; rw [List.mem_filter]; simp
    refine ⟨h.slots.free a b, h.up.filter _, fun r hr => ?_, fun x y hxy => ?_, fun r hr => h.ok r ((hmem r).1 hr).1⟩
    · obtain ⟨h1, h2⟩ := (hmem r).1 hr
      rw [liveB_free hl]
      refine ⟨fun e => ?_, h.live r h1⟩
      obtain ⟨r', hr', e1, e2⟩ := h.all a b hl
      have := h.inj h1 hr' (e.trans e1.symm)
      rw [isH_iff.2 ⟨e, this.trans e2⟩] at h2
      cases h2
    · rw [liveB_free hl] at hxy
      obtain ⟨r, hr, e1, e2⟩ := h.all x y hxy.2
      exact ⟨r, (hmem r).2 ⟨hr, by cases hh : isH a b r; · rfl
                                   · exact absurd (e1.symm.trans (isH_iff.1 hh).1) hxy.1⟩, e1, e2⟩
theorem liveB_take {l : List (Int × Bool)} (he : takeE l = 0) (x y : Int) : liveB (takeL l) x y = true ↔ (x, y) = takeH l ∨ liveB l x y = true := by
  unfold takeE at he
  by_cases h1 : firstFree l < l.length
  · rw [takeL, if_pos h1, takeH, if_pos h1, liveB_set h1]
    have hf := firstFree_lt h1
    have hnl : (l.getD (firstFree l) slotZ).2 = false := by unfold freeB at hf; cases hh : (l.getD (firstFree l) slotZ).2 <;> rw [hh] at hf <;> simp at hf ⊢
    simp only [Prod.mk.injEq, and_true]
    constructor
    · rintro (⟨e1, e2⟩ | ⟨_, e⟩)
      · exact .inl ⟨e1, e2.symm⟩
      · exact .inr e
    · rintro (⟨e1, e2⟩ | e)
      · exact .inl ⟨e1, e2.symm⟩
      · refine .inr ⟨fun ex => ?_, e⟩
        have h3 := (liveB_iff.1 e).2.2
        rw [ex, Int.toNat_natCast] at h3
        rw [h3] at hnl
        cases hnl
  · rw [if_neg h1] at he
    by_cases h2 : l.length < 60
    · rw [takeL, if_neg h1, if_pos h2, takeH, if_neg h1, if_pos h2, liveB_iff, liveB_iff, List.length_append]
      simp only [Prod.mk.injEq, List.length_cons, List.length_nil]
      constructor
      · rintro ⟨h0, h3, h4⟩
        by_cases e : x = (l.length : Int)
        · subst e
          rw [Int.toNat_natCast, getD_append_last] at h4
          simp at h4
          exact .inl ⟨rfl, h4.symm⟩
        · rw [getD_append_l _ _ _ _ (by omega)] at h4
          exact .inr ⟨h0, by omega, h4⟩
      · rintro (⟨rfl, rfl⟩ | ⟨h0, h3, h4⟩)
        · exact ⟨by omega, by omega, by rw [Int.toNat_natCast, getD_append_last]⟩
        · exact ⟨h0, by omega, by rw [getD_append_l _ _ _ _ (by omega)]; exact h4⟩
    · rw [if_neg h2] at he; simp at he
/-- The slot that Take takes is not live before. -/
theorem take_dead {l : List (Int × Bool)} (he : takeE l = 0) (y : Int) : liveB l (takeH l).1 y = false := by
  cases hh : liveB l (takeH l).1 y
  · rfl
  · exfalso
    obtain ⟨h0, h1, h2⟩ := liveB_iff.1 hh
    unfold takeE at he
    by_cases h3 : firstFree l < l.length
    · have hf := firstFree_lt h3
      rw [takeH, if_pos h3] at h2
      simp only [Int.toNat_natCast] at h2
      rw [h2] at hf
      simp [freeB] at hf
    · rw [if_neg h3] at he
      by_cases h4 : l.length < 60
      · rw [takeH, if_neg h3, if_pos h4] at h1
        simp at h1
      · rw [if_neg h4] at he; simp at he
theorem mem_insR {rows : List Rw} {r x : Rw} : x ∈ insR rows r ↔ x = r ∨ x ∈ rows := by
  unfold insR
  rw [List.mem_append, List.mem_cons]
  have : x ∈ rows ↔ x ∈ rows.takeWhile (fun x => decide (x.s < r.s)) ∨ x ∈ rows.dropWhile (fun x => decide (x.s < r.s)) := by
    rw [← List.mem_append, List.takeWhile_append_dropWhile]
  rw [this]
  constructor
  · rintro (h | h | h)
    · exact .inr (.inl h)
    · exact .inl h
    · exact .inr (.inr h)
  · rintro (h | h | h)
    · exact .inr (.inl h)
    · exact .inl h
    · exact .inr (.inr h)
theorem insR_up : ∀ {rows : List Rw} {r : Rw}, rows.Pairwise (fun x y => x.s < y.s) → (∀ x ∈ rows, x.s ≠ r.s) → (insR rows r).Pairwise (fun x y => x.s < y.s)
  | [], r, _, _ => by simp [insR]
  | x :: rows, r, h, hne => by
    obtain ⟨h1, h2⟩ := List.pairwise_cons.1 h
    by_cases e : x.s < r.s
    · have ei : insR (x :: rows) r = x :: insR rows r := by simp [insR, e]
      rw [ei, List.pairwise_cons]
      refine ⟨fun y hy => ?_, insR_up h2 (fun y hy => hne y (by simp [hy]))⟩
      rcases mem_insR.1 hy with rfl | hy
      · exact e
      · exact h1 y hy
    · have ei : insR (x :: rows) r = r :: x :: rows := by simp [insR, e]
      rw [ei, List.pairwise_cons]
      have hx := hne x (by simp)
      refine ⟨fun y hy => ?_, h⟩
      rcases List.mem_cons.1 hy with rfl | hy
      · omega
      · have := h1 y hy; omega
theorem WOk.spawn {l : List (Int × Bool)} {rows : List Rw} (h : WOk l rows) (m : Int) (f : Nat → Int) : WOk (spawnL l m f) (spawnR l rows m f) := by
  unfold spawnL spawnR spawnE
  by_cases hb : bErr m [f 0, f 1, f 2, f 3, f 4, f 5, f 6, f 7] = 0
  · rw [if_pos hb, if_pos hb]
    by_cases he : takeE l = 0
    · rw [if_pos he]
      have hne : ∀ x ∈ rows, x.s ≠ (takeH l).1 := fun x hx e => by
        have := h.live x hx
        rw [e, take_dead he] at this
        cases this
      refine ⟨h.slots.take, insR_up h.up hne, fun r hr => ?_, fun a b hl => ?_, fun r hr => ?_⟩
      · rw [liveB_take he]
        rcases mem_insR.1 hr with rfl | hr
        · exact .inl rfl
        · exact .inr (h.live r hr)
      · rw [liveB_take he] at hl
        rcases hl with e | hl
        · exact ⟨_, mem_insR.2 (.inl rfl), by rw [← e], by rw [← e]⟩
        · obtain ⟨r, hr, e1, e2⟩ := h.all a b hl
          exact ⟨r, mem_insR.2 (.inr hr), e1, e2⟩
      · rcases mem_insR.1 hr with rfl | hr
        · exact hb
        · exact h.ok r hr
    · rw [if_neg he]
      have : takeL l = l := by
        unfold takeE at he
        unfold takeL
        split
        · rename_i h1; rw [if_pos h1] at he; exact absurd rfl he
        · rename_i h1
          rw [if_neg h1] at he
          split
          · rename_i h2; rw [if_pos h2] at he; exact absurd rfl he
          · rfl
      rw [this]; exact h
  · rw [if_neg hb, if_neg hb, if_neg hb]; exact h
end Go.Proofs.YtnmlapoiilckhaaDoor

/- What the laws ask of the rows of a world: plain facts. -/
namespace Go.Proofs.YtnmlapoiilckhaaDoor
open Go.RowKit

theorem atN_uniq {l : List (Int × Bool)} {rows : List Rw} (h : WOk l rows) {t : Nat} (ht : t < rows.length) : atN rows (rows.getD t rowZ).s (rows.getD t rowZ).g = t := by
  have hm : hasH rows (rows.getD t rowZ).s (rows.getD t rowZ).g = true := hasH_iff.2 ⟨_, mem_getD ht, rfl, rfl⟩
  have hi : atN rows (rows.getD t rowZ).s (rows.getD t rowZ).g < rows.length := of_decide_eq_true hm
  exact idx_uniq h.up hi ht (atN_is hi).1
structure RowIs (l : List (Int × Bool)) (rows : List Rw) (t : Nat) (r : Rw) : Prop where
  getE : getE rows r.s r.g = 0
  getR : getR rows r.s r.g = r
  at_ : atN rows r.s r.g = t
  has : hasH rows r.s r.g = true
  s0 : 0 ≤ r.s
  sl : r.s < l.length
  s60 : r.s < 60
  g : (l.getD r.s.toNat slotZ) = (r.g, true)
  is : I64r r.s
  ig : I64r r.g
  ok : bErr r.m [r.f 0, r.f 1, r.f 2, r.f 3, r.f 4, r.f 5, r.f 6, r.f 7] = 0
theorem WOk.rowIs {l : List (Int × Bool)} {rows : List Rw} (h : WOk l rows) {t : Nat} {r : Rw} (ht : t < rows.length) (hr : rows.getD t rowZ = r) : RowIs l rows t r := by
  subst hr
  have hmem : rows.getD t rowZ ∈ rows := mem_getD ht
  have ha := atN_uniq h ht
  have hm : hasH rows (rows.getD t rowZ).s (rows.getD t rowZ).g = true := hasH_iff.2 ⟨_, hmem, rfl, rfl⟩
  obtain ⟨h0, h1, h2⟩ := liveB_iff.1 (h.live _ hmem)
  have hl := h.slots.len
  have hg := h.slots.gen (rows.getD t rowZ).s.toNat (by omega)
  rw [h2] at hg
  simp only at hg
  refine ⟨by rw [Go.Proofs.YtnmlapoiilckhaaDoor.getE, hm]; rfl, by rw [Go.Proofs.YtnmlapoiilckhaaDoor.getR, hm, if_pos rfl, ha], ha, hm, h0, h1, by omega, h2, ⟨by omega, by omega⟩, ⟨by omega, by omega⟩, h.ok _ hmem⟩
theorem WOk.upAt {l : List (Int × Bool)} {rows : List Rw} (h : WOk l rows) {t : Nat} (ht : t + 1 < rows.length) : (rows.getD t rowZ).s < (rows.getD (t + 1) rowZ).s := by
  rw [List.getD_eq_getElem?_getD, List.getElem?_eq_getElem (by omega), List.getD_eq_getElem?_getD, List.getElem?_eq_getElem ht]
  exact List.pairwise_iff_getElem.1 h.up t (t + 1) (by omega) ht (by omega)
/-- A handle that is not a row's is at no other row; the row of a handle. -/
theorem atN_ne {rows : List Rw} {t : Nat} {r : Rw} {a b : Int} (ht : t < rows.length) (hr : rows.getD t rowZ = r) (hne : ¬ (r.s = a ∧ r.g = b)) : atN rows a b ≠ t := fun e => hne (by
  have hi : atN rows a b < rows.length := by omega
  have := atN_is hi
  rw [e, hr] at this; exact this)
theorem rowc_set (r : Rw) (j : Nat) (x : Int) (h : j < 8) : (#[.int .i64 r.s, .int .i64 r.g, .int .i64 r.m, .int .i64 (r.f 0), .int .i64 (r.f 1), .int .i64 (r.f 2), .int .i64 (r.f 3), .int .i64 (r.f 4), .int .i64 (r.f 5), .int .i64 (r.f 6), .int .i64 (r.f 7)] : Array Value).setIfInBounds (3 + j) (.int .i64 x) = #[.int .i64 r.s, .int .i64 r.g, .int .i64 r.m, .int .i64 ((upd r.f j x) 0), .int .i64 ((upd r.f j x) 1), .int .i64 ((upd r.f j x) 2), .int .i64 ((upd r.f j x) 3), .int .i64 ((upd r.f j x) 4), .int .i64 ((upd r.f j x) 5), .int .i64 ((upd r.f j x) 6), .int .i64 ((upd r.f j x) 7)] := by
  obtain rfl | rfl | rfl | rfl | rfl | rfl | rfl | rfl : j = 0 ∨ j = 1 ∨ j = 2 ∨ j = 3 ∨ j = 4 ∨ j = 5 ∨ j = 6 ∨ j = 7 := by omega
  all_goals rfl
theorem rowc_get (r : Rw) (j : Nat) (h : j < 8) : (#[.int .i64 r.s, .int .i64 r.g, .int .i64 r.m, .int .i64 (r.f 0), .int .i64 (r.f 1), .int .i64 (r.f 2), .int .i64 (r.f 3), .int .i64 (r.f 4), .int .i64 (r.f 5), .int .i64 (r.f 6), .int .i64 (r.f 7)] : Array Value)[3 + j]? = some (.int .i64 (r.f j)) := by
  obtain rfl | rfl | rfl | rfl | rfl | rfl | rfl | rfl : j = 0 ∨ j = 1 ∨ j = 2 ∨ j = 3 ∨ j = 4 ∨ j = 5 ∨ j = 6 ∨ j = 7 := by omega
  all_goals rfl
/-- What Put leaves at each row. -/
theorem putWR_at {l : List (Int × Bool)} {rows : List Rw} (h : WOk l rows) {a b k n : Int} (he : putWE rows a b k n = 0) {t : Nat} {r : Rw} (ht : t < rows.length) (hr : rows.getD t rowZ = r) :
    (putWR rows a b k n).getD t rowZ = if r.s = a ∧ r.g = b then putK r k.toNat n else r := by
  rw [putWR, if_pos he]
  by_cases e : r.s = a ∧ r.g = b
  · rw [if_pos e]
    have := (h.rowIs ht hr).at_
    rw [e.1, e.2] at this
    rw [this, getD_set_eq _ _ _ _ ht, hr]
  · rw [if_neg e, getD_set_ne _ _ _ (atN_ne ht hr e), hr]
theorem putWE_zero {rows : List Rw} {a b k n : Int} (h : putWE rows a b k n = 0) : hasH rows a b = true ∧ inB k 0 7 = true ∧ inB n (-1000000000) 1000000000 = true := by
  unfold putWE at h
  cases h1 : hasH rows a b <;> cases h2 : inB k 0 7 <;> cases h3 : inB n (-1000000000) 1000000000 <;> rw [h1, h2, h3] at h <;> simp at h ⊢
theorem putWR_len (rows : List Rw) (a b k n : Int) : (putWR rows a b k n).length = rows.length := by unfold putWR; split <;> simp
theorem WOk.eqS {l : List (Int × Bool)} {rows : List Rw} (h : WOk l rows) {x y : Rw} (hx : x ∈ rows) (hy : y ∈ rows) (e : x.s = y.s) : x = y := by
  obtain ⟨i, hi, rfl⟩ := List.getElem_of_mem hx
  obtain ⟨j, hj, rfl⟩ := List.getElem_of_mem hy
  have g1 : rows.getD i rowZ = rows[i] := by rw [List.getD_eq_getElem?_getD, List.getElem?_eq_getElem hi]; rfl
  have g2 : rows.getD j rowZ = rows[j] := by rw [List.getD_eq_getElem?_getD, List.getElem?_eq_getElem hj]; rfl
  have := idx_uniq h.up hi hj (by rw [g1, g2]; exact e)
  subst this; rfl
theorem WOk.anyF {l : List (Int × Bool)} {rows : List Rw} (h : WOk l rows) {r : Rw} (hr : r ∈ rows) (p : Rw → Bool) : (rows.filter p).any (fun y => y.s == r.s) = p r := by
  cases hp : p r
  · rw [List.any_eq_false]
    intro y hy e
    obtain ⟨h1, h2⟩ := List.mem_filter.1 hy
    rw [h.eqS h1 hr (eq_of_beq e), hp] at h2
    cases h2
  · rw [List.any_eq_true]
    exact ⟨r, List.mem_filter.2 ⟨hr, hp⟩, by simp⟩
theorem filter_both (rows : List Rw) (p : Rw → Bool) : (rows.filter p).length + (rows.filter (fun r => !p r)).length = rows.length := by
  induction rows with
  | nil => rfl
  | cons r rows ih => cases hp : p r <;> simp [hp] <;> omega
/-- The row of a handle. -/
theorem WOk.hand {l : List (Int × Bool)} {rows : List Rw} (h : WOk l rows) {a b : Int} (hh : hasH rows a b = true) : ∃ i r, i < rows.length ∧ rows.getD i rowZ = r ∧ atN rows a b = i ∧ r.s = a ∧ r.g = b ∧ RowIs l rows i r := by
  have hi : atN rows a b < rows.length := of_decide_eq_true hh
  obtain ⟨e1, e2⟩ := atN_is hi
  exact ⟨_, _, hi, rfl, rfl, e1, e2, h.rowIs hi rfl⟩
/-- .. changed, its handle kept. -/
theorem WOk.handSet {l : List (Int × Bool)} {rows : List Rw} {i : Nat} {r : Rw} (h : WOk l (rows.set i r)) (hi : i < rows.length) : RowIs l (rows.set i r) i r :=
  h.rowIs (by simpa using hi) (getD_set_eq _ _ _ _ hi)
theorem dropK_bit {r : Rw} {j : Nat} (hb : bErr r.m [r.f 0, r.f 1, r.f 2, r.f 3, r.f 4, r.f 5, r.f 6, r.f 7] = 0) (hj : j < 8) (ht : tb r.m j = true) : tb (dropK r j).m j = false := by
  have h1 := (bErr_zero hb).1
  have := (bit_out r.m j h1.1 h1.2 hj ht).2 j hj
  rw [show (dropK r j).m = r.m - 2 ^ j from rfl, this]; simp
theorem drop_facts {l : List (Int × Bool)} {rows : List Rw} (h : WOk l rows) {a b : Int} (hh : hasH rows a b = true) {r : Rw} (hr : getR rows a b = r) {j : Nat} (hj : j < 8) (ht : tb r.m j = true) :
    dropE rows a b j = 0 ∧ getE (dropR rows a b j) a b = 0 ∧ getR (dropR rows a b j) a b = dropK r j ∧ dropE (dropR rows a b j) a b j = 5 ∧ dropR (dropR rows a b j) a b j = dropR rows a b j ∧
      putWE (dropR rows a b j) a b j (r.f j) = 0 ∧ 0 < (putWR (dropR rows a b j) a b j (r.f j)).length ∧ tb (dropK r j).m j = false ∧ (dropK r j).f j = 0 := by
  obtain ⟨i, q, hi, hq, hat, e1, e2, hri⟩ := h.hand hh
  obtain rfl : q = r := by rw [← hr, getR, hh, if_pos rfl, hat, hq]
  have hk : inB (j : Int) 0 7 = true := by simp [inB]; omega
  have he : dropE rows a b j = 0 := by rw [dropE, hh, hk, hat, hq, Int.toNat_natCast, ht]; rfl
  have hd : dropR rows a b j = rows.set i (dropK q j) := by rw [dropR, if_pos he, hat, hq, Int.toNat_natCast]
  have hw := h.drop a b j
  rw [hd] at hw ⊢
  have hr2 := hw.handSet hi
  have s1 : (dropK q j).s = a := e1
  have s2 : (dropK q j).g = b := e2
  have hb := dropK_bit hri.ok hj ht
  have hg : (rows.set i (dropK q j)).getD i rowZ = dropK q j := getD_set_eq _ _ _ _ hi
  have ha2 := hr2.at_
  have hh2 := hr2.has
  have hE2 := hr2.getE
  have hR2 := hr2.getR
  rw [s1, s2] at ha2 hh2 hE2 hR2
  have he2 : dropE (rows.set i (dropK q j)) a b j = 5 := by rw [dropE, hh2, hk, ha2, hg, Int.toNat_natCast, hb]; rfl
  refine ⟨he, hE2, hR2, he2, by rw [dropR, he2]; rfl, ?_, by rw [putWR_len]; simp; omega, hb, by simp [dropK, upd]⟩
  rw [putWE, hh2, hk, ((bErr_zero hri.ok).2 j hj).2]; rfl
theorem put_drop_facts {l : List (Int × Bool)} {rows : List Rw} (h : WOk l rows) {a b : Int} (hh : hasH rows a b = true) {r : Rw} (hr : getR rows a b = r) {j : Nat} (hj : j < 8) {n : Int} (hn : inB n (-1000000000) 1000000000 = true) (ht : tb r.m j = false) :
    putWE rows a b j n = 0 ∧ dropE (putWR rows a b j n) a b j = 0 ∧ getE (dropR (putWR rows a b j n) a b j) a b = 0 ∧ getR (dropR (putWR rows a b j n) a b j) a b = r := by
  obtain ⟨i, q, hi, hq, hat, e1, e2, hri⟩ := h.hand hh
  obtain rfl : q = r := by rw [← hr, getR, hh, if_pos rfl, hat, hq]
  have hk : inB (j : Int) 0 7 = true := by simp [inB]; omega
  have he : putWE rows a b j n = 0 := by rw [putWE, hh, hk, hn]; rfl
  have hp : putWR rows a b j n = rows.set i (putK q j n) := by rw [putWR, if_pos he, hat, hq, Int.toNat_natCast]
  have hw := h.put a b j n
  rw [hp] at hw ⊢
  have hr2 := hw.handSet hi
  have s1 : (putK q j n).s = a := e1
  have s2 : (putK q j n).g = b := e2
  have ha2 := hr2.at_
  have hh2 := hr2.has
  rw [s1, s2] at ha2 hh2
  have hg : (rows.set i (putK q j n)).getD i rowZ = putK q j n := getD_set_eq _ _ _ _ hi
  have hm := (bErr_zero hri.ok).1
  have hpm : (putK q j n).m = q.m + 2 ^ j := by simp [putK, ht]
  have hbit : tb (putK q j n).m j = true := by
    rw [hpm, (bit_in q.m j hm.1 hm.2 hj ht).2 j hj]; simp
  have he2 : dropE (rows.set i (putK q j n)) a b j = 0 := by rw [dropE, hh2, hk, ha2, hg, Int.toNat_natCast, hbit]; rfl
  have hd : dropR (rows.set i (putK q j n)) a b j = rows.set i (dropK (putK q j n) j) := by rw [dropR, if_pos he2, ha2, hg, Int.toNat_natCast, List.set_set]
  have hback : dropK (putK q j n) j = q := by
    have h0 := ((bErr_zero hri.ok).2 j hj).1 ht
    have hf : upd (upd q.f j n) j 0 = q.f := by
      funext k
      unfold upd
      by_cases e : k = j
      · rw [if_pos e, e, h0]
      · rw [if_neg e, if_neg e]
    have h1 : dropK (putK q j n) j = ⟨q.s, q.g, (putK q j n).m - 2 ^ j, upd (upd q.f j n) j 0⟩ := rfl
    rw [h1, hf, hpm, Int.add_sub_cancel]
  have hw2 := hw.drop a b j
  rw [hd, hback] at hw2 ⊢
  have hr3 := hw2.handSet hi
  have hE := hr3.getE
  have hR := hr3.getR
  rw [e1, e2] at hE hR
  exact ⟨he, he2, hE, hR⟩
theorem gensL_atR {l : List (Int × Bool)} (k : Nat) : (gensL l).getD k 0 = (l.getD k slotZ).1 := by
  simp only [gensL, List.getD_eq_getElem?_getD, List.getElem?_map]
  cases l[k]? <;> rfl
theorem gensL_lenR (l : List (Int × Bool)) : (gensL l).length = l.length := by simp [gensL]
end Go.Proofs.YtnmlapoiilckhaaDoor

/- Operations and rows that came in. -/
namespace Go.Proofs.YtnmlapoiilckhaaDoor
open Go.ChangeShapes Go.WideShapes Go.ChangeAt Go.RowKit Go.Deep

theorem row_dec {H : Type} {enc : TypeId × Value → H} {W : World} {base : Nat} {sp : Nat → Bool} {held : Bool} (fuel : Nat) (cs : List Value) (x) (hl : cs.length = elRow.size) (h : DataW.trod enc Tryd.prog W base sp held fuel 33 cs = some x) : ∃ y, cs = elRow.enc y := by
  obtain ⟨zs, rfl, _⟩ := ints_of_cells cs (flat_cells 5 33 fuel cs x (by kernel_rfl) h)
  have hl' : zs.length = 11 := by simpa [elRow] using hl
  match zs, hl' with
  | [a4, a5, a6, a7, a8, a9, a10, a11, a12, a13, a14], _ => exact ⟨⟨a4, a5, a6, fun j => [a7, a8, a9, a10, a11, a12, a13, a14].getD j 0⟩, rfl⟩
/-- An operation: what to do, a beast, two handles, a component, a value. -/
structure Opm where
  d : Int
  m : Int
  f : Nat → Int
  a : Int
  b : Int
  ta : Int
  tb : Int
  k : Int
  n : Int
def opZ : Opm := ⟨0, 0, fun _ => 0, 0, 0, 0, 0, 0, 0⟩
def elOp : El Opm := { enc := fun x => [.int .i64 x.d, .int .i64 x.m, .int .i64 (x.f 0), .int .i64 (x.f 1), .int .i64 (x.f 2), .int .i64 (x.f 3), .int .i64 (x.f 4), .int .i64 (x.f 5), .int .i64 (x.f 6), .int .i64 (x.f 7), .int .i64 x.a, .int .i64 x.b, .int .i64 x.ta, .int .i64 x.tb, .int .i64 x.k, .int .i64 x.n], size := 16, zero := opZ, len := fun _ => rfl, pos := by decide, one := fun x u hu => by simp at hu; rcases hu with rfl | rfl | rfl | rfl | rfl | rfl | rfl | rfl | rfl | rfl | rfl | rfl | rfl | rfl | rfl | rfl <;> rfl }
theorem opRow {X : World} {B O : Nat} {o : Opm} (h : ∀ j, j < 16 → X.cell? ⟨B, O + j, none⟩ = (elOp.enc o)[j]?) : X.cell? ⟨B, O, none⟩ = some (.int .i64 o.d) ∧ X.cell? ⟨B, O + 1, none⟩ = some (.int .i64 o.m) ∧ X.cell? ⟨B, O + 2, none⟩ = some (.int .i64 (o.f 0)) ∧ X.cell? ⟨B, O + 3, none⟩ = some (.int .i64 (o.f 1)) ∧ X.cell? ⟨B, O + 4, none⟩ = some (.int .i64 (o.f 2)) ∧ X.cell? ⟨B, O + 5, none⟩ = some (.int .i64 (o.f 3)) ∧ X.cell? ⟨B, O + 6, none⟩ = some (.int .i64 (o.f 4)) ∧ X.cell? ⟨B, O + 7, none⟩ = some (.int .i64 (o.f 5)) ∧ X.cell? ⟨B, O + 8, none⟩ = some (.int .i64 (o.f 6)) ∧ X.cell? ⟨B, O + 9, none⟩ = some (.int .i64 (o.f 7)) ∧ X.cell? ⟨B, O + 10, none⟩ = some (.int .i64 o.a) ∧ X.cell? ⟨B, O + 11, none⟩ = some (.int .i64 o.b) ∧ X.cell? ⟨B, O + 12, none⟩ = some (.int .i64 o.ta) ∧ X.cell? ⟨B, O + 13, none⟩ = some (.int .i64 o.tb) ∧ X.cell? ⟨B, O + 14, none⟩ = some (.int .i64 o.k) ∧ X.cell? ⟨B, O + 15, none⟩ = some (.int .i64 o.n) :=
  ⟨h 0 (by decide), h 1 (by decide), h 2 (by decide), h 3 (by decide), h 4 (by decide), h 5 (by decide), h 6 (by decide), h 7 (by decide), h 8 (by decide), h 9 (by decide), h 10 (by decide), h 11 (by decide), h 12 (by decide), h 13 (by decide), h 14 (by decide), h 15 (by decide)⟩
/-- its handles fit 64 bits -/
def OpOk (x : Opm) : Prop := I64 x.a ∧ I64 x.b ∧ I64 x.ta ∧ I64 x.tb
end Go.Proofs.YtnmlapoiilckhaaDoor

/- What operations make of a world: plain functions. -/
namespace Go.Proofs.YtnmlapoiilckhaaDoor
open Go.RowKit

def stepL (l : List (Int × Bool)) (o : Opm) : List (Int × Bool) := if o.d = 1 then spawnL l o.m o.f else if o.d = 2 then freeL l o.a o.b else l
def stepR (l : List (Int × Bool)) (rows : List Rw) (o : Opm) : List Rw := if o.d = 1 then spawnR l rows o.m o.f else if o.d = 2 then killR rows o.a o.b else if o.d = 3 then putWR rows o.a o.b o.k o.n else if o.d = 4 then dropR rows o.a o.b o.k else rows
def stepW (s : List (Int × Bool) × List Rw) (o : Opm) : List (Int × Bool) × List Rw := (stepL s.1 o, stepR s.1 s.2 o)
def madeW (zs : List Opm) : List (Int × Bool) × List Rw := zs.foldl stepW ([], [])
theorem WOk.step {l : List (Int × Bool)} {rows : List Rw} (h : WOk l rows) (o : Opm) : WOk (stepL l o) (stepR l rows o) := by
  unfold stepL stepR
  by_cases h1 : o.d = 1
  · rw [if_pos h1, if_pos h1]; exact h.spawn _ _
  · rw [if_neg h1, if_neg h1]
    by_cases h2 : o.d = 2
    · rw [if_pos h2, if_pos h2]; exact h.kill _ _
    · rw [if_neg h2, if_neg h2]
      by_cases h3 : o.d = 3
      · rw [if_pos h3]; exact h.put _ _ _ _
      · rw [if_neg h3]
        by_cases h4 : o.d = 4
        · rw [if_pos h4]; exact h.drop _ _ _
        · rw [if_neg h4]; exact h
theorem madeW_snoc (zs : List Opm) (o : Opm) : madeW (zs ++ [o]) = stepW (madeW zs) o := by simp [madeW]
theorem WOk.made (zs : List Opm) : WOk (madeW zs).1 (madeW zs).2 := by
  have key : ∀ (zs : List Opm) (s : List (Int × Bool) × List Rw), WOk s.1 s.2 → WOk (zs.foldl stepW s).1 (zs.foldl stepW s).2 := by
    intro zs
    induction zs with
    | nil => intro s h; exact h
    | cons o zs ih => intro s h; exact ih _ (h.step o)
  exact key zs _ WOk.nil
theorem take_snocD {α : Type} (zs : List α) (t : Nat) (d : α) (h : t < zs.length) : zs.take (t + 1) = zs.take t ++ [zs.getD t d] := by
  rw [List.take_add_one, List.getElem?_eq_getElem h, List.getD_eq_getElem?_getD, List.getElem?_eq_getElem h]; rfl
theorem I64r_of {x : Int} (h : I64 x) : I64r x := h
end Go.Proofs.YtnmlapoiilckhaaDoor

/- Bonds of children and parents as a plain list in the order of children: who is under whom, no loops, what each call leaves. -/
namespace Go.Proofs.YtnmlapoiilckhaaDoor

abbrev Hd := Int × Int
abbrev Bd := Hd × Hd
/-- Handles are ordered by slot, then by generation. -/
def hlt (a b : Hd) : Prop := a.1 < b.1 ∨ (a.1 = b.1 ∧ a.2 < b.2)
instance (a b : Hd) : Decidable (hlt a b) := by unfold hlt; exact inferInstance
theorem hlt_irrefl (a : Hd) : ¬ hlt a a := by unfold hlt; omega
theorem hlt_trans {a b c : Hd} (h : hlt a b) (k : hlt b c) : hlt a c := by unfold hlt at *; omega
theorem hlt_tri (a b : Hd) : hlt a b ∨ a = b ∨ hlt b a := by
  unfold hlt
  by_cases h1 : a.1 = b.1
  · by_cases h2 : a.2 = b.2
    · exact .inr (.inl (Prod.ext h1 h2))
    · omega
  · omega
abbrev SortedB (bs : List Bd) : Prop := bs.Pairwise (fun x y => hlt x.1 y.1)

theorem SortedB.filter {bs : List Bd} (h : SortedB bs) (q : Bd → Bool) : SortedB (bs.filter q) := List.Pairwise.filter q h
theorem SortedB.fn {bs : List Bd} (h : SortedB bs) {c p q : Hd} (h1 : (c, p) ∈ bs) (h2 : (c, q) ∈ bs) : p = q := by
  induction bs with
  | nil => simp at h1
  | cons b bs ih =>
    obtain ⟨hb, hs⟩ := List.pairwise_cons.1 h
    rcases List.mem_cons.1 h1 with e1 | m1 <;> rcases List.mem_cons.1 h2 with e2 | m2
    · rw [← e1] at e2; exact (Prod.ext_iff.1 e2).2.symm
    · have := hb _ m2; rw [← e1] at this; exact absurd this (hlt_irrefl _)
    · have := hb _ m1; rw [← e2] at this; exact absurd this (hlt_irrefl _)
    · exact ih hs m1 m2
theorem SortedB.keys {bs : List Bd} (h : SortedB bs) : (bs.map (·.1)).Nodup := by
  unfold List.Nodup
  rw [List.pairwise_map]
  exact List.Pairwise.imp (fun {a b} hab e => by rw [e] at hab; exact hlt_irrefl _ hab) h
theorem SortedB.nodup {bs : List Bd} (h : SortedB bs) : bs.Nodup :=
  List.Pairwise.imp (fun {a b} hab e => by rw [e] at hab; exact hlt_irrefl _ hab) h
/-- Two lists in order with the same members are one. -/
theorem SortedB.ext : ∀ {xs ys : List Bd}, SortedB xs → SortedB ys → (∀ b, b ∈ xs ↔ b ∈ ys) → xs = ys
  | [], [], _, _, _ => rfl
  | [], y :: ys, _, _, h => by have := (h y).2 (by simp); simp at this
  | x :: xs, [], _, _, h => by have := (h x).1 (by simp); simp at this
  | x :: xs, y :: ys, hx, hy, h => by
    obtain ⟨hx1, hx2⟩ := List.pairwise_cons.1 hx
    obtain ⟨hy1, hy2⟩ := List.pairwise_cons.1 hy
    have e : x = y := by
      rcases List.mem_cons.1 ((h x).1 (by simp)) with e | m
      · exact e
      · rcases List.mem_cons.1 ((h y).2 (by simp)) with e' | m'
        · exact e'.symm
        · exact absurd (hlt_trans (hx1 _ m') (hy1 _ m)) (hlt_irrefl _)
    subst e
    rw [SortedB.ext hx2 hy2 (fun b => ?_)]
    refine ⟨fun hb => ?_, fun hb => ?_⟩
    · rcases List.mem_cons.1 ((h b).1 (List.mem_cons_of_mem _ hb)) with e | m
      · subst e; exact absurd (hx1 _ hb) (hlt_irrefl _)
      · exact m
    · rcases List.mem_cons.1 ((h b).2 (List.mem_cons_of_mem _ hb)) with e | m
      · subst e; exact absurd (hy1 _ hb) (hlt_irrefl _)
      · exact m
theorem SortedB.ofPerm {xs : List Bd} (hn : (xs.map (·.1)).Nodup) (hs : xs.Pairwise (fun x y => ¬ hlt y.1 x.1)) : SortedB xs := by
  unfold List.Nodup at hn
  rw [List.pairwise_map] at hn
  exact (hn.and hs).imp (fun {a b} hab => by
    rcases hlt_tri a.1 b.1 with h | h | h
    · exact h
    · exact absurd h hab.1
    · exact absurd h hab.2)

/-- A bond put in its place. -/
def insB : List Bd → Bd → List Bd
  | [], x => [x]
  | y :: bs, x => if hlt y.1 x.1 then y :: insB bs x else x :: y :: bs
theorem mem_insB {b x : Bd} : ∀ {bs : List Bd}, b ∈ insB bs x ↔ b = x ∨ b ∈ bs
  | [] => by simp [insB]
  | y :: bs => by
    unfold insB
    split
    · simp only [List.mem_cons, mem_insB (bs := bs)]
      constructor
      · rintro (h | h | h) <;> simp [h]
      · rintro (h | h | h) <;> simp [h]
    · simp
theorem insB_sorted {x : Bd} : ∀ {bs : List Bd}, SortedB bs → (∀ b ∈ bs, b.1 ≠ x.1) → SortedB (insB bs x)
  | [], _, _ => by simp [insB, SortedB]
  | y :: bs, h, hne => by
    obtain ⟨h1, h2⟩ := List.pairwise_cons.1 h
    unfold insB
    split
    · rename_i hy
      refine List.pairwise_cons.2 ⟨fun b hb => ?_, insB_sorted h2 (fun b hb => hne b (List.mem_cons_of_mem _ hb))⟩
      rcases mem_insB.1 hb with rfl | hb
      · exact hy
      · exact h1 b hb
    · rename_i hy
      have hxy : hlt x.1 y.1 := by
        rcases hlt_tri y.1 x.1 with h' | h' | h'
        · exact absurd h' hy
        · exact absurd h' (hne y (by simp))
        · exact h'
      refine List.pairwise_cons.2 ⟨fun b hb => ?_, h⟩
      rcases List.mem_cons.1 hb with rfl | hb
      · exact hxy
      · exact hlt_trans hxy (h1 b hb)
theorem insB_len {x : Bd} : ∀ {bs : List Bd}, (insB bs x).length = bs.length + 1
  | [] => rfl
  | y :: bs => by unfold insB; split <;> simp [insB_len]
theorem insB_at : ∀ {bs : List Bd} {x : Bd} {t : Nat}, t ≤ bs.length → (∀ j, j < t → hlt (bs.getD j ((0, 0), (0, 0))).1 x.1) → (t < bs.length → ¬ hlt (bs.getD t ((0, 0), (0, 0))).1 x.1) → insB bs x = bs.take t ++ x :: bs.drop t
  | [], x, t, ht, _, _ => by simp at ht; simp [insB]
  | y :: bs, x, 0, _, _, h2 => by
    have := h2 (by simp)
    simp at this
    simp [insB, this]
  | y :: bs, x, t + 1, ht, h1, h2 => by
    have hy := h1 0 (by omega)
    simp at hy
    have ih := insB_at (bs := bs) (x := x) (t := t) (by simpa using ht) (fun j hj => by simpa using h1 (j + 1) (by omega)) (fun h => by simpa using h2 (by simpa using h))
    have ei : insB (y :: bs) x = y :: insB bs x := by simp [insB, hy]
    rw [ei, ih]; simp

/-- x is under h. -/
inductive Und (bs : List Bd) : Hd → Hd → Prop where
  | base {x h : Hd} : (x, h) ∈ bs → Und bs x h
  | step {x y h : Hd} : (x, y) ∈ bs → Und bs y h → Und bs x h
theorem Und.mono {bs0 bs : List Bd} (hs : ∀ b ∈ bs0, b ∈ bs) {x h : Hd} (u : Und bs0 x h) : Und bs x h := by
  induction u with
  | base h => exact .base (hs _ h)
  | step h _ ih => exact .step (hs _ h) ih
theorem Und.trans {bs : List Bd} {x y z : Hd} (u : Und bs x y) (v : Und bs y z) : Und bs x z := by
  induction u with
  | base h => exact .step h v
  | step h _ ih => exact .step h (ih v)
/-- From above: a child of h, or under a child of h. -/
theorem Und.top {bs : List Bd} {x h : Hd} (u : Und bs x h) : ∃ c, (c, h) ∈ bs ∧ (x = c ∨ Und bs x c) := by
  induction u with
  | base h => exact ⟨_, h, .inl rfl⟩
  | step h _ ih =>
    obtain ⟨c, hc, e | e⟩ := ih
    · exact ⟨c, hc, .inr (.base (e ▸ h))⟩
    · exact ⟨c, hc, .inr (.step h e)⟩
theorem Und.line {bs : List Bd} (hs : SortedB bs) {x a b : Hd} (u : Und bs x a) (v : Und bs x b) : a = b ∨ Und bs a b ∨ Und bs b a := by
  induction u with
  | base h =>
    cases v with
    | base h' => exact .inl (hs.fn h h')
    | step h' v' => rw [← hs.fn h h'] at v'; exact .inr (.inl v')
  | step h u ih =>
    cases v with
    | base h' => rw [hs.fn h' h]; exact .inr (.inr u)
    | step h' v' => rw [hs.fn h' h] at v'; exact ih v'

/-- No loops: a depth that grows from child to parent, up to a bound. -/
structure AcyBy (bs : List Bd) (d : Hd → Nat) (M : Nat) : Prop where
  up : ∀ b ∈ bs, d b.1 < d b.2
  le : ∀ b ∈ bs, d b.2 ≤ M
def Acy (bs : List Bd) : Prop := ∃ d M, AcyBy bs d M
theorem AcyBy.und {bs : List Bd} {d : Hd → Nat} {M : Nat} (h : AcyBy bs d M) {x y : Hd} (u : Und bs x y) : d x < d y := by
  induction u with
  | base hb => exact h.up _ hb
  | step hb _ ih => exact Nat.lt_trans (h.up _ hb) ih
theorem Acy.sub {bs0 bs : List Bd} (h : Acy bs) (hs : ∀ b ∈ bs0, b ∈ bs) : Acy bs0 := by
  obtain ⟨d, M, h⟩ := h
  exact ⟨d, M, fun b hb => h.up b (hs b hb), fun b hb => h.le b (hs b hb)⟩
theorem Acy.irrefl {bs : List Bd} (h : Acy bs) (x : Hd) : ¬ Und bs x x := fun u => by
  obtain ⟨d, M, h⟩ := h
  exact Nat.lt_irrefl _ (h.und u)
theorem Acy.nil : Acy [] := ⟨fun _ => 0, 0, by simp, by simp⟩

/-- Adopt of child c by parent p would close a loop. -/
def Loops (bs : List Bd) (c p : Hd) : Prop := c = p ∨ Und bs p c
open Classical in
theorem Acy.adopt {bs bs0 : List Bd} (h : Acy bs) {c p : Hd} (hl : ¬ Loops bs c p) (hs : ∀ b ∈ bs0, b = (c, p) ∨ (b ∈ bs ∧ b.1 ≠ c)) : Acy bs0 := by
  obtain ⟨d, M, h⟩ := h
  refine ⟨fun x => if x = p ∨ Und bs p x then d x + d c + 1 else d x, M + d c + d p + 1, fun b hb => ?_, fun b hb => ?_⟩
  · rcases hs b hb with rfl | ⟨hm, hne⟩
    · have hc : ¬ (c = p ∨ Und bs p c) := hl
      simp only [if_neg hc, true_or, if_true]
      omega
    · have hu := h.up b hm
      by_cases h2 : b.2 = p ∨ Und bs p b.2
      · simp only [if_pos h2]
        split <;> omega
      · have h1 : ¬ (b.1 = p ∨ Und bs p b.1) := fun h1 => h2 (h1.elim (fun e => .inr (.base (by rw [← e]; exact hm))) (fun u => .inr (u.trans (.base hm))))
        simp only [if_neg h2, if_neg h1]
        exact hu
  · rcases hs b hb with rfl | ⟨hm, hne⟩
    · simp only [true_or, if_true]
      omega
    · have hu := h.le b hm
      split <;> omega

/-- The children of h, in order; all that are under h, n generations deep. -/
def kids (bs : List Bd) (h : Hd) : List Hd := (bs.filter (fun b => decide (b.2 = h))).map (·.1)
def unf (bs : List Bd) : Nat → Hd → List Hd
  | 0, _ => []
  | n + 1, h => (kids bs h).flatMap (fun c => c :: unf bs n c)
theorem mem_kids {bs : List Bd} {h c : Hd} : c ∈ kids bs h ↔ (c, h) ∈ bs := by
  unfold kids
  simp only [List.mem_map, List.mem_filter, decide_eq_true_eq]
  constructor
  · rintro ⟨⟨x, y⟩, ⟨hb, rfl⟩, rfl⟩; exact hb
  · intro hb; exact ⟨(c, h), ⟨hb, rfl⟩, rfl⟩
theorem kids_nodup {bs : List Bd} (hs : SortedB bs) (h : Hd) : (kids bs h).Nodup := (hs.filter _).keys
theorem AcyBy.unf_eq {bs : List Bd} {d : Hd → Nat} {M : Nat} (h : AcyBy bs d M) : ∀ (n m : Nat) (x : Hd), d x ≤ n → d x ≤ m → unf bs n x = unf bs m x := by
  intro n
  induction n with
  | zero =>
    intro m x hn hm
    have hk : kids bs x = [] := List.eq_nil_iff_forall_not_mem.2 fun c hc => by have := h.up _ (mem_kids.1 hc); simp at this; omega
    cases m with
    | zero => rfl
    | succ m => simp [unf, hk]
  | succ n ih =>
    intro m x hn hm
    have go : ∀ (m : Nat), d x ≤ m + 1 → unf bs (n + 1) x = unf bs (m + 1) x := fun m hm => by
      unfold unf
      rw [List.flatMap_def, List.flatMap_def]
      congr 1
      refine List.map_congr_left fun c hc => ?_
      have hu := h.up _ (mem_kids.1 hc)
      simp only at hu
      rw [ih m c (by omega) (by omega)]
    cases m with
    | zero =>
      have hk : kids bs x = [] := List.eq_nil_iff_forall_not_mem.2 fun c hc => by have := h.up _ (mem_kids.1 hc); simp at this; omega
      simp [unf, hk]
    | succ m => exact go m hm
/-- All that are under h, each child followed by those under it. -/
def under (bs : List Bd) (M : Nat) (h : Hd) : List Hd := unf bs (M + 1) h
theorem AcyBy.kid {bs : List Bd} {d : Hd → Nat} {M : Nat} (h : AcyBy bs d M) {c x : Hd} (hc : c ∈ kids bs x) : d c < d x ∧ d x ≤ M := ⟨h.up _ (mem_kids.1 hc), h.le _ (mem_kids.1 hc)⟩
theorem AcyBy.under_eq {bs : List Bd} {d : Hd → Nat} {M : Nat} (h : AcyBy bs d M) (x : Hd) : under bs M x = (kids bs x).flatMap (fun c => c :: under bs M c) := by
  show unf bs (M + 1) x = _
  rw [unf, List.flatMap_def, List.flatMap_def]
  congr 1
  refine List.map_congr_left fun c hc => ?_
  have := h.kid hc
  show c :: unf bs M c = c :: unf bs (M + 1) c
  rw [h.unf_eq M (M + 1) c (by omega) (by omega)]
theorem AcyBy.mem_under {bs : List Bd} {d : Hd → Nat} {M : Nat} (h : AcyBy bs d M) : ∀ (n : Nat) (x y : Hd), d y ≤ n → (x ∈ under bs M y ↔ Und bs x y) := by
  intro n
  induction n with
  | zero =>
    intro x y hy
    rw [h.under_eq]
    refine ⟨fun hx => ?_, fun u => ?_⟩
    · obtain ⟨c, hc, _⟩ := List.mem_flatMap.1 hx
      have := h.kid hc; omega
    · have := h.und u; omega
  | succ n ih =>
    intro x y hy
    rw [h.under_eq]
    refine ⟨fun hx => ?_, fun u => ?_⟩
    · obtain ⟨c, hc, hx⟩ := List.mem_flatMap.1 hx
      have hk := h.kid hc
      rcases List.mem_cons.1 hx with rfl | hx
      · exact .base (mem_kids.1 hc)
      · exact ((ih x c (by omega)).1 hx).trans (.base (mem_kids.1 hc))
    · obtain ⟨c, hc, e⟩ := u.top
      have hk := h.kid (mem_kids.2 hc)
      refine List.mem_flatMap.2 ⟨c, mem_kids.2 hc, List.mem_cons.2 (e.imp id fun u => (ih x c (by omega)).2 u)⟩
theorem AcyBy.in_under {bs : List Bd} {d : Hd → Nat} {M : Nat} (h : AcyBy bs d M) {x y : Hd} : x ∈ under bs M y ↔ Und bs x y := h.mem_under _ x y (Nat.le_refl _)
theorem nodup_flatMap' {α β : Type} {f : α → List β} : ∀ {l : List α}, l.Nodup → (∀ a ∈ l, (f a).Nodup) → (∀ a ∈ l, ∀ b ∈ l, a ≠ b → ∀ x ∈ f a, x ∉ f b) → (l.flatMap f).Nodup
  | [], _, _, _ => by simp
  | a :: l, hn, h1, h2 => by
    obtain ⟨ha, hl⟩ := List.nodup_cons.1 hn
    rw [List.flatMap_cons, List.nodup_append]
    refine ⟨h1 a (by simp), nodup_flatMap' hl (fun b hb => h1 b (by simp [hb])) (fun x hx y hy => h2 x (by simp [hx]) y (by simp [hy])), fun x hx y hy e => ?_⟩
    obtain ⟨b, hb, hy⟩ := List.mem_flatMap.1 hy
    exact h2 a (by simp) b (by simp [hb]) (fun e => ha (e ▸ hb)) x hx (e ▸ hy)
theorem AcyBy.under_nodup {bs : List Bd} {d : Hd → Nat} {M : Nat} (h : AcyBy bs d M) (hs : SortedB bs) : ∀ (n : Nat) (y : Hd), d y ≤ n → (under bs M y).Nodup := by
  intro n
  induction n with
  | zero =>
    intro y hy
    have hk : kids bs y = [] := List.eq_nil_iff_forall_not_mem.2 fun c hc => by have := h.kid hc; omega
    rw [h.under_eq, hk]; simp
  | succ n ih =>
    intro y hy
    rw [h.under_eq]
    refine nodup_flatMap' (kids_nodup hs y) (fun c hc => ?_) (fun a ha b hb hne x hxa hxb => ?_)
    · have hk := h.kid hc
      refine List.nodup_cons.2 ⟨fun hm => ?_, ih c (by omega)⟩
      exact Nat.lt_irrefl _ (h.und (h.in_under.1 hm))
    · have ka := h.kid ha
      have kb := h.kid hb
      have up : ∀ {c z : Hd}, c ∈ kids bs y → Und bs c z → d y ≤ d z := fun {c z} hc u => by
        cases u with
        | base hb' => rw [hs.fn (mem_kids.1 hc) hb']; exact Nat.le_refl _
        | step hb' u' => rw [← hs.fn (mem_kids.1 hc) hb'] at u'; exact Nat.le_of_lt (h.und u')
      have ua : x = a ∨ Und bs x a := (List.mem_cons.1 hxa).imp id h.in_under.1
      have ub : x = b ∨ Und bs x b := (List.mem_cons.1 hxb).imp id h.in_under.1
      have key : a = b ∨ Und bs a b ∨ Und bs b a := by
        rcases ua with rfl | ua <;> rcases ub with rfl | ub
        · exact .inl rfl
        · exact .inr (.inl ub)
        · exact .inr (.inr ua)
        · exact ua.line hs ub
      rcases key with e | u | u
      · exact hne e
      · have := up ha u; omega
      · have := up hb u; omega
theorem nodup_sub_len {α : Type} [BEq α] [LawfulBEq α] : ∀ {xs ys : List α}, xs.Nodup → (∀ x ∈ xs, x ∈ ys) → xs.length ≤ ys.length
  | [], ys, _, _ => by simp
  | x :: xs, ys, hn, hs => by
    obtain ⟨h1, h2⟩ := List.nodup_cons.1 hn
    have hx := hs x (by simp)
    have := nodup_sub_len (ys := ys.erase x) h2 (fun y hy => by
      have hne : y ≠ x := fun e => h1 (e ▸ hy)
      exact (List.mem_erase_of_ne hne).2 (hs y (by simp [hy])))
    rw [List.length_erase_of_mem hx] at this
    have : 0 < ys.length := List.length_pos_of_mem hx
    simp; omega
theorem AcyBy.under_len {bs : List Bd} {d : Hd → Nat} {M : Nat} (h : AcyBy bs d M) (hs : SortedB bs) (y : Hd) : (under bs M y).length ≤ bs.length := by
  have := nodup_sub_len (ys := bs.map (·.1)) (h.under_nodup hs _ y (Nat.le_refl _)) (fun x hx => by
    cases h.in_under.1 hx with
    | base hb => exact List.mem_map.2 ⟨_, hb, rfl⟩
    | step hb _ => exact List.mem_map.2 ⟨_, hb, rfl⟩)
  simpa using this
/-- All above x, from its parent on. -/
def IsAnc (bs : List Bd) : Hd → List Hd → Prop
  | x, [] => ∀ p, (x, p) ∉ bs
  | x, p :: r => (x, p) ∈ bs ∧ IsAnc bs p r
theorem AcyBy.anc {bs : List Bd} {d : Hd → Nat} {M : Nat} (h : AcyBy bs d M) : ∀ (n : Nat) (x : Hd), M - d x ≤ n → ∃ A, IsAnc bs x A := by
  intro n
  induction n with
  | zero =>
    intro x hx
    refine ⟨[], fun p hp => ?_⟩
    have := h.up _ hp; have := h.le _ hp; simp at *; omega
  | succ n ih =>
    intro x hx
    by_cases hp : ∃ p, (x, p) ∈ bs
    · obtain ⟨p, hp⟩ := hp
      have h1 := h.up _ hp
      have h2 := h.le _ hp
      simp only at h1 h2
      obtain ⟨A, hA⟩ := ih p (by omega)
      exact ⟨p :: A, hp, hA⟩
    · exact ⟨[], fun p h => hp ⟨p, h⟩⟩
theorem IsAnc.mem {bs : List Bd} (hs : SortedB bs) : ∀ {A : List Hd} {x y : Hd}, IsAnc bs x A → (y ∈ A ↔ Und bs x y)
  | [], x, y, h => by
    simp only [List.not_mem_nil, false_iff]
    intro u
    cases u with
    | base hb => exact h _ hb
    | step hb _ => exact h _ hb
  | p :: r, x, y, ⟨h1, h2⟩ => by
    rw [List.mem_cons, h2.mem hs]
    constructor
    · rintro (rfl | u)
      · exact .base h1
      · exact .step h1 u
    · intro u
      cases u with
      | base hb => exact .inl (hs.fn hb h1)
      | step hb u => rw [hs.fn hb h1] at u; exact .inr u

/-- What the calls leave. -/
def rmB (bs : List Bd) (c : Hd) : List Bd := bs.filter (fun b => !decide (b.1 = c))
def goneB (bs : List Bd) (h : Hd) : List Bd := bs.filter (fun b => !(decide (b.1 = h) || decide (b.2 = h)))
open Classical in
noncomputable def adoptB (bs : List Bd) (c p : Hd) : List Bd := if Loops bs c p then bs else insB (rmB bs c) (c, p)
open Classical in
noncomputable def adoptE (bs : List Bd) (c p : Hd) : Int := if Loops bs c p then 8 else 0
def hasP (bs : List Bd) (c : Hd) : Bool := bs.any (fun b => decide (b.1 = c))
def parB (bs : List Bd) (c : Hd) : Hd := ((bs.find? (fun b => decide (b.1 = c))).map (·.2)).getD (0, 0)
theorem mem_rmB {bs : List Bd} {c : Hd} {b : Bd} : b ∈ rmB bs c ↔ b ∈ bs ∧ b.1 ≠ c := by unfold rmB; rw [List.mem_filter]; simp
theorem mem_goneB {bs : List Bd} {h : Hd} {b : Bd} : b ∈ goneB bs h ↔ b ∈ bs ∧ b.1 ≠ h ∧ b.2 ≠ h := by unfold goneB; rw [List.mem_filter]; simp
theorem adoptB_yes {bs : List Bd} {c p : Hd} (h : Loops bs c p) : adoptB bs c p = bs ∧ adoptE bs c p = 8 := by unfold adoptB adoptE; rw [if_pos h, if_pos h]; exact ⟨rfl, rfl⟩
theorem adoptB_no {bs : List Bd} {c p : Hd} (h : ¬ Loops bs c p) : adoptB bs c p = insB (rmB bs c) (c, p) ∧ adoptE bs c p = 0 := by unfold adoptB adoptE; rw [if_neg h, if_neg h]; exact ⟨rfl, rfl⟩
theorem mem_adoptB {bs : List Bd} {c p : Hd} (h : ¬ Loops bs c p) {b : Bd} : b ∈ adoptB bs c p ↔ b = (c, p) ∨ (b ∈ bs ∧ b.1 ≠ c) := by rw [(adoptB_no h).1, mem_insB, mem_rmB]
theorem hasP_iff {bs : List Bd} {c : Hd} : hasP bs c = true ↔ ∃ p, (c, p) ∈ bs := by
  unfold hasP
  rw [List.any_eq_true]
  constructor
  · rintro ⟨⟨x, y⟩, hb, e⟩; obtain rfl := of_decide_eq_true e; exact ⟨y, hb⟩
  · rintro ⟨p, hp⟩; exact ⟨(c, p), hp, decide_eq_true rfl⟩
theorem hasP_no {bs : List Bd} {c : Hd} (h : ∀ p, (c, p) ∉ bs) : hasP bs c = false := by
  cases e : hasP bs c
  · rfl
  · obtain ⟨p, hp⟩ := hasP_iff.1 e; exact absurd hp (h p)
theorem hasP_some {bs : List Bd} {c : Hd} (h : hasP bs c = true) : (c, parB bs c) ∈ bs := by
  unfold hasP at h
  unfold parB
  cases e : bs.find? (fun b => decide (b.1 = c)) with
  | none =>
    rw [List.find?_eq_none] at e
    obtain ⟨b, hb, hc⟩ := List.any_eq_true.1 h
    exact absurd hc (e b hb)
  | some b =>
    have h1 := List.find?_some e
    have h2 := List.mem_of_find?_eq_some e
    obtain rfl := of_decide_eq_true h1
    exact h2
theorem hasP_none {bs : List Bd} {c : Hd} (h : hasP bs c = false) : parB bs c = (0, 0) ∧ ∀ p, (c, p) ∉ bs := by
  have hn : ∀ p, (c, p) ∉ bs := fun p hp => by rw [hasP_iff.2 ⟨p, hp⟩] at h; cases h
  refine ⟨?_, hn⟩
  unfold parB
  cases e : bs.find? (fun b => decide (b.1 = c)) with
  | none => rfl
  | some b =>
    have h1 := List.find?_some e
    obtain rfl := of_decide_eq_true h1
    exact absurd (List.mem_of_find?_eq_some e) (hn b.2)
theorem parB_of {bs : List Bd} (hs : SortedB bs) {c p : Hd} (h : (c, p) ∈ bs) : hasP bs c = true ∧ parB bs c = p := by
  have h1 := hasP_iff.2 ⟨p, h⟩
  exact ⟨h1, hs.fn (hasP_some h1) h⟩

/-- what Loosen returns -/
def looseE (bs : List Bd) (c : Hd) : Int := if hasP bs c then 0 else 5
theorem rmB_none {bs : List Bd} {c : Hd} (h : hasP bs c = false) : rmB bs c = bs := by
  unfold rmB
  rw [List.filter_eq_self]
  intro b hb
  rw [Bool.not_eq_true', decide_eq_false_iff_not]
  intro e
  exact (hasP_none h).2 b.2 (by rw [← e]; exact hb)
def okH (h : Hd) : Prop := I64r h.1 ∧ I64r h.2
/-- What every family keeps to. -/
structure FOk (bs : List Bd) : Prop where
  sorted : SortedB bs
  acy : Acy bs
  ok : ∀ b ∈ bs, okH b.1 ∧ okH b.2
theorem FOk.nil : FOk [] := ⟨by simp [SortedB], Acy.nil, by simp⟩
theorem FOk.filter {bs : List Bd} (h : FOk bs) (q : Bd → Bool) : FOk (bs.filter q) := ⟨h.sorted.filter q, h.acy.sub (fun _ hb => (List.mem_filter.1 hb).1), fun b hb => h.ok b (List.mem_filter.1 hb).1⟩
theorem FOk.rm {bs : List Bd} (h : FOk bs) (c : Hd) : FOk (rmB bs c) := h.filter _
theorem FOk.gone {bs : List Bd} (h : FOk bs) (c : Hd) : FOk (goneB bs c) := h.filter _
theorem FOk.adopt {bs : List Bd} (h : FOk bs) {c p : Hd} (hc : okH c) (hp : okH p) : FOk (adoptB bs c p) := by
  by_cases hl : Loops bs c p
  · rw [(adoptB_yes hl).1]; exact h
  · have hm := fun b => mem_adoptB (b := b) hl
    refine ⟨?_, h.acy.adopt hl (fun b hb => (hm b).1 hb), fun b hb => ?_⟩
    · rw [(adoptB_no hl).1]
      exact insB_sorted (h.rm c).sorted (fun _ hb => (mem_rmB.1 hb).2)
    · rcases (hm b).1 hb with rfl | ⟨hb, _⟩
      · exact ⟨hc, hp⟩
      · exact h.ok b hb
theorem rmB_len (bs : List Bd) (c : Hd) : (rmB bs c).length ≤ bs.length := List.length_filter_le _ _
theorem goneB_len (bs : List Bd) (c : Hd) : (goneB bs c).length ≤ bs.length := List.length_filter_le _ _
theorem adoptB_len (bs : List Bd) (c p : Hd) : (adoptB bs c p).length ≤ bs.length + 1 := by
  by_cases hl : Loops bs c p
  · rw [(adoptB_yes hl).1]; omega
  · rw [(adoptB_no hl).1, insB_len]; have := rmB_len bs c; omega
theorem IsAnc.len {bs : List Bd} (hs : SortedB bs) (ha : Acy bs) {A : List Hd} {x : Hd} (h : IsAnc bs x A) : A.length ≤ bs.length := by
  obtain ⟨d, M, ha⟩ := ha
  have hn : ∀ {A : List Hd} {x : Hd}, IsAnc bs x A → A.Nodup := by
    intro A
    induction A with
    | nil => intro x _; simp
    | cons p r ih =>
      rintro x ⟨h1, h2⟩
      refine List.nodup_cons.2 ⟨fun hm => ?_, ih h2⟩
      exact Nat.lt_irrefl _ (ha.und ((h2.mem hs).1 hm))
  have hs' : ∀ {A : List Hd} {x : Hd}, IsAnc bs x A → ∀ y ∈ A, y ∈ bs.map (·.2) := by
    intro A
    induction A with
    | nil => intro x _ y hy; simp at hy
    | cons p r ih =>
      rintro x ⟨h1, h2⟩ y hy
      rcases List.mem_cons.1 hy with rfl | hy
      · exact List.mem_map.2 ⟨_, h1, rfl⟩
      · exact ih h2 y hy
  have := nodup_sub_len (hn h) (hs' h)
  simpa using this
theorem FOk.anc {bs : List Bd} (h : FOk bs) (x : Hd) : ∃ A, IsAnc bs x A ∧ A.length ≤ bs.length ∧ ∀ y, y ∈ A ↔ Und bs x y := by
  obtain ⟨d, M, ha⟩ := h.acy
  obtain ⟨A, hA⟩ := ha.anc _ x (Nat.le_refl _)
  exact ⟨A, hA, hA.len h.sorted ⟨d, M, ha⟩, fun y => hA.mem h.sorted⟩
end Go.Proofs.YtnmlapoiilckhaaDoor

/- A region that draws its order and whose last operation writes a cell that others of it read: these reads may be taken first all the same, for the last operation waits for them. -/
namespace Go.Proofs.YtnmlapoiilckhaaDoor
open Go.RowKit

section
variable {P : Program} {ops : Array Oper} {Q : Exit → Act → World → Prop} {md : Region.Mode} {S : World → Prop} {last : Nat}

/-- Whatever order is picked from here on; S holds behind each operation but the last. -/
def Till (P : Program) (md : Region.Mode) (ops : Array Oper) (Q : Exit → Act → World → Prop) (S : World → Prop) (last : Nat) : Nat → Array Bool → Act → World → Prop
  | 0, listed, a, w => Region.ready md ops listed = [] ∧ Q .normal a w
  | fuel + 1, listed, a, w => (Region.ready md ops listed = [] → Q .normal a w) ∧
      ∀ i ∈ Region.ready md ops listed, wpOp P ops Q i (fun a' w' => (i = last ∨ S w') ∧ Till P md ops Q S last fuel (listed.setIfInBounds i true) a' w') a w
theorem Till.any : ∀ (fuel : Nat) (listed : Array Bool) (a : Act) (w : World), Till P md ops Q S last fuel listed a w → wpAny P md ops Q fuel listed a w
  | 0, _, _, _, h => h
  | fuel + 1, _, _, _, h => ⟨h.1, fun i hi => wpOp_mono (fun a' w' h' => Till.any fuel _ a' w' h'.2) (h.2 i hi)⟩

/-- Operation y waits for operation x. -/
def waits (md : Region.Mode) (ops : Array Oper) (x y : Nat) : Bool := match ops[y]? with | some o => o.after.toList.any (fun e => e.on == x && Region.binds md e) | none => true
theorem waits_ready {x y : Nat} {listed : Array Bool} (h : waits md ops x y = true) (hx : listed.getD x false = false) : ¬ y ∈ Region.ready md ops listed := fun hy => by
  obtain ⟨_, o, ho, hall⟩ := mem_ready.1 hy
  unfold waits at h
  rw [ho] at h
  simp only [List.any_eq_true, Bool.and_eq_true, beq_iff_eq] at h
  obtain ⟨e, he, e1, e2⟩ := h
  have := hall e (by simpa using he) e2
  rw [e1, hx] at this
  cases this
/-- Each waits for the one before it. -/
def chain (md : Region.Mode) (ops : Array Oper) : Nat → List Nat → Bool
  | _, [] => true
  | x, y :: ys => waits md ops x y && chain md ops y ys
def unl (listed : Array Bool) (ys : List Nat) : Prop := ∀ y ∈ ys, listed.getD y false = false
theorem chain_ready : ∀ {x : Nat} {ys : List Nat} {listed : Array Bool}, chain md ops x ys = true → listed.getD x false = false → unl listed ys → ∀ y ∈ ys, ¬ y ∈ Region.ready md ops listed
  | _, [], _, _, _, _ => fun y hy => by cases hy
  | x, y :: ys, listed, h, hx, hu => fun z hz => by
    simp only [chain, Bool.and_eq_true] at h
    rcases List.mem_cons.1 hz with rfl | hz
    · exact waits_ready h.1 hx
    · exact chain_ready h.2 (hu y (by simp)) (fun q hq => hu q (by simp [hq])) z hz
theorem getD_set_off {listed : Array Bool} {j y : Nat} (h : j ≠ y) : (listed.setIfInBounds j true).getD y false = listed.getD y false := by
  simp only [Array.getD_eq_getD_getElem?, Array.getElem?_setIfInBounds_ne h]

/-- A read that the last operation waits for may be taken first. -/
theorem Till.first {i : Nat} {oi : Oper} {v : Value} {ys : List Nat} (hi : ops[i]? = some oi) (hsel : ∀ (j : Nat) (o : Oper) cs b, ops[j]? = some o → o.op ≠ .select cs b)
    (hQ : ∀ c a w, Q (.panic c) (a.put oi.dst v) w → Q (.panic c) a w) (hch : chain md ops i (ys ++ [last]) = true) :
    ∀ (fuel : Nat) (listed : Array Bool) (a : Act) (w : World),
      (∀ j oj, ops[j]? = some oj → j ≠ i → listed.getD j true = false → (∀ e ∈ oj.after, Region.binds md e = true → e.on ≠ i) → oi.apart ops oj = true) →
      i ∈ Region.ready md ops listed → unl listed (ys ++ [last]) → YieldsIf P ops S oi v a → S w →
      Till P md ops Q S last fuel (listed.setIfInBounds i true) (a.put oi.dst v) w → Till P md ops Q S last (fuel + 1) listed a w := by
  intro fuel
  induction fuel with
  | zero =>
    intro listed a w _ hr _ hy hS H
    refine ⟨fun h => (by rw [h] at hr; cases hr), fun j hj => ?_⟩
    by_cases hji : j = i
    · subst hji; exact hy.wpOp hi hS ⟨.inr hS, H⟩
    · have := ready_mono hj hji
      rw [H.1] at this
      cases this
  | succ fuel ih =>
    intro listed a w hfree hr hun hy hS H
    have hil : listed.getD i true = false := (mem_ready.1 hr).1
    have hil' : listed.getD i false = false := by
      simp only [Array.getD_eq_getD_getElem?] at hil ⊢
      cases hq : listed[i]? <;> rw [hq] at hil <;> simp_all
    refine ⟨fun h => (by rw [h] at hr; cases hr), fun j hj => ?_⟩
    by_cases hji : j = i
    · subst hji; exact hy.wpOp hi hS ⟨.inr hS, H⟩
    · have hnot' := chain_ready hch hil' hun
      have hjl : j ≠ last := fun e => hnot' last (by simp) (by rw [← e]; exact hj)
      have hun' : unl (listed.setIfInBounds j true) (ys ++ [last]) := fun y hy' => by
        rw [getD_set_off (fun e => hnot' y hy' (by rw [← e]; exact hj))]; exact hun y hy'
      have h1 := H.2 j (ready_mono hj hji)
      obtain ⟨hjun, oj, hoj, hall⟩ := mem_ready.1 hj
      have hnot : ∀ e ∈ oj.after, Region.binds md e = true → e.on ≠ i := fun e he hb heq => by
        have := hall e he hb
        rw [heq, hil'] at this; cases this
      have h2 := wpOp_putIf hoj (hfree j oj hoj hji hjun hnot) (fun cs b => hsel i oi cs b hi) (fun cs b => hsel j oj cs b hoj) hQ hy h1
      have hfree' : ∀ k ok, ops[k]? = some ok → k ≠ i → (listed.setIfInBounds j true).getD k true = false →
          (∀ e ∈ ok.after, Region.binds md e = true → e.on ≠ i) → oi.apart ops ok = true := fun k ok hk hki hu hno => by
        refine hfree k ok hk hki ?_ hno
        by_cases hjk : j = k
        · subst hjk; exact hjun
        · simp only [Array.getD_eq_getD_getElem?, Array.getElem?_setIfInBounds_ne hjk] at hu ⊢; exact hu
      refine wpOp_mono (fun a' w' h3 => ?_) h2
      have hS' : S w' := h3.2.1.elim (fun e => absurd e hjl) id
      refine ⟨.inr hS', ih (listed.setIfInBounds j true) a' w' hfree' (ready_mono hr (Ne.symm hji)) hun' h3.1 hS' ?_⟩
      rw [Array.setIfInBounds_comm _ _ hji]
      exact h3.2.2
/-- The moves of a walk, their side conditions as closed facts. -/
theorem Till.take {i : Nat} {oi : Oper} {v : Value} (ys : List Nat) {fuel : Nat} {listed : Array Bool} {a : Act} {w : World} (hi : ops[i]? = some oi)
    (hs : Region.noSelect ops = true) (hf : Region.free md ops listed i = true) (hr : (Region.ready md ops listed).contains i = true)
    (hch : (chain md ops i (ys ++ [last]) && (ys ++ [last]).all (fun y => !listed.getD y false)) = true)
    (hQ : ∀ c a w, Q (.panic c) (a.put oi.dst v) w → Q (.panic c) a w) (hy : YieldsIf P ops S oi v a) (hS : S w)
    (h : Till P md ops Q S last fuel (listed.setIfInBounds i true) (a.put oi.dst v) w) : Till P md ops Q S last (fuel + 1) listed a w := by
  rw [Bool.and_eq_true] at hch
  refine Till.first hi (Region.noSelect_spec hs) hQ hch.1 fuel listed a w (Region.free_spec hi hf) (by simpa using hr) (fun y hy' => ?_) hy hS h
  have := List.all_eq_true.1 hch.2 y hy'
  simpa using this
theorem Till.all {rs : List Nat} {fuel : Nat} {listed : Array Bool} {a : Act} {w : World} (hr : Region.ready md ops listed = rs) (hne : rs ≠ [])
    (h : ∀ i ∈ rs, wpOp P ops Q i (fun a' w' => (i = last ∨ S w') ∧ Till P md ops Q S last fuel (listed.setIfInBounds i true) a' w') a w) : Till P md ops Q S last (fuel + 1) listed a w :=
  ⟨fun h0 => absurd (hr ▸ h0) hne, hr ▸ h⟩
theorem Till.done {listed : Array Bool} {a : Act} {w : World} (hr : Region.ready md ops listed = []) (h : Q .normal a w) : ∀ fuel, Till P md ops Q S last fuel listed a w
  | 0 => ⟨hr, h⟩
  | _ + 1 => ⟨fun _ => h, by rw [hr]; simp⟩
def TillAll (P : Program) (md : Region.Mode) (ops : Array Oper) (Q : Exit → Act → World → Prop) (S : World → Prop) (last : Nat) (fuel : Nat) (listed : Array Bool) (a : Act) (w : World) (rs : List Nat) : Prop :=
  ∀ i ∈ rs, wpOp P ops Q i (fun a' w' => (i = last ∨ S w') ∧ Till P md ops Q S last fuel (listed.setIfInBounds i true) a' w') a w
theorem TillAll.nil {fuel : Nat} {listed : Array Bool} {a : Act} {w : World} : TillAll P md ops Q S last fuel listed a w [] := fun _ h => by cases h
theorem TillAll.cons {fuel : Nat} {listed : Array Bool} {a : Act} {w : World} {i : Nat} {o : Oper} {rs : List Nat} (ho : ops[i]? = some o)
    (h : ∀ K' : Act → World → Prop, Shut (∀ a w, (i = last ∨ S w) → Till P md ops Q S last fuel (listed.setIfInBounds i true) a w → K' a w) → if Region.wanted o (yielded ops a.tmps) = true then Oper.wp P o a w K' Q else K' (a.put o.dst undef) w)
    (hs : TillAll P md ops Q S last fuel listed a w rs) : TillAll P md ops Q S last fuel listed a w (i :: rs) := fun j hj => by
  rcases List.mem_cons.1 hj with rfl | hj
  · exact wpOp_step ho (fun K' hK => h K' (fun a w hS hW => hK a w ⟨hS, hW⟩))
  · exact hs j hj
theorem Till.ready {rs : List Nat} {fuel : Nat} {listed : Array Bool} {a : Act} {w : World} (hr : Region.ready md ops listed = rs) (hne : rs ≠ [])
    (h : TillAll P md ops Q S last fuel listed a w rs) : Till P md ops Q S last (fuel + 1) listed a w := Till.all hr hne h
theorem wp_region_till (S : World → Prop) (last : Nat) {id : Nat} {a : Act} {w : World} (hm : P.follows .mixedOrders = true)
    (h : Till P .any ops Q S last ops.size (Array.replicate ops.size false) a w.drew) : (Code.region id ops true).wp P Q a w :=
  wp_region_any hm (Till.any _ _ _ _ h)
end
end Go.Proofs.YtnmlapoiilckhaaDoor

/- An append onto an own slice that is kept beside what the append returns. -/
namespace Go.Proofs.YtnmlapoiilckhaaDoor
open Go.RowKit

theorem ownsRow_cut {w : World} {base : Nat} {e : TypeId} {size g n m cap : Nat} {xs news : List Value} (hx : xs.length = n * size) (h : w.ownsRow base e size (.slice (some ⟨g, 0, none⟩) (n + m) cap) (n + m) (xs ++ news)) : w.ownsRow base e size (.slice (some ⟨g, 0, none⟩) n cap) n xs := by
  refine ⟨hx, ?_⟩
  rcases h.2 with ⟨e9, _⟩ | ⟨g', cap', cur, e9, hb, hg, hn, hc, hs, ht⟩
  · simp at e9
  · simp only [Value.slice.injEq, Option.some.injEq, Addr.mk.injEq, and_true, true_and] at e9
    obtain ⟨e1, e2⟩ := e9
    subst e1
    subst e2
    refine .inr ⟨g, cap, cur, rfl, hb, hg, by omega, hc, hs, ?_⟩
    have h1 : (cur.toList.take ((n + m) * size)).take (n * size) = xs := by rw [ht, ← hx]; exact List.take_left
    rw [List.take_take, Nat.min_eq_left (Nat.mul_le_mul_right _ (by omega))] at h1
    exact h1
theorem ownsRow_weak {w : World} {base base' : Nat} {e : TypeId} {size n : Nat} {v : Value} {xs : List Value} (h : w.ownsRow base' e size v n xs) (hb : base ≤ base') : w.ownsRow base e size v n xs := by
  refine ⟨h.1, ?_⟩
  rcases h.2 with hn | ⟨g, cap, cur, rfl, hb', rest⟩
  · exact .inl hn
  · exact .inr ⟨g, cap, cur, rfl, Nat.le_trans hb hb', rest⟩
theorem run_append_keeps {P : Program} (w : World) (base : Nat) (t ty e : TypeId) (i : TypeInfo) (z : Value) (size bytes : Nat) (ht : P.underlying t = some (.slice e)) (hi : P.info? e = some i) (hz : i.zero = some z)
    (hsize : i.size = size) (hby : i.bytes = bytes) (hzs : z.cells.size = size) (hsz : 0 < size)
    (v : Value) (n : Nat) (xs : List Value) (hown : w.ownsRow base e size v n xs)
    (a : Addr) (m c : Nat) (news : List Value) (hl : news.length = m * size) (hnews : ∀ j u, news[j]? = some u → w.cell? (a.add j) = some u) (h1 : ∀ u ∈ news, u.oneCell' = true)
    (h63 : n + m ≤ maxLen) (hbytes : (n + m) * bytes ≤ 140737488355328) (hbase : base ≤ w.heap.size) :
    ∃ v' w', (Builtin.append_ #[t, t] ty #[v, .slice (some a) m c]).run P w = .ok v' w' ∧ w'.ownsRow base e size v' (n + m) (xs ++ news) ∧ w'.ownsRow base e size v n xs ∧ w.grownBy w' v.ownBlock := by
  obtain ⟨v', w', hr, h2, h3, -⟩ := run_append_own (P := P) w base t ty e i z size bytes ht hi hz hsize hby hzs hsz v n xs hown a m c news hl hnews h1 h63 hbytes hbase
  rcases hown.2 with ⟨e1, e2⟩ | ⟨g, cap, cur, e1, hb, hg, hnc, hcm, hcs, htk⟩
  · exact ⟨v', w', hr, h2, ⟨hown.1, .inl ⟨e1, e2⟩⟩, h3⟩
  · subst e1
    by_cases hroom : n + m ≤ cap
    · have hfit : n * i.size + news.length ≤ cur.size := by rw [hl, hcs, hsize, ← Nat.add_mul]; exact Nat.mul_le_mul_right _ hroom
      have hr2 := run_append_room (P := P) w t ty e i ht hi g n cap cur hg a m c news (by rw [hl, hsize]) hnews h1 hroom hfit
      rw [hr] at hr2
      simp only [Result.ok.injEq] at hr2
      have e2 := hr2.1
      subst e2
      exact ⟨_, w', hr, h2, ownsRow_cut hown.1 h2, h3⟩
    · obtain ⟨v2, w2, hr2, h4, h5⟩ := run_append_arg_grows (P := P) w t ty e i z size bytes ht hi hz hsize hby hzs hsz ⟨g, 0, none⟩ n cap xs hown.1 (hown.cells (g := g) rfl) a m c news hl hnews (by omega) h63 hbytes
      exact ⟨v2, w2, hr2, ownsRow_weak h4 hbase, hown.kept h5 (.inr (by simp [Value.ownBlock])), ⟨h5.os, h5.tape, h5.output, h5.size, fun k hk _ => h5.block k hk (by simp)⟩⟩
/-- As one step of a region that draws its order. -/
theorem stepK_append {P : Program} {w : World} {ops : Array Oper} {o : Oper} {a : Act} {K : Act → World → Prop} {Q : Exit → Act → World → Prop} {E : Prop} (hw : Region.wanted o (yielded ops a.tmps) = true) (s x : Operand) (t : TypeId)
    (ho : o.op = .call { callee := .builtin .append, args := #[s, x], argTypes := #[t, t] })
    (base : Nat) (e : TypeId) (i : TypeInfo) (z : Value) (size bytes : Nat) (ht : P.underlying t = some (.slice e)) (hi : P.info? e = some i) (hz : i.zero = some z)
    (hsize : i.size = size) (hby : i.bytes = bytes) (hzs : z.cells.size = size) (hsz : 0 < size)
    (v : Value) (n : Nat) (xs : List Value) (hs : a.eval s = v) (hown : w.ownsRow base e size v n xs)
    (ad : Addr) (m c : Nat) (news : List Value) (hx : a.eval x = .slice (some ad) m c) (hl : news.length = m * size) (hnews : ∀ j u, news[j]? = some u → w.cell? (ad.add j) = some u) (h1 : ∀ u ∈ news, u.oneCell' = true)
    (h63 : n + m ≤ maxLen) (hbytes : (n + m) * bytes ≤ 140737488355328) (hbase : base ≤ w.heap.size)
    (h : ∀ v' w', w'.ownsRow base e size v' (n + m) (xs ++ news) → w'.ownsRow base e size v n xs → w.grownBy w' v.ownBlock → K (a.put o.dst v') w') :
    if Region.wanted o (yielded ops a.tmps) = true then Oper.wp P o a w K Q else E := by
  rw [if_pos hw]
  obtain ⟨v', w', hr, h2, h3, h4⟩ := run_append_keeps (P := P) w base t o.type e i z size bytes ht hi hz hsize hby hzs hsz v n xs hown ad m c news hl hnews h1 h63 hbytes hbase
  unfold Oper.wp execOp
  simp only [ho, resolve, invoke, builtin, Sem.run_bind, Sem.run_pure, Result.andThen_ok, List.map_toArray, List.map_cons, List.map_nil, hs, hx, hr]
  exact h v' w' h2 h3 h4
end Go.Proofs.YtnmlapoiilckhaaDoor

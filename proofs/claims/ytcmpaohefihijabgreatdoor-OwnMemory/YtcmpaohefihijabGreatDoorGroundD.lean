/- Contracts and plain facts, several texts in one. -/
import Derived.Laws.OwnMore
import Derived.Deep.RegionHeld3
import Derived.ArgAppend
import Derived.Laws.AppendOwn
import Derived.Test.YtcmpaohefihijabGreatDoorGroundA
import Derived.Test.YtcmpaohefihijabGreatDoorGroundB
import Derived.Test.YtcmpaohefihijabGreatDoorGroundC
/- What a world answers, as plain functions: its slots l and its rows, by increasing slots. -/
namespace Go.Proofs.YtcmpaohefihijabGreatDoor
open Go.RowKit

def isH (a b : Int) (r : Rw) : Bool := r.s == a && r.g == b
theorem isH_iff {a b : Int} {r : Rw} : isH a b r = true ↔ r.s = a ∧ r.g = b := by simp [isH]
/-- the number of the row of a handle (the length: none) -/
def atN (rows : List Rw) (a b : Int) : Nat := rows.findIdx (isH a b)
def hasH (rows : List Rw) (a b : Int) : Bool := decide (atN rows a b < rows.length)
/-- Put and Drop at a row -/
def putK (r : Rw) (k : Nat) (n : Int) : Rw := ⟨r.s, r.g, if tb r.m k then r.m else r.m + 2 ^ k, upd r.f k n⟩
def dropK (r : Rw) (k : Nat) : Rw := ⟨r.s, r.g, r.m - 2 ^ k, upd r.f k 0⟩
/-- a row in its place -/
def insR (rows : List Rw) (r : Rw) : List Rw := rows.takeWhile (fun x => decide (x.s < r.s)) ++ r :: rows.dropWhile (fun x => decide (x.s < r.s))
def spawnE (l : List (Int × Bool)) (m : Int) (f : Nat → Int) : Int := if bErr m [f 0, f 1, f 2, f 3, f 4, f 5, f 6, f 7] = 0 then takeE l else bErr m [f 0, f 1, f 2, f 3, f 4, f 5, f 6, f 7]
def spawnH (l : List (Int × Bool)) (m : Int) (f : Nat → Int) : Int × Int := if bErr m [f 0, f 1, f 2, f 3, f 4, f 5, f 6, f 7] = 0 then takeH l else (0, 0)
def spawnL (l : List (Int × Bool)) (m : Int) (f : Nat → Int) : List (Int × Bool) := if bErr m [f 0, f 1, f 2, f 3, f 4, f 5, f 6, f 7] = 0 then takeL l else l
def spawnR (l : List (Int × Bool)) (rows : List Rw) (m : Int) (f : Nat → Int) : List Rw := if spawnE l m f = 0 then insR rows ⟨(takeH l).1, (takeH l).2, m, f⟩ else rows
def killE (rows : List Rw) (a b : Int) : Int := if hasH rows a b then 0 else 7
def killR (rows : List Rw) (a b : Int) : List Rw := rows.filter (fun r => !isH a b r)
def putWE (rows : List Rw) (a b k n : Int) : Int := if hasH rows a b then (if inB k 0 7 && inB n (-1000000000) 1000000000 then 0 else 1) else 7
def putWR (rows : List Rw) (a b k n : Int) : List Rw := if putWE rows a b k n = 0 then rows.set (atN rows a b) (putK (rows.getD (atN rows a b) rowZ) k.toNat n) else rows
def dropE (rows : List Rw) (a b k : Int) : Int := if hasH rows a b then (if inB k 0 7 then (if tb (rows.getD (atN rows a b) rowZ).m k.toNat then 0 else 5) else 1) else 7
def dropR (rows : List Rw) (a b k : Int) : List Rw := if dropE rows a b k = 0 then rows.set (atN rows a b) (dropK (rows.getD (atN rows a b) rowZ) k.toNat) else rows
def getE (rows : List Rw) (a b : Int) : Int := if hasH rows a b then 0 else 7
def getR (rows : List Rw) (a b : Int) : Rw := if hasH rows a b then rows.getD (atN rows a b) rowZ else rowZ

/-- Slots and rows, as they can be. -/
structure WOk (l : List (Int × Bool)) (rows : List Rw) : Prop where
  slots : SlotOk l
  up : rows.Pairwise (fun x y => x.s < y.s)
  live : ∀ r ∈ rows, liveB l r.s r.g = true
  all : ∀ a b, liveB l a b = true → ∃ r ∈ rows, r.s = a ∧ r.g = b
  ok : ∀ r ∈ rows, bErr r.m [r.f 0, r.f 1, r.f 2, r.f 3, r.f 4, r.f 5, r.f 6, r.f 7] = 0
theorem WOk.nil : WOk [] [] := ⟨SlotOk.nil, by simp, by simp, fun a b h => by have := liveB_iff.1 h; simp at this; omega, by simp⟩

theorem atN_le (rows : List Rw) (a b : Int) : atN rows a b ≤ rows.length := List.findIdx_le_length
theorem atN_is {rows : List Rw} {a b : Int} (h : atN rows a b < rows.length) : (rows.getD (atN rows a b) rowZ).s = a ∧ (rows.getD (atN rows a b) rowZ).g = b := by
  have := List.findIdx_getElem (w := h)
  rw [List.getD_eq_getElem?_getD, List.getElem?_eq_getElem h]
  exact isH_iff.1 this
theorem hasH_iff {rows : List Rw} {a b : Int} : hasH rows a b = true ↔ ∃ r ∈ rows, r.s = a ∧ r.g = b := by
  unfold hasH
  rw [decide_eq_true_eq]
  constructor
  · intro h
    exact ⟨_, mem_getD (d := rowZ) h, atN_is h⟩
  · rintro ⟨r, hr, h⟩
    exact List.findIdx_lt_length_of_exists ⟨r, hr, isH_iff.2 h⟩
/-- A handle is live just if it has a row. -/
theorem WOk.has {l : List (Int × Bool)} {rows : List Rw} (h : WOk l rows) (a b : Int) : hasH rows a b = liveB l a b := by
  rw [Bool.eq_iff_iff, hasH_iff]
  exact ⟨fun ⟨r, hr, e1, e2⟩ => by rw [← e1, ← e2]; exact h.live r hr, fun hl => h.all a b hl⟩
/-- Slots are apart. -/
theorem WOk.inj {l : List (Int × Bool)} {rows : List Rw} (h : WOk l rows) {x y : Rw} (hx : x ∈ rows) (hy : y ∈ rows) (e : x.s = y.s) : x.g = y.g := by
  have h1 := (liveB_iff.1 (h.live x hx)).2.2
  have h2 := (liveB_iff.1 (h.live y hy)).2.2
  rw [e, h2] at h1
  exact (Prod.mk.inj h1).1.symm
theorem idx_uniq {rows : List Rw} (h : rows.Pairwise (fun x y => x.s < y.s)) {i j : Nat} (hi : i < rows.length) (hj : j < rows.length) (e : (rows.getD i rowZ).s = (rows.getD j rowZ).s) : i = j := by
  rw [List.getD_eq_getElem?_getD, List.getElem?_eq_getElem hi, List.getD_eq_getElem?_getD, List.getElem?_eq_getElem hj] at e
  simp only [Option.getD_some] at e
  rcases Nat.lt_trichotomy i j with h1 | h1 | h1
  · have := List.pairwise_iff_getElem.1 h i j hi hj h1; omega
  · exact h1
  · have := List.pairwise_iff_getElem.1 h j i hj hi h1; omega
theorem up_ge {rows : List Rw} (h : rows.Pairwise (fun x y => x.s < y.s)) (h0 : ∀ r ∈ rows, 0 ≤ r.s) : ∀ i (hi : i < rows.length), (i : Int) ≤ rows[i].s
  | 0, hi => h0 _ (List.getElem_mem hi)
  | i + 1, hi => by
    have h1 := up_ge h h0 i (by omega)
    have h2 := List.pairwise_iff_getElem.1 h i (i + 1) (by omega) hi (by omega)
    omega
theorem WOk.len {l : List (Int × Bool)} {rows : List Rw} (h : WOk l rows) : rows.length ≤ l.length := by
  by_cases e : rows.length = 0
  · omega
  · have h0 : ∀ r ∈ rows, 0 ≤ r.s := fun r hr => (liveB_iff.1 (h.live r hr)).1
    have h1 := up_ge h.up h0 (rows.length - 1) (by omega)
    have h2 := (liveB_iff.1 (h.live _ (List.getElem_mem (show rows.length - 1 < rows.length by omega)))).2.1
    omega
theorem WOk.len60 {l : List (Int × Bool)} {rows : List Rw} (h : WOk l rows) : rows.length ≤ 60 := Nat.le_trans h.len h.slots.len

/-- A row has been changed, its handle kept. -/
theorem WOk.set {l : List (Int × Bool)} {rows : List Rw} (h : WOk l rows) {i : Nat} {r : Rw} (hi : i < rows.length) (hs : r.s = (rows.getD i rowZ).s) (hg : r.g = (rows.getD i rowZ).g) (hb : bErr r.m [r.f 0, r.f 1, r.f 2, r.f 3, r.f 4, r.f 5, r.f 6, r.f 7] = 0) : WOk l (rows.set i r) := by
  have hmem : ∀ x ∈ rows.set i r, ∃ y ∈ rows, x.s = y.s ∧ x.g = y.g := fun x hx => by
    rcases List.mem_or_eq_of_mem_set hx with hx | rfl
    · exact ⟨x, hx, rfl, rfl⟩
    · exact ⟨_, mem_getD (d := rowZ) hi, hs, hg⟩
  have hget : ∀ k (hk : k < rows.length), ((rows.set i r)[k]'(by simpa using hk)).s = rows[k].s ∧ ((rows.set i r)[k]'(by simpa using hk)).g = rows[k].g := fun k hk => by
    by_cases e : i = k
    · subst e
      rw [List.getElem_set_self]
      rw [List.getD_eq_getElem?_getD, List.getElem?_eq_getElem hi] at hs hg
      exact ⟨hs, hg⟩
    · rw [List.getElem_set_ne e]; exact ⟨rfl, rfl⟩
  refine ⟨h.slots, ?_, fun x hx => ?_, fun a b hl => ?_, fun x hx => ?_⟩
  · rw [List.pairwise_iff_getElem]
    intro p q hp hq hpq
    rw [List.length_set] at hp hq
    rw [(hget p hp).1, (hget q hq).1]
    exact List.pairwise_iff_getElem.1 h.up p q hp hq hpq
  · obtain ⟨y, hy, e1, e2⟩ := hmem x hx
    rw [e1, e2]; exact h.live y hy
  · obtain ⟨y, hy, e1, e2⟩ := h.all a b hl
    obtain ⟨k, hk, rfl⟩ := List.getElem_of_mem hy
    exact ⟨_, List.getElem_mem (by simpa using hk), (hget k hk).1.trans e1, (hget k hk).2.trans e2⟩
  · rcases List.mem_or_eq_of_mem_set hx with hx | rfl
    · exact h.ok x hx
    · exact hb

/-- Bits of a set, one put in or taken out. -/
theorem bit_in (m : Int) (k : Nat) (h0 : 0 ≤ m) (h1 : m ≤ 255) (hk : k < 8) (ht : tb m k = false) : (0 ≤ m + 2 ^ k ∧ m + 2 ^ k ≤ 255) ∧ ∀ j, j < 8 → tb (m + 2 ^ k) j = (tb m j || decide (j = k)) := by
  have key : ∀ (x : Fin 256) (y z : Fin 8), tb (x.val : Int) y.val = false → ((0 ≤ (x.val : Int) + 2 ^ y.val ∧ (x.val : Int) + 2 ^ y.val ≤ 255) ∧ tb ((x.val : Int) + 2 ^ y.val) z.val = (tb (x.val : Int) z.val || decide (z.val = y.val))) := by decide +kernel
  obtain ⟨n, rfl⟩ := Int.eq_ofNat_of_zero_le h0
  have hn : n < 256 := by omega
  exact ⟨(key ⟨n, hn⟩ ⟨k, hk⟩ ⟨0, by decide⟩ ht).1, fun j hj => (key ⟨n, hn⟩ ⟨k, hk⟩ ⟨j, hj⟩ ht).2⟩
theorem bit_out (m : Int) (k : Nat) (h0 : 0 ≤ m) (h1 : m ≤ 255) (hk : k < 8) (ht : tb m k = true) : (0 ≤ m - 2 ^ k ∧ m - 2 ^ k ≤ 255) ∧ ∀ j, j < 8 → tb (m - 2 ^ k) j = (tb m j && decide (j ≠ k)) := by
  have key : ∀ (x : Fin 256) (y z : Fin 8), tb (x.val : Int) y.val = true → ((0 ≤ (x.val : Int) - 2 ^ y.val ∧ (x.val : Int) - 2 ^ y.val ≤ 255) ∧ tb ((x.val : Int) - 2 ^ y.val) z.val = (tb (x.val : Int) z.val && decide (z.val ≠ y.val))) := by decide +kernel
  obtain ⟨n, rfl⟩ := Int.eq_ofNat_of_zero_le h0
  have hn : n < 256 := by omega
  exact ⟨(key ⟨n, hn⟩ ⟨k, hk⟩ ⟨0, by decide⟩ ht).1, fun j hj => (key ⟨n, hn⟩ ⟨k, hk⟩ ⟨j, hj⟩ ht).2⟩
theorem putK_ok {r : Rw} {k : Nat} {n : Int} (h : bErr r.m [r.f 0, r.f 1, r.f 2, r.f 3, r.f 4, r.f 5, r.f 6, r.f 7] = 0) (hk : k < 8) (hn : inB n (-1000000000) 1000000000 = true) : bErr (putK r k n).m [(putK r k n).f 0, (putK r k n).f 1, (putK r k n).f 2, (putK r k n).f 3, (putK r k n).f 4, (putK r k n).f 5, (putK r k n).f 6, (putK r k n).f 7] = 0 := by
  obtain ⟨⟨h0, h1⟩, hv⟩ := bErr_zero h
  have hf : ∀ j, j < 8 → inB ((putK r k n).f j) (-1000000000) 1000000000 = true := fun j hj => by
    unfold putK upd
    simp only
    split
    · exact hn
    · exact (hv j hj).2
  cases ht : tb r.m k
  · obtain ⟨⟨b0, b1⟩, hb⟩ := bit_in r.m k h0 h1 hk ht
    have hm : (putK r k n).m = r.m + 2 ^ k := by unfold putK; simp [ht]
    rw [hm]
    refine bErr_ok b0 b1 (fun j hj => ⟨fun e => ?_, hf j hj⟩)
    rw [hb j hj] at e
    simp at e
    unfold putK upd
    simp only
    rw [if_neg e.2]
    exact (hv j hj).1 e.1
  · have hm : (putK r k n).m = r.m := by unfold putK; simp [ht]
    rw [hm]
    refine bErr_ok h0 h1 (fun j hj => ⟨fun e => ?_, hf j hj⟩)
    unfold putK upd
    simp only
    rw [if_neg (fun e2 => by rw [e2, ht] at e; cases e)]
    exact (hv j hj).1 e
theorem dropK_ok {r : Rw} {k : Nat} (h : bErr r.m [r.f 0, r.f 1, r.f 2, r.f 3, r.f 4, r.f 5, r.f 6, r.f 7] = 0) (hk : k < 8) (ht : tb r.m k = true) : bErr (dropK r k).m [(dropK r k).f 0, (dropK r k).f 1, (dropK r k).f 2, (dropK r k).f 3, (dropK r k).f 4, (dropK r k).f 5, (dropK r k).f 6, (dropK r k).f 7] = 0 := by
  obtain ⟨⟨h0, h1⟩, hv⟩ := bErr_zero h
  obtain ⟨⟨b0, b1⟩, hb⟩ := bit_out r.m k h0 h1 hk ht
  refine bErr_ok (m := r.m - 2 ^ k) b0 b1 (fun j hj => ⟨fun e => ?_, ?_⟩)
  · unfold dropK upd
    simp only
    split
    · rfl
    · rename_i hne
      rw [hb j hj] at e
      simp [hne] at e
      exact (hv j hj).1 e
  · unfold dropK upd
    simp only
    split
    · decide
    · exact (hv j hj).2
theorem WOk.put {l : List (Int × Bool)} {rows : List Rw} (h : WOk l rows) (a b k n : Int) : WOk l (putWR rows a b k n) := by
  unfold putWR
  split
  · rename_i he
    unfold putWE at he
    cases hh : hasH rows a b
    · rw [hh] at he; simp at he
    · rw [hh, if_pos rfl] at he
      have hi : atN rows a b < rows.length := of_decide_eq_true hh
      cases h1 : inB k 0 7 <;> cases h2 : inB n (-1000000000) 1000000000 <;> rw [h1, h2] at he <;> simp at he
      have := inB_t h1
      exact h.set hi rfl rfl (putK_ok (h.ok _ (mem_getD hi)) (by omega) h2)
  · exact h
theorem WOk.drop {l : List (Int × Bool)} {rows : List Rw} (h : WOk l rows) (a b k : Int) : WOk l (dropR rows a b k) := by
  unfold dropR
  split
  · rename_i he
    unfold dropE at he
    cases hh : hasH rows a b
    · rw [hh] at he; simp at he
    · rw [hh, if_pos rfl] at he
      have hi : atN rows a b < rows.length := of_decide_eq_true hh
      cases h1 : inB k 0 7
      · rw [h1] at he; simp at he
      · rw [h1, if_pos rfl] at he
        cases h2 : tb (rows.getD (atN rows a b) rowZ).m k.toNat
        · rw [h2] at he; simp at he
        · have := inB_t h1
          exact h.set hi rfl rfl (dropK_ok (h.ok _ (mem_getD hi)) (by omega) h2)
  · exact h

theorem liveB_set {l : List (Int × Bool)} {i : Nat} {p : Int × Bool} (hi : i < l.length) (x y : Int) : liveB (l.set i p) x y = true ↔ (x = (i : Int) ∧ p = (y, true)) ∨ (x ≠ (i : Int) ∧ liveB l x y = true) := by
  rw [liveB_iff, liveB_iff, List.length_set]
  by_cases e : x = (i : Int)
  · subst e
    rw [Int.toNat_natCast, getD_set_eq _ _ _ _ hi]
    constructor
    · rintro ⟨_, _, h⟩; exact .inl ⟨rfl, h⟩
    · rintro (⟨_, h⟩ | ⟨h, _⟩)
      · exact ⟨by omega, by omega, h⟩
      · exact absurd rfl h
  · constructor
    · rintro ⟨h0, h1, h2⟩
      rw [getD_set_ne _ _ _ (by omega)] at h2
      exact .inr ⟨e, h0, h1, h2⟩
    · rintro (⟨h, _⟩ | ⟨_, h0, h1, h2⟩)
      · exact absurd h e
      · exact ⟨h0, h1, by rw [getD_set_ne _ _ _ (by omega)]; exact h2⟩
theorem liveB_free {l : List (Int × Bool)} {a b : Int} (h : liveB l a b = true) (x y : Int) : liveB (freeL l a b) x y = true ↔ x ≠ a ∧ liveB l x y = true := by
  obtain ⟨h0, h1, h2⟩ := liveB_iff.1 h
  obtain ⟨i, rfl⟩ := Int.eq_ofNat_of_zero_le h0
  rw [freeL, h, if_pos rfl, Int.toNat_natCast, liveB_set (by omega)]
  simp
theorem WOk.kill {l : List (Int × Bool)} {rows : List Rw} (h : WOk l rows) (a b : Int) : WOk (freeL l a b) (killR rows a b) := by
  cases hl : liveB l a b
  · have hf : freeL l a b = l := by rw [freeL, hl]; rfl
    have hr : killR rows a b = rows := by
      unfold killR
      rw [List.filter_eq_self]
      intro r hr
      cases hh : isH a b r
      · rfl
      · obtain ⟨e1, e2⟩ := isH_iff.1 hh
        have := h.live r hr
        rw [e1, e2, hl] at this
        cases this
    rw [hf, hr]; exact h
  · have hmem : ∀ r, r ∈ killR rows a b ↔ r ∈ rows ∧ isH a b r = false := fun r => by unfold killR; rw [List.mem_filter]; simp
    refine ⟨h.slots.free a b, h.up.filter _, fun r hr => ?_, fun x y hxy => ?_, fun r hr => h.ok r ((hmem r).1 hr).1⟩
    · obtain ⟨h1, h2⟩ := (hmem r).1 hr
      rw [liveB_free hl]
      refine ⟨fun e => ?_, h.live r h1⟩
      obtain ⟨r', hr', e1, e2⟩ := h.all a b hl
      have := h.inj h1 hr' (e.trans e1.symm)
      rw [isH_iff.2 ⟨e, this.trans e2⟩] at h2
      cases h2
    · rw [liveB_free hl] at hxy
      obtain ⟨r, hr, e1, e2⟩ := h.all x y hxy.2
      exact ⟨r, (hmem r).2 ⟨hr, by cases hh : isH a b r; · rfl
                                   · exact absurd (e1.symm.trans (isH_iff.1 hh).1) hxy.1⟩, e1, e2⟩
theorem liveB_take {l : List (Int × Bool)} (he : takeE l = 0) (x y : Int) : liveB (takeL l) x y = true ↔ (x, y) = takeH l ∨ liveB l x y = true := by
  unfold takeE at he
  by_cases h1 : firstFree l < l.length
  · rw [takeL, if_pos h1, takeH, if_pos h1, liveB_set h1]
    have hf := firstFree_lt h1
    have hnl : (l.getD (firstFree l) slotZ).2 = false := by unfold freeB at hf; cases hh : (l.getD (firstFree l) slotZ).2 <;> rw [hh] at hf <;> simp at hf ⊢
    simp only [Prod.mk.injEq, and_true]
    constructor
    · rintro (⟨e1, e2⟩ | ⟨_, e⟩)
      · exact .inl ⟨e1, e2.symm⟩
      · exact .inr e
    · rintro (⟨e1, e2⟩ | e)
      · exact .inl ⟨e1, e2.symm⟩
      · refine .inr ⟨fun ex => ?_, e⟩
        have h3 := (liveB_iff.1 e).2.2
        rw [ex, Int.toNat_natCast] at h3
        rw [h3] at hnl
        cases hnl
  · rw [if_neg h1] at he
    by_cases h2 : l.length < 60
    · rw [takeL, if_neg h1, if_pos h2, takeH, if_neg h1, if_pos h2, liveB_iff, liveB_iff, List.length_append]
      simp only [Prod.mk.injEq, List.length_cons, List.length_nil]
      constructor
      · rintro ⟨h0, h3, h4⟩
        by_cases e : x = (l.length : Int)
        · subst e
          rw [Int.toNat_natCast, getD_append_last] at h4
          simp at h4
          exact .inl ⟨rfl, h4.symm⟩
        · rw [getD_append_l _ _ _ _ (by omega)] at h4
          exact .inr ⟨h0, by omega, h4⟩
      · rintro (⟨rfl, rfl⟩ | ⟨h0, h3, h4⟩)
        · exact ⟨by omega, by omega, by rw [Int.toNat_natCast, getD_append_last]⟩
        · exact ⟨h0, by omega, by rw [getD_append_l _ _ _ _ (by omega)]; exact h4⟩
    · rw [if_neg h2] at he; simp at he
/-- The slot that Take takes is not live before. -/
theorem take_dead {l : List (Int × Bool)} (he : takeE l = 0) (y : Int) : liveB l (takeH l).1 y = false := by
  cases hh : liveB l (takeH l).1 y
  · rfl
  · exfalso
    obtain ⟨h0, h1, h2⟩ := liveB_iff.1 hh
    unfold takeE at he
    by_cases h3 : firstFree l < l.length
    · have hf := firstFree_lt h3
      rw [takeH, if_pos h3] at h2
      simp only [Int.toNat_natCast] at h2
      rw [h2] at hf
      simp [freeB] at hf
    · rw [if_neg h3] at he
      by_cases h4 : l.length < 60
      · rw [takeH, if_neg h3, if_pos h4] at h1
        simp at h1
      · rw [if_neg h4] at he; simp at he
theorem mem_insR {rows : List Rw} {r x : Rw} : x ∈ insR rows r ↔ x = r ∨ x ∈ rows := by
  unfold insR
  rw [List.mem_append, List.mem_cons]
  have : x ∈ rows ↔ x ∈ rows.takeWhile (fun x => decide (x.s < r.s)) ∨ x ∈ rows.dropWhile (fun x => decide (x.s < r.s)) := by
    rw [← List.mem_append, List.takeWhile_append_dropWhile]
  rw [this]
  constructor
  · rintro (h | h | h)
    · exact .inr (.inl h)
    · exact .inl h
    · exact .inr (.inr h)
  · rintro (h | h | h)
    · exact .inr (.inl h)
    · exact .inl h
    · exact .inr (.inr h)
theorem insR_up : ∀ {rows : List Rw} {r : Rw}, rows.Pairwise (fun x y => x.s < y.s) → (∀ x ∈ rows, x.s ≠ r.s) → (insR rows r).Pairwise (fun x y => x.s < y.s)
  | [], r, _, _ => by simp [insR]
  | x :: rows, r, h, hne => by
    obtain ⟨h1, h2⟩ := List.pairwise_cons.1 h
    by_cases e : x.s < r.s
    · have ei : insR (x :: rows) r = x :: insR rows r := by simp [insR, e]
      rw [ei, List.pairwise_cons]
      refine ⟨fun y hy => ?_, insR_up h2 (fun y hy => hne y (by simp [hy]))⟩
      rcases mem_insR.1 hy with rfl | hy
      · exact e
      · exact h1 y hy
    · have ei : insR (x :: rows) r = r :: x :: rows := by simp [insR, e]
      rw [ei, List.pairwise_cons]
      have hx := hne x (by simp)
      refine ⟨fun y hy => ?_, h⟩
      rcases List.mem_cons.1 hy with rfl | hy
      · omega
      · have := h1 y hy; omega
theorem WOk.spawn {l : List (Int × Bool)} {rows : List Rw} (h : WOk l rows) (m : Int) (f : Nat → Int) : WOk (spawnL l m f) (spawnR l rows m f) := by
  unfold spawnL spawnR spawnE
  by_cases hb : bErr m [f 0, f 1, f 2, f 3, f 4, f 5, f 6, f 7] = 0
  · rw [if_pos hb, if_pos hb]
    by_cases he : takeE l = 0
    · rw [if_pos he]
      have hne : ∀ x ∈ rows, x.s ≠ (takeH l).1 := fun x hx e => by
        have := h.live x hx
        rw [e, take_dead he] at this
        cases this
      refine ⟨h.slots.take, insR_up h.up hne, fun r hr => ?_, fun a b hl => ?_, fun r hr => ?_⟩
      · rw [liveB_take he]
        rcases mem_insR.1 hr with rfl | hr
        · exact .inl rfl
        · exact .inr (h.live r hr)
      · rw [liveB_take he] at hl
        rcases hl with e | hl
        · exact ⟨_, mem_insR.2 (.inl rfl), by rw [← e], by rw [← e]⟩
        · obtain ⟨r, hr, e1, e2⟩ := h.all a b hl
          exact ⟨r, mem_insR.2 (.inr hr), e1, e2⟩
      · rcases mem_insR.1 hr with rfl | hr
        · exact hb
        · exact h.ok r hr
    · rw [if_neg he]
      have : takeL l = l := by
        unfold takeE at he
        unfold takeL
        split
        · rename_i h1; rw [if_pos h1] at he; exact absurd rfl he
        · rename_i h1
          rw [if_neg h1] at he
          split
          · rename_i h2; rw [if_pos h2] at he; exact absurd rfl he
          · rfl
      rw [this]; exact h
  · rw [if_neg hb, if_neg hb, if_neg hb]; exact h
end Go.Proofs.YtcmpaohefihijabGreatDoor

/- What the laws ask of the rows of a world: plain facts. -/
namespace Go.Proofs.YtcmpaohefihijabGreatDoor
open Go.RowKit

theorem atN_uniq {l : List (Int × Bool)} {rows : List Rw} (h : WOk l rows) {t : Nat} (ht : t < rows.length) : atN rows (rows.getD t rowZ).s (rows.getD t rowZ).g = t := by
  have hm : hasH rows (rows.getD t rowZ).s (rows.getD t rowZ).g = true := hasH_iff.2 ⟨_, mem_getD ht, rfl, rfl⟩
  have hi : atN rows (rows.getD t rowZ).s (rows.getD t rowZ).g < rows.length := of_decide_eq_true hm
  exact idx_uniq h.up hi ht (atN_is hi).1
structure RowIs (l : List (Int × Bool)) (rows : List Rw) (t : Nat) (r : Rw) : Prop where
  getE : getE rows r.s r.g = 0
  getR : getR rows r.s r.g = r
  at_ : atN rows r.s r.g = t
  has : hasH rows r.s r.g = true
  s0 : 0 ≤ r.s
  sl : r.s < l.length
  s60 : r.s < 60
  g : (l.getD r.s.toNat slotZ) = (r.g, true)
  is : I64r r.s
  ig : I64r r.g
  ok : bErr r.m [r.f 0, r.f 1, r.f 2, r.f 3, r.f 4, r.f 5, r.f 6, r.f 7] = 0
theorem WOk.rowIs {l : List (Int × Bool)} {rows : List Rw} (h : WOk l rows) {t : Nat} {r : Rw} (ht : t < rows.length) (hr : rows.getD t rowZ = r) : RowIs l rows t r := by
  subst hr
  have hmem : rows.getD t rowZ ∈ rows := mem_getD ht
  have ha := atN_uniq h ht
  have hm : hasH rows (rows.getD t rowZ).s (rows.getD t rowZ).g = true := hasH_iff.2 ⟨_, hmem, rfl, rfl⟩
  obtain ⟨h0, h1, h2⟩ := liveB_iff.1 (h.live _ hmem)
  have hl := h.slots.len
  have hg := h.slots.gen (rows.getD t rowZ).s.toNat (by omega)
  rw [h2] at hg
  simp only at hg
  refine ⟨by rw [Go.Proofs.YtcmpaohefihijabGreatDoor.getE, hm]; rfl, by rw [Go.Proofs.YtcmpaohefihijabGreatDoor.getR, hm, if_pos rfl, ha], ha, hm, h0, h1, by omega, h2, ⟨by omega, by omega⟩, ⟨by omega, by omega⟩, h.ok _ hmem⟩
theorem WOk.upAt {l : List (Int × Bool)} {rows : List Rw} (h : WOk l rows) {t : Nat} (ht : t + 1 < rows.length) : (rows.getD t rowZ).s < (rows.getD (t + 1) rowZ).s := by
  rw [List.getD_eq_getElem?_getD, List.getElem?_eq_getElem (by omega), List.getD_eq_getElem?_getD, List.getElem?_eq_getElem ht]
  exact List.pairwise_iff_getElem.1 h.up t (t + 1) (by omega) ht (by omega)
/-- A handle that is not a row's is at no other row; the row of a handle. -/
theorem atN_ne {rows : List Rw} {t : Nat} {r : Rw} {a b : Int} (ht : t < rows.length) (hr : rows.getD t rowZ = r) (hne : ¬ (r.s = a ∧ r.g = b)) : atN rows a b ≠ t := fun e => hne (by
  have hi : atN rows a b < rows.length := by omega
  have := atN_is hi
  rw [e, hr] at this; exact this)
theorem rowc_set (r : Rw) (j : Nat) (x : Int) (h : j < 8) : (#[.int .i64 r.s, .int .i64 r.g, .int .i64 r.m, .int .i64 (r.f 0), .int .i64 (r.f 1), .int .i64 (r.f 2), .int .i64 (r.f 3), .int .i64 (r.f 4), .int .i64 (r.f 5), .int .i64 (r.f 6), .int .i64 (r.f 7)] : Array Value).setIfInBounds (3 + j) (.int .i64 x) = #[.int .i64 r.s, .int .i64 r.g, .int .i64 r.m, .int .i64 ((upd r.f j x) 0), .int .i64 ((upd r.f j x) 1), .int .i64 ((upd r.f j x) 2), .int .i64 ((upd r.f j x) 3), .int .i64 ((upd r.f j x) 4), .int .i64 ((upd r.f j x) 5), .int .i64 ((upd r.f j x) 6), .int .i64 ((upd r.f j x) 7)] := by
  obtain rfl | rfl | rfl | rfl | rfl | rfl | rfl | rfl : j = 0 ∨ j = 1 ∨ j = 2 ∨ j = 3 ∨ j = 4 ∨ j = 5 ∨ j = 6 ∨ j = 7 := by omega
  all_goals rfl
theorem rowc_get (r : Rw) (j : Nat) (h : j < 8) : (#[.int .i64 r.s, .int .i64 r.g, .int .i64 r.m, .int .i64 (r.f 0), .int .i64 (r.f 1), .int .i64 (r.f 2), .int .i64 (r.f 3), .int .i64 (r.f 4), .int .i64 (r.f 5), .int .i64 (r.f 6), .int .i64 (r.f 7)] : Array Value)[3 + j]? = some (.int .i64 (r.f j)) := by
  obtain rfl | rfl | rfl | rfl | rfl | rfl | rfl | rfl : j = 0 ∨ j = 1 ∨ j = 2 ∨ j = 3 ∨ j = 4 ∨ j = 5 ∨ j = 6 ∨ j = 7 := by omega
  all_goals rfl
/-- What Put leaves at each row. -/
theorem putWR_at {l : List (Int × Bool)} {rows : List Rw} (h : WOk l rows) {a b k n : Int} (he : putWE rows a b k n = 0) {t : Nat} {r : Rw} (ht : t < rows.length) (hr : rows.getD t rowZ = r) :
    (putWR rows a b k n).getD t rowZ = if r.s = a ∧ r.g = b then putK r k.toNat n else r := by
  rw [putWR, if_pos he]
  by_cases e : r.s = a ∧ r.g = b
  · rw [if_pos e]
    have := (h.rowIs ht hr).at_
    rw [e.1, e.2] at this
    rw [this, getD_set_eq _ _ _ _ ht, hr]
  · rw [if_neg e, getD_set_ne _ _ _ (atN_ne ht hr e), hr]
theorem putWE_zero {rows : List Rw} {a b k n : Int} (h : putWE rows a b k n = 0) : hasH rows a b = true ∧ inB k 0 7 = true ∧ inB n (-1000000000) 1000000000 = true := by
  unfold putWE at h
  cases h1 : hasH rows a b <;> cases h2 : inB k 0 7 <;> cases h3 : inB n (-1000000000) 1000000000 <;> rw [h1, h2, h3] at h <;> simp at h ⊢
theorem putWR_len (rows : List Rw) (a b k n : Int) : (putWR rows a b k n).length = rows.length := by unfold putWR; split <;> simp
theorem WOk.eqS {l : List (Int × Bool)} {rows : List Rw} (h : WOk l rows) {x y : Rw} (hx : x ∈ rows) (hy : y ∈ rows) (e : x.s = y.s) : x = y := by
  obtain ⟨i, hi, rfl⟩ := List.getElem_of_mem hx
  obtain ⟨j, hj, rfl⟩ := List.getElem_of_mem hy
  have g1 : rows.getD i rowZ = rows[i] := by rw [List.getD_eq_getElem?_getD, List.getElem?_eq_getElem hi]; rfl
  have g2 : rows.getD j rowZ = rows[j] := by rw [List.getD_eq_getElem?_getD, List.getElem?_eq_getElem hj]; rfl
  have := idx_uniq h.up hi hj (by rw [g1, g2]; exact e)
  subst this; rfl
theorem WOk.anyF {l : List (Int × Bool)} {rows : List Rw} (h : WOk l rows) {r : Rw} (hr : r ∈ rows) (p : Rw → Bool) : (rows.filter p).any (fun y => y.s == r.s) = p r := by
  cases hp : p r
  · rw [List.any_eq_false]
    intro y hy e
    obtain ⟨h1, h2⟩ := List.mem_filter.1 hy
    rw [h.eqS h1 hr (eq_of_beq e), hp] at h2
    cases h2
  · rw [List.any_eq_true]
    exact ⟨r, List.mem_filter.2 ⟨hr, hp⟩, by simp⟩
theorem filter_both (rows : List Rw) (p : Rw → Bool) : (rows.filter p).length + (rows.filter (fun r => !p r)).length = rows.length := by
  induction rows with
  | nil => rfl
  | cons r rows ih => cases hp : p r <;> simp [hp] <;> omega
/-- The row of a handle. -/
theorem WOk.hand {l : List (Int × Bool)} {rows : List Rw} (h : WOk l rows) {a b : Int} (hh : hasH rows a b = true) : ∃ i r, i < rows.length ∧ rows.getD i rowZ = r ∧ atN rows a b = i ∧ r.s = a ∧ r.g = b ∧ RowIs l rows i r := by
  have hi : atN rows a b < rows.length := of_decide_eq_true hh
  obtain ⟨e1, e2⟩ := atN_is hi
  exact ⟨_, _, hi, rfl, rfl, e1, e2, h.rowIs hi rfl⟩
/-- .. changed, its handle kept. -/
theorem WOk.handSet {l : List (Int × Bool)} {rows : List Rw} {i : Nat} {r : Rw} (h : WOk l (rows.set i r)) (hi : i < rows.length) : RowIs l (rows.set i r) i r :=
  h.rowIs (by simpa using hi) (getD_set_eq _ _ _ _ hi)
theorem dropK_bit {r : Rw} {j : Nat} (hb : bErr r.m [r.f 0, r.f 1, r.f 2, r.f 3, r.f 4, r.f 5, r.f 6, r.f 7] = 0) (hj : j < 8) (ht : tb r.m j = true) : tb (dropK r j).m j = false := by
  have h1 := (bErr_zero hb).1
  have := (bit_out r.m j h1.1 h1.2 hj ht).2 j hj
  rw [show (dropK r j).m = r.m - 2 ^ j from rfl, this]; simp
theorem drop_facts {l : List (Int × Bool)} {rows : List Rw} (h : WOk l rows) {a b : Int} (hh : hasH rows a b = true) {r : Rw} (hr : getR rows a b = r) {j : Nat} (hj : j < 8) (ht : tb r.m j = true) :
    dropE rows a b j = 0 ∧ getE (dropR rows a b j) a b = 0 ∧ getR (dropR rows a b j) a b = dropK r j ∧ dropE (dropR rows a b j) a b j = 5 ∧ dropR (dropR rows a b j) a b j = dropR rows a b j ∧
      putWE (dropR rows a b j) a b j (r.f j) = 0 ∧ 0 < (putWR (dropR rows a b j) a b j (r.f j)).length ∧ tb (dropK r j).m j = false ∧ (dropK r j).f j = 0 := by
  obtain ⟨i, q, hi, hq, hat, e1, e2, hri⟩ := h.hand hh
  obtain rfl : q = r := by rw [← hr, getR, hh, if_pos rfl, hat, hq]
  have hk : inB (j : Int) 0 7 = true := by simp [inB]; omega
  have he : dropE rows a b j = 0 := by rw [dropE, hh, hk, hat, hq, Int.toNat_natCast, ht]; rfl
  have hd : dropR rows a b j = rows.set i (dropK q j) := by rw [dropR, if_pos he, hat, hq, Int.toNat_natCast]
  have hw := h.drop a b j
  rw [hd] at hw ⊢
  have hr2 := hw.handSet hi
  have s1 : (dropK q j).s = a := e1
  have s2 : (dropK q j).g = b := e2
  have hb := dropK_bit hri.ok hj ht
  have hg : (rows.set i (dropK q j)).getD i rowZ = dropK q j := getD_set_eq _ _ _ _ hi
  have ha2 := hr2.at_
  have hh2 := hr2.has
  have hE2 := hr2.getE
  have hR2 := hr2.getR
  rw [s1, s2] at ha2 hh2 hE2 hR2
  have he2 : dropE (rows.set i (dropK q j)) a b j = 5 := by rw [dropE, hh2, hk, ha2, hg, Int.toNat_natCast, hb]; rfl
  refine ⟨he, hE2, hR2, he2, by rw [dropR, he2]; rfl, ?_, by rw [putWR_len]; simp; omega, hb, by simp [dropK, upd]⟩
  rw [putWE, hh2, hk, ((bErr_zero hri.ok).2 j hj).2]; rfl
theorem put_drop_facts {l : List (Int × Bool)} {rows : List Rw} (h : WOk l rows) {a b : Int} (hh : hasH rows a b = true) {r : Rw} (hr : getR rows a b = r) {j : Nat} (hj : j < 8) {n : Int} (hn : inB n (-1000000000) 1000000000 = true) (ht : tb r.m j = false) :
    putWE rows a b j n = 0 ∧ dropE (putWR rows a b j n) a b j = 0 ∧ getE (dropR (putWR rows a b j n) a b j) a b = 0 ∧ getR (dropR (putWR rows a b j n) a b j) a b = r := by
  obtain ⟨i, q, hi, hq, hat, e1, e2, hri⟩ := h.hand hh
  obtain rfl : q = r := by rw [← hr, getR, hh, if_pos rfl, hat, hq]
  have hk : inB (j : Int) 0 7 = true := by simp [inB]; omega
  have he : putWE rows a b j n = 0 := by rw [putWE, hh, hk, hn]; rfl
  have hp : putWR rows a b j n = rows.set i (putK q j n) := by rw [putWR, if_pos he, hat, hq, Int.toNat_natCast]
  have hw := h.put a b j n
  rw [hp] at hw ⊢
  have hr2 := hw.handSet hi
  have s1 : (putK q j n).s = a := e1
  have s2 : (putK q j n).g = b := e2
  have ha2 := hr2.at_
  have hh2 := hr2.has
  rw [s1, s2] at ha2 hh2
  have hg : (rows.set i (putK q j n)).getD i rowZ = putK q j n := getD_set_eq _ _ _ _ hi
  have hm := (bErr_zero hri.ok).1
  have hpm : (putK q j n).m = q.m + 2 ^ j := by simp [putK, ht]
  have hbit : tb (putK q j n).m j = true := by
    rw [hpm, (bit_in q.m j hm.1 hm.2 hj ht).2 j hj]; simp
  have he2 : dropE (rows.set i (putK q j n)) a b j = 0 := by rw [dropE, hh2, hk, ha2, hg, Int.toNat_natCast, hbit]; rfl
  have hd : dropR (rows.set i (putK q j n)) a b j = rows.set i (dropK (putK q j n) j) := by rw [dropR, if_pos he2, ha2, hg, Int.toNat_natCast, List.set_set]
  have hback : dropK (putK q j n) j = q := by
    have h0 := ((bErr_zero hri.ok).2 j hj).1 ht
    have hf : upd (upd q.f j n) j 0 = q.f := by
      funext k
      unfold upd
      by_cases e : k = j
      · rw [if_pos e, e, h0]
      · rw [if_neg e, if_neg e]
    have h1 : dropK (putK q j n) j = ⟨q.s, q.g, (putK q j n).m - 2 ^ j, upd (upd q.f j n) j 0⟩ := rfl
    rw [h1, hf, hpm, Int.add_sub_cancel]
  have hw2 := hw.drop a b j
  rw [hd, hback] at hw2 ⊢
  have hr3 := hw2.handSet hi
  have hE := hr3.getE
  have hR := hr3.getR
  rw [e1, e2] at hE hR
  exact ⟨he, he2, hE, hR⟩
theorem gensL_atR {l : List (Int × Bool)} (k : Nat) : (gensL l).getD k 0 = (l.getD k slotZ).1 := by
  simp only [gensL, List.getD_eq_getElem?_getD, List.getElem?_map]
  cases l[k]? <;> rfl
theorem gensL_lenR (l : List (Int × Bool)) : (gensL l).length = l.length := by simp [gensL]
end Go.Proofs.YtcmpaohefihijabGreatDoor

/- Where the rows of a world lie: tables by sets, places by handles. Plain lists alone. -/
namespace Go.Proofs.YtcmpaohefihijabGreatDoor
open Go.RowKit

def hd (r : Rw) : Int × Int := (r.s, r.g)
theorem hd_isH {r : Rw} {a b : Int} : isH a b r = true ↔ hd r = (a, b) := by rw [isH_iff, hd, Prod.mk.injEq]
theorem hd_notH {r : Rw} {a b : Int} : isH a b r = false ↔ hd r ≠ (a, b) := by
  rw [← Bool.not_eq_true, Ne, ← hd_isH]

/-- ks: the sets that have a table; tr: its rows; hk: the handles that have a place; pl: the place; R: which rows there are. -/
structure Laid (ks : List Int) (tr : Int → List Rw) (hk : List (Int × Int)) (pl : Int × Int → Int × Nat) (R : Rw → Prop) : Prop where
  key : ∀ k ∈ ks, 0 ≤ k ∧ k ≤ 255
  out : ∀ k, ¬ k ∈ ks → tr k = []
  at_ : ∀ h ∈ hk, (pl h).1 ∈ ks ∧ (pl h).2 < (tr (pl h).1).length ∧ hd ((tr (pl h).1).getD (pl h).2 rowZ) = h
  back : ∀ k ∈ ks, ∀ i, i < (tr k).length → hd ((tr k).getD i rowZ) ∈ hk ∧ pl (hd ((tr k).getD i rowZ)) = (k, i)
  row : ∀ k ∈ ks, ∀ r ∈ tr k, r.m = k ∧ bErr r.m [r.f 0, r.f 1, r.f 2, r.f 3, r.f 4, r.f 5, r.f 6, r.f 7] = 0
  mem : ∀ r, R r ↔ ∃ k ∈ ks, r ∈ tr k

theorem getD_of_mem {α : Type} {xs : List α} {x : α} (d : α) (h : x ∈ xs) : ∃ i, i < xs.length ∧ xs.getD i d = x := by
  obtain ⟨i, hi, rfl⟩ := List.getElem_of_mem h
  exact ⟨i, hi, by rw [List.getD_eq_getElem?_getD, List.getElem?_eq_getElem hi]; rfl⟩
theorem rmL_at {α : Type} (xs : List α) (k i : Nat) (d : α) (h : i < xs.length - 1) : (rmL xs k d).getD i d = if i = k then xs.getD (xs.length - 1) d else xs.getD i d := by
  unfold rmL
  have h1 : i < xs.length := by omega
  rw [List.getD_eq_getElem?_getD, List.getElem?_dropLast, if_pos (by simpa using h), ← List.getD_eq_getElem?_getD]
  by_cases e : i = k
  · subst e; rw [if_pos rfl, getD_set_eq _ _ _ _ h1]
  · rw [if_neg e, getD_set_ne _ _ _ (Ne.symm e)]

section
variable {ks : List Int} {tr : Int → List Rw} {hk : List (Int × Int)} {pl : Int × Int → Int × Nat} {R : Rw → Prop}
theorem Laid.nil (pl : Int × Int → Int × Nat) : Laid [] (fun _ => []) [] pl (fun _ => False) := ⟨by simp, by simp, by simp, by simp, by simp, by simp⟩
theorem Laid.congr {R' : Rw → Prop} (h : Laid ks tr hk pl R) (e : ∀ r, R r ↔ R' r) : Laid ks tr hk pl R' := ⟨h.key, h.out, h.at_, h.back, h.row, fun r => (e r).symm.trans (h.mem r)⟩
theorem Laid.congr2 {tr' : Int → List Rw} {pl' : Int × Int → Int × Nat} (h : Laid ks tr hk pl R) (e : ∀ k, tr k = tr' k) (e2 : ∀ x, pl x = pl' x) : Laid ks tr' hk pl' R := by
  obtain rfl : tr = tr' := funext e
  obtain rfl : pl = pl' := funext e2
  exact h
theorem Laid.tab (h : Laid ks tr hk pl R) {k : Int} (hk' : k ∈ ks) : TabOk k (tr k) := by
  obtain ⟨h0, h1⟩ := h.key k hk'
  refine ⟨h0, h1, fun r hr => ?_⟩
  obtain ⟨e, hb⟩ := h.row k hk' r hr
  refine ⟨e, fun j hj ht => ((bErr_zero hb).2 j hj).1 (by rw [e]; exact ht)⟩
/-- The row at a handle's place. -/
theorem Laid.find (h : Laid ks tr hk pl R) {x : Int × Int} (hx : x ∈ hk) : R ((tr (pl x).1).getD (pl x).2 rowZ) ∧ hd ((tr (pl x).1).getD (pl x).2 rowZ) = x := by
  obtain ⟨h1, h2, h3⟩ := h.at_ x hx
  exact ⟨(h.mem _).2 ⟨_, h1, mem_getD h2⟩, h3⟩
theorem Laid.is (h : Laid ks tr hk pl R) {r : Rw} (hr : R r) : hd r ∈ hk ∧ (tr (pl (hd r)).1).getD (pl (hd r)).2 rowZ = r := by
  obtain ⟨k, hk', hm⟩ := (h.mem r).1 hr
  obtain ⟨i, hi, rfl⟩ := getD_of_mem rowZ hm
  obtain ⟨h1, h2⟩ := h.back k hk' i hi
  refine ⟨h1, ?_⟩
  rw [h2]
theorem Laid.uniq (h : Laid ks tr hk pl R) {r r' : Rw} (hr : R r) (hr' : R r') (e : hd r = hd r') : r = r' := by
  rw [← (h.is hr).2, ← (h.is hr').2, e]
theorem Laid.has (h : Laid ks tr hk pl R) (x : Int × Int) : x ∈ hk ↔ ∃ r, R r ∧ hd r = x :=
  ⟨fun hx => ⟨_, h.find hx⟩, fun ⟨_, hr, e⟩ => e ▸ (h.is hr).1⟩
/-- A set gets its table. -/
theorem Laid.addK (h : Laid ks tr hk pl R) {k : Int} (hn : ¬ k ∈ ks) (h0 : 0 ≤ k) (h1 : k ≤ 255) : Laid (ks ++ [k]) tr hk pl R := by
  have e := h.out k hn
  refine ⟨fun j hj => ?_, fun j hj => h.out j (fun hj' => hj (by simp [hj'])), fun x hx => ?_, fun j hj i hi => ?_, fun j hj r hr => ?_, fun r => ?_⟩
  · rcases List.mem_append.1 hj with hj | hj
    · exact h.key j hj
    · simp at hj; subst hj; exact ⟨h0, h1⟩
  · obtain ⟨a, b⟩ := h.at_ x hx
    exact ⟨by simp [a], b⟩
  · rcases List.mem_append.1 hj with hj | hj
    · exact h.back j hj i hi
    · simp at hj; subst hj; rw [e] at hi; simp at hi
  · rcases List.mem_append.1 hj with hj | hj
    · exact h.row j hj r hr
    · simp at hj; subst hj; rw [e] at hr; simp at hr
  · rw [h.mem r]
    constructor
    · rintro ⟨j, hj, hr⟩; exact ⟨j, by simp [hj], hr⟩
    · rintro ⟨j, hj, hr⟩
      rcases List.mem_append.1 hj with hj | hj
      · exact ⟨j, hj, hr⟩
      · simp at hj; subst hj; rw [e] at hr; simp at hr
/-- A row comes in. -/
theorem Laid.add (h : Laid ks tr hk pl R) {r : Rw} (hm : r.m ∈ ks) (hb : bErr r.m [r.f 0, r.f 1, r.f 2, r.f 3, r.f 4, r.f 5, r.f 6, r.f 7] = 0) (hn : ¬ hd r ∈ hk) :
    Laid ks (fun j => if j = r.m then tr r.m ++ [r] else tr j) (hk ++ [hd r]) (fun x => if x = hd r then (r.m, (tr r.m).length) else pl x) (fun x => x = r ∨ R x) := by
  have hold : ∀ k i, i < (tr k).length → (if k = r.m then tr r.m ++ [r] else tr k).getD i rowZ = (tr k).getD i rowZ := fun k i hi => by
    by_cases e : k = r.m
    · subst e; rw [if_pos rfl, getD_append_l _ _ _ _ hi]
    · rw [if_neg e]
  have hlen : ∀ k, (tr k).length ≤ (if k = r.m then tr r.m ++ [r] else tr k).length := fun k => by
    by_cases e : k = r.m
    · subst e; rw [if_pos rfl]; simp
    · rw [if_neg e]; exact Nat.le_refl _
  refine ⟨h.key, fun k hk' => ?_, fun x hx => ?_, fun k hk' i hi => ?_, fun k hk' x hx => ?_, fun x => ?_⟩
  · rw [if_neg (fun e => hk' (by rw [e]; exact hm))]; exact h.out k hk'
  · by_cases e : x = hd r
    · subst e
      simp only [if_true]
      refine ⟨hm, by simp, ?_⟩
      rw [getD_append_last]
    · have hx' : x ∈ hk := by
        rcases List.mem_append.1 hx with h1 | h1
        · exact h1
        · simp at h1; exact absurd h1 e
      simp only [if_neg e]
      obtain ⟨h1, h2, h3⟩ := h.at_ x hx'
      exact ⟨h1, Nat.lt_of_lt_of_le h2 (hlen _), by rw [hold _ _ h2]; exact h3⟩
  · by_cases hi' : i < (tr k).length
    · rw [hold k i hi']
      obtain ⟨h1, h2⟩ := h.back k hk' i hi'
      refine ⟨List.mem_append.2 (.inl h1), ?_⟩
      rw [if_neg (fun e => hn (by rw [← e]; exact h1))]; exact h2
    · by_cases e : k = r.m
      · subst e
        rw [if_pos rfl] at hi ⊢
        simp at hi
        have : i = (tr r.m).length := by omega
        subst this
        rw [getD_append_last]
        simp
      · rw [if_neg e] at hi; exact absurd hi hi'
  · by_cases e : k = r.m
    · subst e
      rw [if_pos rfl] at hx
      rcases List.mem_append.1 hx with hx | hx
      · exact h.row _ hk' x hx
      · simp at hx; subst hx; exact ⟨rfl, hb⟩
    · rw [if_neg e] at hx; exact h.row k hk' x hx
  · rw [h.mem x]
    constructor
    · rintro (rfl | ⟨k, hk', hx⟩)
      · exact ⟨x.m, hm, by simp⟩
      · refine ⟨k, hk', ?_⟩
        by_cases e : k = r.m
        · subst e; simp [hx]
        · simp [e, hx]
    · rintro ⟨k, hk', hx⟩
      by_cases e : k = r.m
      · subst e
        simp at hx
        rcases hx with hx | rfl
        · exact .inr ⟨_, hm, hx⟩
        · exact .inl rfl
      · simp [e] at hx; exact .inr ⟨k, hk', hx⟩
/-- A row goes out; the last one of its table takes its place. -/
theorem Laid.del (h : Laid ks tr hk pl R) {x : Int × Int} (hx : x ∈ hk) {k : Int} {i : Nat} (hp : pl x = (k, i)) {pl' : Int × Int → Int × Nat}
    (hpl : ∀ y, y ≠ x → pl' y = if i < (tr k).length - 1 ∧ y = hd ((tr k).getD ((tr k).length - 1) rowZ) then (k, i) else pl y) :
    Laid ks (fun j => if j = k then rmL (tr k) i rowZ else tr j) (hk.filter (fun y => !decide (y = x))) pl' (fun r => R r ∧ hd r ≠ x) := by
  obtain ⟨hkk, hil, hdx⟩ := h.at_ x hx
  rw [hp] at hkk hil hdx
  simp only at hkk hil hdx
  -- the places of the rows
  have hne : ∀ j, j < (tr k).length → j ≠ i → hd ((tr k).getD j rowZ) ≠ x := fun j hj hji e => by
    have := (h.back k hkk j hj).2
    rw [e, hp] at this
    exact hji (by have := congrArg Prod.snd this; simpa using this.symm)
  have hmemf : ∀ y, y ∈ hk.filter (fun y => !decide (y = x)) ↔ y ∈ hk ∧ y ≠ x := fun y => by rw [List.mem_filter]; simp
  refine ⟨h.key, fun j hj => ?_, fun y hy => ?_, fun j hj q hq => ?_, fun j hj r hr => ?_, fun r => ?_⟩
  · rw [if_neg (fun e => hj (by rw [e]; exact hkk))]; exact h.out j hj
  · obtain ⟨hy1, hy2⟩ := (hmemf y).1 hy
    rw [hpl y hy2]
    obtain ⟨a1, a2, a3⟩ := h.at_ y hy1
    by_cases e : i < (tr k).length - 1 ∧ y = hd ((tr k).getD ((tr k).length - 1) rowZ)
    · rw [if_pos e]
      simp only [if_true]
      refine ⟨hkk, by rw [rmL_len]; exact e.1, ?_⟩
      rw [rmL_at _ _ _ _ e.1, if_pos rfl]; exact e.2.symm
    · rw [if_neg e]
      by_cases ek : (pl y).1 = k
      · rw [ek] at a2 a3
        rw [ek]
        simp only [if_true]
        have n1 : (pl y).2 ≠ i := fun e2 => by
          rw [e2] at a3
          exact hy2 (a3.symm.trans hdx)
        have n2 : (pl y).2 ≠ (tr k).length - 1 := fun e2 => by
          rw [e2] at a3
          exact e ⟨by omega, a3.symm⟩
        refine ⟨hkk, by rw [rmL_len]; omega, ?_⟩
        rw [rmL_at _ _ _ _ (by omega), if_neg n1]; exact a3
      · rw [if_neg ek]; exact ⟨a1, a2, a3⟩
  · by_cases e : j = k
    · subst e
      rw [if_pos rfl] at hq ⊢
      rw [rmL_len] at hq
      rw [rmL_at _ _ _ _ hq]
      by_cases eq : q = i
      · subst eq
        rw [if_pos rfl]
        obtain ⟨b1, b2⟩ := h.back j hj ((tr j).length - 1) (by omega)
        have b3 := hne ((tr j).length - 1) (by omega) (by omega)
        exact ⟨(hmemf _).2 ⟨b1, b3⟩, by rw [hpl _ b3, if_pos ⟨hq, rfl⟩]⟩
      · rw [if_neg eq]
        obtain ⟨b1, b2⟩ := h.back j hj q (by omega)
        have b3 := hne q (by omega) eq
        refine ⟨(hmemf _).2 ⟨b1, b3⟩, ?_⟩
        rw [hpl _ b3, if_neg (fun e => ?_)]
        · exact b2
        · have b4 := (h.back j hj ((tr j).length - 1) (by omega)).2
          rw [← e.2, b2] at b4
          have := congrArg Prod.snd b4
          simp at this
          omega
    · rw [if_neg e] at hq ⊢
      obtain ⟨b1, b2⟩ := h.back j hj q hq
      have b3 : hd ((tr j).getD q rowZ) ≠ x := fun e2 => by
        rw [e2, hp] at b2
        exact e (by have := congrArg Prod.fst b2; simpa using this.symm)
      refine ⟨(hmemf _).2 ⟨b1, b3⟩, ?_⟩
      rw [hpl _ b3, if_neg (fun e2 => ?_)]
      · exact b2
      · have b4 := (h.back k hkk ((tr k).length - 1) (by omega)).2
        rw [← e2.2, b2] at b4
        have := congrArg Prod.fst b4
        simp at this
        exact e this
  · by_cases e : j = k
    · subst e
      rw [if_pos rfl] at hr
      obtain ⟨q, hq, rfl⟩ := getD_of_mem rowZ hr
      rw [rmL_len] at hq
      rw [rmL_at _ _ _ _ hq]
      split
      · exact h.row j hj _ (mem_getD (by omega))
      · exact h.row j hj _ (mem_getD (by omega))
    · rw [if_neg e] at hr; exact h.row j hj r hr
  · rw [h.mem r]
    constructor
    · rintro ⟨⟨j, hj, hr⟩, hrx⟩
      refine ⟨j, hj, ?_⟩
      by_cases e : j = k
      · subst e
        rw [if_pos rfl]
        obtain ⟨q, hq, rfl⟩ := getD_of_mem rowZ hr
        have hqi : q ≠ i := fun e => hrx (by rw [e]; exact hdx)
        by_cases el : q = (tr j).length - 1
        · have := mem_getD (xs := rmL (tr j) i rowZ) (i := i) (d := rowZ) (by rw [rmL_len]; omega)
          rw [rmL_at _ _ _ _ (by omega), if_pos rfl, ← el] at this
          exact this
        · have := mem_getD (xs := rmL (tr j) i rowZ) (i := q) (d := rowZ) (by rw [rmL_len]; omega)
          rw [rmL_at _ _ _ _ (by omega), if_neg hqi] at this
          exact this
      · rw [if_neg e]; exact hr
    · rintro ⟨j, hj, hr⟩
      by_cases e : j = k
      · subst e
        rw [if_pos rfl] at hr
        obtain ⟨q, hq, rfl⟩ := getD_of_mem rowZ hr
        rw [rmL_len] at hq
        rw [rmL_at _ _ _ _ hq]
        by_cases eq : q = i
        · rw [if_pos eq]
          exact ⟨⟨j, hj, mem_getD (by omega)⟩, hne _ (by omega) (by omega)⟩
        · rw [if_neg eq]
          exact ⟨⟨j, hj, mem_getD (by omega)⟩, hne _ (by omega) eq⟩
      · rw [if_neg e] at hr
        refine ⟨⟨j, hj, hr⟩, fun e2 => ?_⟩
        obtain ⟨q, hq, rfl⟩ := getD_of_mem rowZ hr
        have := (h.back j hj q hq).2
        rw [e2, hp] at this
        exact e (by have := congrArg Prod.fst this; simpa using this.symm)
/-- A row is changed in its place. -/
theorem Laid.set (h : Laid ks tr hk pl R) {x : Int × Int} (hx : x ∈ hk) {k : Int} {i : Nat} (hp : pl x = (k, i)) {r' : Rw} (hr' : hd r' = x) (hm : r'.m = k) (hb : bErr r'.m [r'.f 0, r'.f 1, r'.f 2, r'.f 3, r'.f 4, r'.f 5, r'.f 6, r'.f 7] = 0) :
    Laid ks (fun j => if j = k then (tr k).set i r' else tr j) hk pl (fun r => r = r' ∨ (R r ∧ hd r ≠ x)) := by
  obtain ⟨hkk, hil, hdx⟩ := h.at_ x hx
  rw [hp] at hkk hil hdx
  simp only at hkk hil hdx
  have hget : ∀ j q, hd ((if j = k then (tr k).set i r' else tr j).getD q rowZ) = hd ((tr j).getD q rowZ) := fun j q => by
    by_cases e : j = k
    · subst e
      rw [if_pos rfl]
      by_cases eq : i = q
      · subst eq; rw [getD_set_eq _ _ _ _ hil, hr', hdx]
      · rw [getD_set_ne _ _ _ eq]
    · rw [if_neg e]
  have hlen : ∀ j, (if j = k then (tr k).set i r' else tr j).length = (tr j).length := fun j => by
    by_cases e : j = k
    · subst e; simp
    · rw [if_neg e]
  refine ⟨h.key, fun j hj => ?_, fun y hy => ?_, fun j hj q hq => ?_, fun j hj r hr => ?_, fun r => ?_⟩
  · rw [if_neg (fun e => hj (by rw [e]; exact hkk))]; exact h.out j hj
  · obtain ⟨h1, h2, h3⟩ := h.at_ y hy
    exact ⟨h1, by rw [hlen]; exact h2, by rw [hget]; exact h3⟩
  · rw [hlen] at hq
    rw [hget]; exact h.back j hj q hq
  · by_cases e : j = k
    · subst e
      rw [if_pos rfl] at hr
      rcases List.mem_or_eq_of_mem_set hr with hr | rfl
      · exact h.row _ hj r hr
      · exact ⟨hm, hb⟩
    · rw [if_neg e] at hr; exact h.row j hj r hr
  · rw [h.mem r]
    constructor
    · rintro (rfl | ⟨⟨j, hj, hr⟩, hrx⟩)
      · refine ⟨k, hkk, ?_⟩
        simp only [if_true]
        have := mem_getD (xs := (tr k).set i r) (i := i) (d := rowZ) (by simpa using hil)
        rw [getD_set_eq _ _ _ _ hil] at this
        exact this
      · refine ⟨j, hj, ?_⟩
        by_cases e : j = k
        · subst e
          rw [if_pos rfl]
          obtain ⟨q, hq, rfl⟩ := getD_of_mem rowZ hr
          have hqi : i ≠ q := fun e => hrx (by rw [← e]; exact hdx)
          have := mem_getD (xs := (tr j).set i r') (i := q) (d := rowZ) (by simpa using hq)
          rw [getD_set_ne _ _ _ hqi] at this
          exact this
        · rw [if_neg e]; exact hr
    · rintro ⟨j, hj, hr⟩
      by_cases e : j = k
      · subst e
        rw [if_pos rfl] at hr
        obtain ⟨q, hq, rfl⟩ := getD_of_mem rowZ hr
        simp at hq
        by_cases eq : i = q
        · subst eq; rw [getD_set_eq _ _ _ _ hq]; exact .inl rfl
        · rw [getD_set_ne _ _ _ eq]
          refine .inr ⟨⟨j, hj, mem_getD hq⟩, fun e2 => ?_⟩
          have := (h.back j hj q hq).2
          rw [e2, hp] at this
          exact eq (by have := congrArg Prod.snd this; simpa using this)
      · rw [if_neg e] at hr
        refine .inr ⟨⟨j, hj, hr⟩, fun e2 => ?_⟩
        obtain ⟨q, hq, rfl⟩ := getD_of_mem rowZ hr
        have := (h.back j hj q hq).2
        rw [e2, hp] at this
        exact e (by have := congrArg Prod.fst this; simpa using this.symm)

theorem nodup_le {α : Type} [DecidableEq α] : ∀ {xs ys : List α}, xs.Nodup → (∀ x ∈ xs, x ∈ ys) → xs.length ≤ ys.length
  | [], _, _, _ => by simp
  | x :: xs, ys, hn, hs => by
    obtain ⟨h1, h2⟩ := List.nodup_cons.1 hn
    have := nodup_le (xs := xs) (ys := ys.erase x) h2 (fun y hy => (List.mem_erase_of_ne (fun e => h1 (by rw [← e]; exact hy))).2 (hs y (by simp [hy])))
    have hx := hs x (by simp)
    rw [List.length_erase_of_mem hx] at this
    have : 0 < ys.length := List.length_pos_of_mem hx
    simp; omega
theorem Laid.ksLen (h : Laid ks tr hk pl R) (hn : ks.Nodup) : ks.length ≤ 256 := by
  have := nodup_le (ys := (List.range 256).map (fun n : Nat => (n : Int))) hn (fun k hk' => by
    obtain ⟨h0, h1⟩ := h.key k hk'
    rw [List.mem_map]
    exact ⟨k.toNat, by rw [List.mem_range]; omega, by omega⟩)
  simpa using this
theorem Laid.hkLen {rows : List Rw} (h : Laid ks tr hk pl R) (hn : hk.Nodup) (hr : ∀ r, R r → r ∈ rows) : hk.length ≤ rows.length := by
  have := nodup_le (ys := rows.map hd) hn (fun x hx => by
    obtain ⟨r, hr', e⟩ := (h.has x).1 hx
    rw [List.mem_map]; exact ⟨r, hr r hr', e⟩)
  simpa using this
theorem Laid.trLen {rows : List Rw} (h : Laid ks tr hk pl R) (hr : ∀ r, R r → r ∈ rows) {k : Int} (hk' : k ∈ ks) : (tr k).length ≤ rows.length := by
  have hn : ((tr k).map hd).Nodup := by
    rw [List.nodup_iff_pairwise_ne, List.pairwise_iff_getElem]
    intro i j hi hj hij e
    simp at hi hj
    have e1 := (h.back k hk' i hi).2
    have e2 := (h.back k hk' j hj).2
    have g1 : (tr k).getD i rowZ = (tr k)[i] := by rw [List.getD_eq_getElem?_getD, List.getElem?_eq_getElem hi]; rfl
    have g2 : (tr k).getD j rowZ = (tr k)[j] := by rw [List.getD_eq_getElem?_getD, List.getElem?_eq_getElem hj]; rfl
    simp at e
    rw [g1, e, ← g2, e2] at e1
    have := congrArg Prod.snd e1
    simp at this
    omega
  have := nodup_le (ys := rows.map hd) hn (fun x hx => by
    obtain ⟨r, hr', e⟩ := List.mem_map.1 hx
    rw [List.mem_map]; exact ⟨r, hr r ((h.mem r).2 ⟨k, hk', hr'⟩), e⟩)
  simpa using this
end

/-- Rows by slots, and which there are. -/
theorem mem_set_at {rows : List Rw} (hup : rows.Pairwise (fun x y => x.s < y.s)) {a b : Int} (hi : atN rows a b < rows.length) {r' x : Rw} :
    x ∈ rows.set (atN rows a b) r' ↔ x = r' ∨ (x ∈ rows ∧ hd x ≠ (a, b)) := by
  obtain ⟨e1, e2⟩ := atN_is hi
  constructor
  · intro hx
    obtain ⟨q, hq, rfl⟩ := getD_of_mem rowZ hx
    simp at hq
    by_cases e : atN rows a b = q
    · subst e; rw [getD_set_eq _ _ _ _ hq]; exact .inl rfl
    · rw [getD_set_ne _ _ _ e]
      refine .inr ⟨mem_getD hq, fun e3 => e ?_⟩
      simp [hd] at e3
      exact idx_uniq hup hi hq (e1.trans e3.1.symm)
  · rintro (rfl | ⟨hx, hne⟩)
    · have := mem_getD (xs := rows.set (atN rows a b) x) (i := atN rows a b) (d := rowZ) (by simpa using hi)
      rwa [getD_set_eq _ _ _ _ hi] at this
    · obtain ⟨q, hq, rfl⟩ := getD_of_mem rowZ hx
      have e : atN rows a b ≠ q := fun e => hne (by rw [← e, hd, e1, e2])
      have := mem_getD (xs := rows.set (atN rows a b) r') (i := q) (d := rowZ) (by simpa using hq)
      rwa [getD_set_ne _ _ _ e] at this
theorem mem_killR {rows : List Rw} {a b : Int} {x : Rw} : x ∈ killR rows a b ↔ x ∈ rows ∧ hd x ≠ (a, b) := by
  unfold killR
  rw [List.mem_filter, Bool.not_eq_true', hd_notH]
section
variable {ks : List Int} {tr : Int → List Rw} {hk : List (Int × Int)} {pl : Int × Int → Int × Nat} {rows : List Rw} {l : List (Int × Bool)}
theorem Laid.hasH (h : Laid ks tr hk pl (· ∈ rows)) (a b : Int) : decide ((a, b) ∈ hk) = hasH rows a b := by
  rw [Bool.eq_iff_iff, decide_eq_true_eq, h.has, hasH_iff]
  constructor
  · rintro ⟨r, hr, e⟩; simp [hd] at e; exact ⟨r, hr, e⟩
  · rintro ⟨r, hr, e1, e2⟩; exact ⟨r, hr, by rw [hd, e1, e2]⟩
theorem Laid.get (h : Laid ks tr hk pl (· ∈ rows)) {a b : Int} (hx : (a, b) ∈ hk) : rows.getD (atN rows a b) rowZ = (tr (pl (a, b)).1).getD (pl (a, b)).2 rowZ := by
  have hh : Go.Proofs.YtcmpaohefihijabGreatDoor.hasH rows a b = true := by rw [← h.hasH a b]; exact decide_eq_true hx
  have hi : atN rows a b < rows.length := of_decide_eq_true hh
  obtain ⟨e1, e2⟩ := atN_is hi
  have := h.is (r := rows.getD (atN rows a b) rowZ) (mem_getD hi)
  rw [hd, e1, e2] at this
  exact this.2.symm
end
end Go.Proofs.YtcmpaohefihijabGreatDoor

/- Rows picked out of a world, by increasing slots: plain lists. -/
namespace Go.Proofs.YtcmpaohefihijabGreatDoor
open Go.RowKit

/-- what Rows answers -/
def rowsQ (rows : List Rw) (a b c : Int) : List Rw := if qErr a b c = 0 then rows.filter (fun r => matchB r.m a b c) else []

theorem sorted_ext : ∀ {xs ys : List Rw}, xs.Pairwise (fun x y => x.s < y.s) → ys.Pairwise (fun x y => x.s < y.s) → (∀ x, x ∈ xs ↔ x ∈ ys) → xs = ys
  | [], [], _, _, _ => rfl
  | [], y :: ys, _, _, h => by have := (h y).2 (by simp); simp at this
  | x :: xs, [], _, _, h => by have := (h x).1 (by simp); simp at this
  | x :: xs, y :: ys, hx, hy, h => by
    obtain ⟨x1, x2⟩ := List.pairwise_cons.1 hx
    obtain ⟨y1, y2⟩ := List.pairwise_cons.1 hy
    have e : x = y := by
      rcases List.mem_cons.1 ((h x).1 (by simp)) with e | e
      · exact e
      · rcases List.mem_cons.1 ((h y).2 (by simp)) with e' | e'
        · exact e'.symm
        · have := y1 x e; have := x1 y e'; omega
    subst e
    congr 1
    refine sorted_ext x2 y2 (fun z => ?_)
    constructor
    · intro hz
      rcases List.mem_cons.1 ((h z).1 (by simp [hz])) with e | e
      · subst e; have := x1 z hz; omega
      · exact e
    · intro hz
      rcases List.mem_cons.1 ((h z).2 (by simp [hz])) with e | e
      · subst e; have := y1 z hz; omega
      · exact e

section
variable {ks : List Int} {tr : Int → List Rw} {hk : List (Int × Int)} {pl : Int × Int → Int × Nat} {rows : List Rw}
/-- What a loop over the tables has picked up: the tables in todo are still to come. -/
structure Pick (ks : List Int) (tr : Int → List Rw) (a b c : Int) (todo : List Int) (ys : List Rw) : Prop where
  mem : ∀ x, x ∈ ys ↔ ∃ k ∈ ks, ¬ k ∈ todo ∧ matchB k a b c = true ∧ x ∈ tr k
  nd : (ys.map hd).Nodup
theorem Laid.trNodup (h : Laid ks tr hk pl (· ∈ rows)) {k : Int} (hk' : k ∈ ks) : ((tr k).map hd).Nodup := by
  rw [List.nodup_iff_pairwise_ne, List.pairwise_iff_getElem]
  intro i j hi hj hij e
  simp at hi hj
  have e1 := (h.back k hk' i hi).2
  have e2 := (h.back k hk' j hj).2
  have g1 : (tr k).getD i rowZ = (tr k)[i] := by rw [List.getD_eq_getElem?_getD, List.getElem?_eq_getElem hi]; rfl
  have g2 : (tr k).getD j rowZ = (tr k)[j] := by rw [List.getD_eq_getElem?_getD, List.getElem?_eq_getElem hj]; rfl
  simp at e
  rw [g1, e, ← g2, e2] at e1
  have := congrArg Prod.snd e1
  simp at this
  omega
theorem Pick.start (ks : List Int) (tr : Int → List Rw) (a b c : Int) : Pick ks tr a b c ks [] := ⟨fun x => by simp; intro k h1 h2; exact absurd h1 h2, by simp⟩
theorem Pick.next {a b c : Int} {todo : List Int} {ys : List Rw} {k : Int} (h : Laid ks tr hk pl (· ∈ rows)) (p : Pick ks tr a b c todo ys) (hkt : k ∈ todo) (hkk : k ∈ ks) (hm : matchB k a b c = true) : Pick ks tr a b c (todo.filter (fun y => !decide (y = k))) (ys ++ tr k) := by
  refine ⟨fun x => ?_, ?_⟩
  · rw [List.mem_append, p.mem x]
    constructor
    · rintro (⟨j, hj, hn, hmj, hx⟩ | hx)
      · exact ⟨j, hj, fun e => hn (List.mem_filter.1 e).1, hmj, hx⟩
      · exact ⟨k, hkk, fun e => by have := (List.mem_filter.1 e).2; simp at this, hm, hx⟩
    · rintro ⟨j, hj, hn, hmj, hx⟩
      by_cases e : j = k
      · subst e; exact .inr hx
      · refine .inl ⟨j, hj, fun e2 => hn (List.mem_filter.2 ⟨e2, by simpa using e⟩), hmj, hx⟩
  · rw [List.map_append, List.nodup_append]
    refine ⟨p.nd, h.trNodup hkk, fun u hu v hv e => ?_⟩
    obtain ⟨x, hx, rfl⟩ := List.mem_map.1 hu
    obtain ⟨y, hy, rfl⟩ := List.mem_map.1 hv
    obtain ⟨j, hj, hn, _, hxj⟩ := (p.mem x).1 hx
    have := h.uniq ((h.mem x).2 ⟨j, hj, hxj⟩) ((h.mem y).2 ⟨k, hkk, hy⟩) e
    have e1 := (h.row j hj x hxj).1
    have e2 := (h.row k hkk y hy).1
    rw [this] at e1
    exact hn (by rw [← e1, e2]; exact hkt)
theorem Pick.skip {a b c : Int} {todo : List Int} {ys : List Rw} {k : Int} (p : Pick ks tr a b c todo ys) (hm : matchB k a b c = false) : Pick ks tr a b c (todo.filter (fun y => !decide (y = k))) ys := by
  refine ⟨fun x => ?_, p.nd⟩
  rw [p.mem x]
  constructor
  · rintro ⟨j, hj, hn, hmj, hx⟩
    exact ⟨j, hj, fun e => hn (List.mem_filter.1 e).1, hmj, hx⟩
  · rintro ⟨j, hj, hn, hmj, hx⟩
    refine ⟨j, hj, fun e => hn (List.mem_filter.2 ⟨e, ?_⟩), hmj, hx⟩
    simp
    rintro rfl
    rw [hm] at hmj; cases hmj
theorem Pick.len {a b c : Int} {todo : List Int} {ys : List Rw} (h : Laid ks tr hk pl (· ∈ rows)) (p : Pick ks tr a b c todo ys) : ys.length ≤ rows.length := by
  have := nodup_le (ys := rows.map hd) p.nd (fun u hu => by
    obtain ⟨x, hx, rfl⟩ := List.mem_map.1 hu
    obtain ⟨j, hj, _, _, hxj⟩ := (p.mem x).1 hx
    exact List.mem_map.2 ⟨x, (h.mem x).2 ⟨j, hj, hxj⟩, rfl⟩)
  simpa using this
/-- All picked up and sorted. -/
theorem Pick.done {l : List (Int × Bool)} {a b c : Int} {ys zs : List Rw} (h : Laid ks tr hk pl (· ∈ rows)) (ok : WOk l rows) (p : Pick ks tr a b c [] ys) (hp : zs.Perm ys) (hs : zs.Pairwise (fun x y => ¬ y.s < x.s)) : zs = rows.filter (fun r => matchB r.m a b c) := by
  have hmem : ∀ x, x ∈ zs ↔ x ∈ rows.filter (fun r => matchB r.m a b c) := fun x => by
    rw [hp.mem_iff, p.mem x, List.mem_filter, h.mem x]
    constructor
    · rintro ⟨j, hj, _, hmj, hx⟩
      exact ⟨⟨j, hj, hx⟩, by rw [(h.row j hj x hx).1]; exact hmj⟩
    · rintro ⟨⟨j, hj, hx⟩, hm⟩
      exact ⟨j, hj, by simp, by rw [← (h.row j hj x hx).1]; exact hm, hx⟩
  refine sorted_ext ?_ (ok.up.filter _) hmem
  have hnd : (zs.map hd).Nodup := (hp.map hd).nodup_iff.2 p.nd
  rw [List.nodup_iff_pairwise_ne, List.pairwise_map] at hnd
  refine List.Pairwise.imp_of_mem ?_ (hs.and hnd)
  rintro x y hx hy ⟨h1, h2⟩
  have : x.s ≠ y.s := fun e => h2 (by
    have hx' := (List.mem_filter.1 ((hmem x).1 hx)).1
    have hy' := (List.mem_filter.1 ((hmem y).1 hy)).1
    rw [hd, hd, e, ok.inj hx' hy' e])
  omega
end
theorem matchB_zero (m : Int) : matchB m 0 0 0 = true := by
  have h0 : bits .and .i64 m 0 = 0 := by
    refine i64_ext (and_I64 _ _) ⟨by omega, by omega⟩ (fun k hk => ?_)
    rw [tb_and _ _ _ hk, tb_zero]; simp
  simp [matchB, h0]
theorem rowsQ_all (rows : List Rw) : rowsQ rows 0 0 0 = rows := by
  have : qErr 0 0 0 = 0 := by decide
  rw [rowsQ, if_pos this, List.filter_eq_self]
  exact fun r _ => matchB_zero r.m
end Go.Proofs.YtcmpaohefihijabGreatDoor

/- Operations and rows that came in. -/
namespace Go.Proofs.YtcmpaohefihijabGreatDoor
open Go.ChangeShapes Go.WideShapes Go.ChangeAt Go.RowKit Go.Deep

theorem row_dec {H : Type} {enc : TypeId × Value → H} {W : World} {base : Nat} {sp : Nat → Bool} {held : Bool} (fuel : Nat) (cs : List Value) (x) (hl : cs.length = elRow.size) (h : DataW.trod enc Tryz.prog W base sp held fuel 39 cs = some x) : ∃ y, cs = elRow.enc y := by
  obtain ⟨zs, rfl, _⟩ := ints_of_cells cs (flat_cells 5 39 fuel cs x (by kernel_rfl) h)
  have hl' : zs.length = 11 := by simpa [elRow] using hl
  match zs, hl' with
  | [a4, a5, a6, a7, a8, a9, a10, a11, a12, a13, a14], _ => exact ⟨⟨a4, a5, a6, fun j => [a7, a8, a9, a10, a11, a12, a13, a14].getD j 0⟩, rfl⟩
/-- An operation: what to do, a beast, two handles, a component, a value. -/
structure Opm where
  d : Int
  m : Int
  f : Nat → Int
  a : Int
  b : Int
  ta : Int
  tb : Int
  k : Int
  n : Int
def opZ : Opm := ⟨0, 0, fun _ => 0, 0, 0, 0, 0, 0, 0⟩
def elOp : El Opm := { enc := fun x => [.int .i64 x.d, .int .i64 x.m, .int .i64 (x.f 0), .int .i64 (x.f 1), .int .i64 (x.f 2), .int .i64 (x.f 3), .int .i64 (x.f 4), .int .i64 (x.f 5), .int .i64 (x.f 6), .int .i64 (x.f 7), .int .i64 x.a, .int .i64 x.b, .int .i64 x.ta, .int .i64 x.tb, .int .i64 x.k, .int .i64 x.n], size := 16, zero := opZ, len := fun _ => rfl, pos := by decide, one := fun x u hu => by simp at hu; rcases hu with rfl | rfl | rfl | rfl | rfl | rfl | rfl | rfl | rfl | rfl | rfl | rfl | rfl | rfl | rfl | rfl <;> rfl }
theorem opRow {X : World} {B O : Nat} {o : Opm} (h : ∀ j, j < 16 → X.cell? ⟨B, O + j, none⟩ = (elOp.enc o)[j]?) : X.cell? ⟨B, O, none⟩ = some (.int .i64 o.d) ∧ X.cell? ⟨B, O + 1, none⟩ = some (.int .i64 o.m) ∧ X.cell? ⟨B, O + 2, none⟩ = some (.int .i64 (o.f 0)) ∧ X.cell? ⟨B, O + 3, none⟩ = some (.int .i64 (o.f 1)) ∧ X.cell? ⟨B, O + 4, none⟩ = some (.int .i64 (o.f 2)) ∧ X.cell? ⟨B, O + 5, none⟩ = some (.int .i64 (o.f 3)) ∧ X.cell? ⟨B, O + 6, none⟩ = some (.int .i64 (o.f 4)) ∧ X.cell? ⟨B, O + 7, none⟩ = some (.int .i64 (o.f 5)) ∧ X.cell? ⟨B, O + 8, none⟩ = some (.int .i64 (o.f 6)) ∧ X.cell? ⟨B, O + 9, none⟩ = some (.int .i64 (o.f 7)) ∧ X.cell? ⟨B, O + 10, none⟩ = some (.int .i64 o.a) ∧ X.cell? ⟨B, O + 11, none⟩ = some (.int .i64 o.b) ∧ X.cell? ⟨B, O + 12, none⟩ = some (.int .i64 o.ta) ∧ X.cell? ⟨B, O + 13, none⟩ = some (.int .i64 o.tb) ∧ X.cell? ⟨B, O + 14, none⟩ = some (.int .i64 o.k) ∧ X.cell? ⟨B, O + 15, none⟩ = some (.int .i64 o.n) :=
  ⟨h 0 (by decide), h 1 (by decide), h 2 (by decide), h 3 (by decide), h 4 (by decide), h 5 (by decide), h 6 (by decide), h 7 (by decide), h 8 (by decide), h 9 (by decide), h 10 (by decide), h 11 (by decide), h 12 (by decide), h 13 (by decide), h 14 (by decide), h 15 (by decide)⟩
/-- its handles fit 64 bits -/
def OpOk (x : Opm) : Prop := I64 x.a ∧ I64 x.b ∧ I64 x.ta ∧ I64 x.tb
theorem op_dec {H : Type} {enc : TypeId × Value → H} {W : World} {base : Nat} {sp : Nat → Bool} {held : Bool} (fuel : Nat) (cs : List Value) (x) (hl : cs.length = elOp.size) (h : DataW.trod enc Tryz.prog W base sp held fuel 53 cs = some x) : ∃ y, cs = elOp.enc y ∧ OpOk y := by
  obtain ⟨zs, rfl, hz⟩ := ints_of_cells cs (flat_cells 5 53 fuel cs x (by kernel_rfl) h)
  have hl' : zs.length = 16 := by simpa [elOp] using hl
  match zs, hl', hz with
  | [a0, a1, a2, a3, a4, a5, a6, a7, a8, a9, a10, a11, a12, a13, a14, a15], _, hz => exact ⟨⟨a0, a1, fun j => [a2, a3, a4, a5, a6, a7, a8, a9].getD j 0, a10, a11, a12, a13, a14, a15⟩, rfl, hz a10 (by simp), hz a11 (by simp), hz a12 (by simp), hz a13 (by simp)⟩
end Go.Proofs.YtcmpaohefihijabGreatDoor

/- What operations make of a world: plain functions. -/
namespace Go.Proofs.YtcmpaohefihijabGreatDoor
open Go.RowKit

def stepL (l : List (Int × Bool)) (o : Opm) : List (Int × Bool) := if o.d = 1 then spawnL l o.m o.f else if o.d = 2 then freeL l o.a o.b else l
def stepR (l : List (Int × Bool)) (rows : List Rw) (o : Opm) : List Rw := if o.d = 1 then spawnR l rows o.m o.f else if o.d = 2 then killR rows o.a o.b else if o.d = 3 then putWR rows o.a o.b o.k o.n else if o.d = 4 then dropR rows o.a o.b o.k else rows
def stepW (s : List (Int × Bool) × List Rw) (o : Opm) : List (Int × Bool) × List Rw := (stepL s.1 o, stepR s.1 s.2 o)
def madeW (zs : List Opm) : List (Int × Bool) × List Rw := zs.foldl stepW ([], [])
theorem WOk.step {l : List (Int × Bool)} {rows : List Rw} (h : WOk l rows) (o : Opm) : WOk (stepL l o) (stepR l rows o) := by
  unfold stepL stepR
  by_cases h1 : o.d = 1
  · rw [if_pos h1, if_pos h1]; exact h.spawn _ _
  · rw [if_neg h1, if_neg h1]
    by_cases h2 : o.d = 2
    · rw [if_pos h2, if_pos h2]; exact h.kill _ _
    · rw [if_neg h2, if_neg h2]
      by_cases h3 : o.d = 3
      · rw [if_pos h3]; exact h.put _ _ _ _
      · rw [if_neg h3]
        by_cases h4 : o.d = 4
        · rw [if_pos h4]; exact h.drop _ _ _
        · rw [if_neg h4]; exact h
theorem madeW_snoc (zs : List Opm) (o : Opm) : madeW (zs ++ [o]) = stepW (madeW zs) o := by simp [madeW]
theorem WOk.made (zs : List Opm) : WOk (madeW zs).1 (madeW zs).2 := by
  have key : ∀ (zs : List Opm) (s : List (Int × Bool) × List Rw), WOk s.1 s.2 → WOk (zs.foldl stepW s).1 (zs.foldl stepW s).2 := by
    intro zs
    induction zs with
    | nil => intro s h; exact h
    | cons o zs ih => intro s h; exact ih _ (h.step o)
  exact key zs _ WOk.nil
theorem take_snocD {α : Type} (zs : List α) (t : Nat) (d : α) (h : t < zs.length) : zs.take (t + 1) = zs.take t ++ [zs.getD t d] := by
  rw [List.take_add_one, List.getElem?_eq_getElem h, List.getD_eq_getElem?_getD, List.getElem?_eq_getElem h]; rfl
theorem I64r_of {x : Int} (h : I64 x) : I64r x := h
end Go.Proofs.YtcmpaohefihijabGreatDoor

/- What Load of slots does, over plain lists: its errors and its result. -/
namespace Go.Proofs.YtcmpaohefihijabGreatDoor
open Go.RowKit

def okG (g : Int) : Bool := inB g 0 1000000
def mkL (gens live : List Int) : List (Int × Bool) := gens.zipIdx.map fun x => (x.1, decide ((x.2 : Int) ∈ live))
def zeroL (gens : List Int) : List (Int × Bool) := gens.map fun g => (g, false)
def lstE (gens : List Int) : Int := if gens.length ≤ 60 then if gens.all okG then 0 else 1 else 2
def enlE (gens live : List Int) : Int := if live.all (fun i => inB i 0 (gens.length - 1)) then if live.Nodup then if ((1000000 : Int), true) ∈ mkL gens live then 1 else 0 else 6 else 5
def ldE (gens live : List Int) : Int := if lstE gens = 0 then enlE gens live else lstE gens

theorem gensL_lenK (l : List (Int × Bool)) : (gensL l).length = l.length := by simp [gensL]
theorem mkL_len (gens live : List Int) : (mkL gens live).length = gens.length := by simp [mkL]
theorem mkL_at {gens live : List Int} {k : Nat} (h : k < gens.length) : (mkL gens live).getD k slotZ = (gens.getD k 0, decide ((k : Int) ∈ live)) := by
  simp [mkL, List.getD_eq_getElem?_getD, List.getElem?_eq_getElem h]
theorem mkL_nil (gens : List Int) : mkL gens [] = zeroL gens := by
  refine eqD (d := slotZ) (by simp [mkL_len, zeroL]) fun j hj => ?_
  rw [mkL_len] at hj
  rw [mkL_at hj]
  simp [zeroL, List.getD_eq_getElem?_getD, List.getElem?_eq_getElem hj]
theorem mkL_set {gens live : List Int} {i : Nat} (_ : i < gens.length) : (mkL gens live).set i (((mkL gens live).getD i slotZ).1, true) = mkL gens (live ++ [(i : Int)]) := by
  refine eqD (d := slotZ) (by simp [mkL_len]) fun j hj => ?_
  rw [List.length_set, mkL_len] at hj
  rw [mkL_at hj]
  by_cases e : i = j
  · subst e
    rw [getD_set_eq _ _ _ _ (by rw [mkL_len]; exact hj), mkL_at hj]
    simp
  · rw [getD_set_ne _ _ _ e, mkL_at hj]
    have : ¬ (j : Int) = (i : Int) := by omega
    simp [this]
theorem gensL_mkL (gens live : List Int) : gensL (mkL gens live) = gens := by
  refine eqD (d := 0) (by rw [gensL_lenK, mkL_len]) fun j hj => ?_
  rw [gensL_lenK, mkL_len] at hj
  have : (gensL (mkL gens live)).getD j 0 = ((mkL gens live).getD j slotZ).1 := by
    simp only [gensL, List.getD_eq_getElem?_getD, List.getElem?_map]
    cases (mkL gens live)[j]? <;> rfl
  rw [this, mkL_at hj]
theorem gensL_zeroL (gens : List Int) : gensL (zeroL gens) = gens := by simp [gensL, zeroL, Function.comp_def]
theorem zeroL_len (gens : List Int) : (zeroL gens).length = gens.length := by simp [zeroL]
theorem zeroL_at (gens : List Int) (k : Nat) : ((zeroL gens).getD k slotZ).1 = gens.getD k 0 := by
  simp only [zeroL, List.getD_eq_getElem?_getD, List.getElem?_map]
  cases gens[k]? <;> rfl

theorem lstE_large {g : List Int} (h : ¬ g.length ≤ 60) : lstE g = 2 := by rw [lstE, if_neg h]
theorem lstE_arg {g : List Int} (h : g.length ≤ 60) {k : Nat} (hk : k < g.length) (hb : okG (g.getD k 0) = false) : lstE g = 1 := by
  rw [lstE, if_pos h, if_neg]
  intro ha
  have := List.all_eq_true.1 ha _ (memD (d := 0) hk)
  rw [hb] at this; cases this
theorem all_getD {α : Type} {p : α → Bool} {l : List α} {d : α} (h : ∀ j, j < l.length → p (l.getD j d) = true) : l.all p = true := by
  rw [List.all_eq_true]; intro x hx
  obtain ⟨j, hj, rfl⟩ := List.getElem_of_mem hx
  have := h j hj
  rwa [List.getD_eq_getElem?_getD, List.getElem?_eq_getElem hj] at this
theorem lstE_ok {g : List Int} (h : g.length ≤ 60) (ha : ∀ j, j < g.length → okG (g.getD j 0) = true) : lstE g = 0 := by rw [lstE, if_pos h, if_pos (all_getD ha)]
theorem enlE_none {g l : List Int} {k : Nat} (hk : k < l.length) (hb : inB (l.getD k 0) 0 (g.length - 1) = false) : enlE g l = 5 := by
  rw [enlE, if_neg]
  intro ha
  have := List.all_eq_true.1 ha _ (memD (d := 0) hk)
  rw [hb] at this; cases this
theorem not_nodup_of {l : List Int} {k : Nat} (hk : k < l.length) (h : l.getD k 0 ∈ l.take k) : ¬ l.Nodup := fun hn => by
  obtain ⟨j, hj, e⟩ := List.getElem_of_mem h
  simp only [List.length_take] at hj
  rw [List.getElem_take, List.getD_eq_getElem?_getD, List.getElem?_eq_getElem hk] at e
  have := (List.getElem_inj (h₀ := by omega) (h₁ := hk) hn).1 e
  omega
theorem enlE_twice {g l : List Int} {k : Nat} (ha : ∀ j, j < l.length → inB (l.getD j 0) 0 (g.length - 1) = true) (hk : k < l.length) (h : l.getD k 0 ∈ l.take k) : enlE g l = 6 := by
  rw [enlE, if_pos (all_getD (p := fun i => inB i 0 (g.length - 1)) ha), if_neg (not_nodup_of hk h)]
theorem enlE_end {g l : List Int} (ha : ∀ j, j < l.length → inB (l.getD j 0) 0 (g.length - 1) = true) (hn : l.Nodup) {b : Bool} (h : decide (((1000000 : Int), true) ∈ mkL g l) = b) : enlE g l = if b then 1 else 0 := by
  subst h
  rw [enlE, if_pos (all_getD (p := fun i => inB i 0 (g.length - 1)) ha), if_pos hn]
  simp
theorem ldE_bad {g l : List Int} (h : lstE g ≠ 0) : ldE g l = lstE g := by rw [ldE, if_neg h]
theorem ldE_ok {g l : List Int} (h : lstE g = 0) : ldE g l = enlE g l := by rw [ldE, if_pos h]
/-- what is loaded is what slots are always like -/
theorem mkL_ok {g l : List Int} (h : ldE g l = 0) : SlotOk (mkL g l) := by
  have h1 : lstE g = 0 := Classical.byContradiction fun hn => by rw [ldE_bad hn] at h; exact hn h
  rw [ldE_ok h1] at h
  unfold lstE at h1
  split at h1
  · rename_i hl
    split at h1
    · rename_i ha
      unfold enlE at h
      split at h
      · split at h
        · split at h
          · cases h
          · rename_i hm
            have hg : ∀ k, k < g.length → 0 ≤ g.getD k 0 ∧ g.getD k 0 ≤ 1000000 := fun k hk => inB_t (List.all_eq_true.1 ha _ (memD hk))
            refine ⟨by rw [mkL_len]; exact hl, fun k hk => ?_, fun k hk hv => ?_⟩
            · rw [mkL_len] at hk; rw [mkL_at hk]; exact hg k hk
            · have hm2 : (mkL g l).getD k slotZ ∈ mkL g l := memD hk
              rw [mkL_len] at hk
              rw [mkL_at hk] at hv hm2 ⊢
              have := hg k hk
              simp only at hv ⊢
              rcases (show g.getD k 0 < 1000000 ∨ 1000000 ≤ g.getD k 0 by omega) with hlt | hge
              · exact hlt
              · have e : g.getD k 0 = 1000000 := by omega
                rw [hv, e] at hm2
                exact absurd hm2 hm
        · cases h
      · cases h
    · cases h1
  · cases h1
end Go.Proofs.YtcmpaohefihijabGreatDoor

/- What Load of a world does, over plain lists: its errors and its result. -/
namespace Go.Proofs.YtcmpaohefihijabGreatDoor
open Go.RowKit

def sloL (rs : List Rw) : List (Int × Bool) := rs.map fun r => (r.s, false)
def sNums (rs : List Rw) : List Int := rs.map fun r => r.s
theorem gensL_sloL (rs : List Rw) : gensL (sloL rs) = sNums rs := by simp [gensL, sloL, sNums, Function.comp_def]
theorem sloL_len (rs : List Rw) : (sloL rs).length = rs.length := by simp [sloL]
theorem sNums_len (rs : List Rw) : (sNums rs).length = rs.length := by simp [sNums]
theorem sloL_at {rs : List Rw} {k : Nat} (h : k < rs.length) : ((sloL rs).getD k slotZ).1 = (rs.getD k rowZ).s := by
  simp [sloL, List.getD_eq_getElem?_getD, List.getElem?_eq_getElem h]
def goodR (l : List (Int × Bool)) (r : Rw) : Prop := liveB l r.s r.g = true ∧ bErr r.m [r.f 0, r.f 1, r.f 2, r.f 3, r.f 4, r.f 5, r.f 6, r.f 7] = 0
def rowsE (l : List (Int × Bool)) : List Rw → Int
  | [] => 0
  | r :: rs => if liveB l r.s r.g then (if bErr r.m [r.f 0, r.f 1, r.f 2, r.f 3, r.f 4, r.f 5, r.f 6, r.f 7] = 0 then rowsE l rs else bErr r.m [r.f 0, r.f 1, r.f 2, r.f 3, r.f 4, r.f 5, r.f 6, r.f 7]) else 7
def wldE (gens : List Int) (rs : List Rw) : Int := if rs.length ≤ 60 then (if ldE gens (sNums rs) = 0 then rowsE (mkL gens (sNums rs)) rs else ldE gens (sNums rs)) else 2
theorem rowsE_skip {l : List (Int × Bool)} : ∀ {xs ys : List Rw}, (∀ x ∈ xs, goodR l x) → rowsE l (xs ++ ys) = rowsE l ys
  | [], _, _ => rfl
  | x :: xs, ys, h => by
    have hx := h x (by simp)
    rw [List.cons_append, rowsE, hx.1, if_pos rfl, if_pos hx.2]
    exact rowsE_skip (fun y hy => h y (by simp [hy]))
theorem split_at {rs : List Rw} {t : Nat} {r : Rw} (ht : t < rs.length) (hr : rs.getD t rowZ = r) : rs = rs.take t ++ r :: rs.drop (t + 1) := by
  have hrt : rs[t] = r := by rw [← hr, List.getD_eq_getElem?_getD, List.getElem?_eq_getElem ht]; rfl
  rw [← hrt, List.getElem_cons_drop, List.take_append_drop]
theorem rowsE_dead {l : List (Int × Bool)} {rs : List Rw} {t : Nat} {r : Rw} (hg : ∀ x ∈ rs.take t, goodR l x) (ht : t < rs.length) (hr : rs.getD t rowZ = r) (h : liveB l r.s r.g = false) : rowsE l rs = 7 := by
  rw [split_at ht hr, rowsE_skip hg, rowsE, h]; rfl
theorem rowsE_bad {l : List (Int × Bool)} {rs : List Rw} {t : Nat} {r : Rw} (hg : ∀ x ∈ rs.take t, goodR l x) (ht : t < rs.length) (hr : rs.getD t rowZ = r) (h : liveB l r.s r.g = true) (hb : bErr r.m [r.f 0, r.f 1, r.f 2, r.f 3, r.f 4, r.f 5, r.f 6, r.f 7] ≠ 0) : rowsE l rs = bErr r.m [r.f 0, r.f 1, r.f 2, r.f 3, r.f 4, r.f 5, r.f 6, r.f 7] := by
  rw [split_at ht hr, rowsE_skip hg, rowsE, h, if_pos rfl, if_neg hb]
theorem rowsE_ok {l : List (Int × Bool)} {rs : List Rw} (hg : ∀ x ∈ rs, goodR l x) : rowsE l rs = 0 := by
  have := rowsE_skip (ys := []) hg
  rw [List.append_nil] at this; exact this
theorem good_next {l : List (Int × Bool)} {rs : List Rw} {t : Nat} {r : Rw} (hg : ∀ x ∈ rs.take t, goodR l x) (ht : t < rs.length) (hr : rs.getD t rowZ = r) (h : goodR l r) : (∀ x ∈ rs.take (t + 1), goodR l x) ∧ ∀ x, x ∈ rs.take (t + 1) ↔ x = r ∨ x ∈ rs.take t := by
  have e : rs.take (t + 1) = rs.take t ++ [r] := by rw [List.take_add_one, List.getElem?_eq_getElem ht, ← hr, List.getD_eq_getElem?_getD, List.getElem?_eq_getElem ht]; rfl
  have hm : ∀ x, x ∈ rs.take (t + 1) ↔ x = r ∨ x ∈ rs.take t := fun x => by rw [e, List.mem_append, List.mem_singleton]; exact Or.comm
  exact ⟨fun x hx => by rcases (hm x).1 hx with rfl | hx; · exact h
                        · exact hg x hx, hm⟩
theorem ldE_zero {gens live : List Int} (h : ldE gens live = 0) : live.Nodup := by
  have h1 : lstE gens = 0 := Classical.byContradiction fun hn => by rw [ldE_bad hn] at h; exact hn h
  rw [ldE_ok h1] at h
  unfold enlE at h
  split at h
  · split at h
    · assumption
    · cases h
  · cases h
theorem new_handle {rs : List Rw} {t : Nat} {r : Rw} (hn : (sNums rs).Nodup) (ht : t < rs.length) (hr : rs.getD t rowZ = r) : ∀ x ∈ rs.take t, x.s ≠ r.s := fun x hx e => by
  rw [split_at ht hr, sNums, List.map_append, List.map_cons, List.nodup_append] at hn
  exact hn.2.2 x.s (List.mem_map.2 ⟨x, hx, rfl⟩) r.s (by simp) e
theorem live_I64 {l : List (Int × Bool)} (ok : SlotOk l) {a b : Int} (h : liveB l a b = true) : I64r a ∧ I64r b := by
  obtain ⟨h0, h1, h2⟩ := liveB_iff.1 h
  have hl := ok.len
  have hg := ok.gen a.toNat (by omega)
  rw [h2] at hg
  simp only at hg
  exact ⟨⟨by omega, by omega⟩, ⟨by omega, by omega⟩⟩

/-- A world's own rows, loaded again. -/
theorem mkL_rows {l : List (Int × Bool)} {rows : List Rw} (h : WOk l rows) : mkL (gensL l) (sNums rows) = l := by
  refine eqD (d := slotZ) (by rw [mkL_len, gensL_lenK]) fun k hk => ?_
  rw [mkL_len] at hk
  rw [mkL_at hk, gensL_atR]
  rw [gensL_lenK] at hk
  refine Prod.ext rfl ?_
  show decide ((k : Int) ∈ sNums rows) = (l.getD k slotZ).2
  cases hf : (l.getD k slotZ).2
  · rw [decide_eq_false_iff_not]
    intro hm
    obtain ⟨r, hr, e⟩ := List.mem_map.1 hm
    have := (liveB_iff.1 (h.live r hr)).2.2
    rw [e, Int.toNat_natCast] at this
    rw [this] at hf; cases hf
  · rw [decide_eq_true_eq]
    obtain ⟨r, hr, e1, -⟩ := h.all (k : Int) (l.getD k slotZ).1 (liveB_iff.2 ⟨by omega, by omega, by rw [Int.toNat_natCast]; exact Prod.ext rfl hf⟩)
    exact List.mem_map.2 ⟨r, hr, e1⟩
theorem wldE_rows {l : List (Int × Bool)} {rows : List Rw} (h : WOk l rows) : ldE (gensL l) (sNums rows) = 0 ∧ wldE (gensL l) rows = 0 := by
  have hld : ldE (gensL l) (sNums rows) = 0 := by
    rw [ldE_ok (lstE_ok (by rw [gensL_lenK]; exact h.slots.len) (fun j hj => by
      rw [gensL_lenK] at hj
      rw [gensL_atR]
      have := h.slots.gen j hj
      generalize (l.getD j slotZ).1 = x at *
      simp [okG, inB]; omega))]
    rw [enlE_end (b := false) (fun j hj => by
      rw [sNums_len] at hj
      have hmem : rows.getD j rowZ ∈ rows := mem_getD hj
      have := (liveB_iff.1 (h.live _ hmem))
      rw [show (sNums rows).getD j 0 = (rows.getD j rowZ).s from getD_map _ _ _ rowZ _ hj, gensL_lenK]
      generalize (rows.getD j rowZ).s = x at *
      simp [inB]; omega) (by
      rw [sNums, List.nodup_iff_pairwise_ne, List.pairwise_map]
      exact h.up.imp (fun h => by omega)) (by
      rw [mkL_rows h, decide_eq_false_iff_not]
      intro hm
      obtain ⟨k, hk, e⟩ := List.getElem_of_mem hm
      have hg : l.getD k slotZ = (1000000, true) := by rw [List.getD_eq_getElem?_getD, List.getElem?_eq_getElem hk]; exact e
      have := h.slots.live k hk (by rw [hg])
      rw [hg] at this
      simp at this)]
    rfl
  refine ⟨hld, ?_⟩
  rw [wldE, if_pos h.len60, if_pos hld, mkL_rows h]
  exact rowsE_ok (fun x hx => ⟨h.live x hx, h.ok x hx⟩)
end Go.Proofs.YtcmpaohefihijabGreatDoor

/- Rows put in the order of their slots, as the reference's WorldLoad does: plain lists. -/
namespace Go.Proofs.YtcmpaohefihijabGreatDoor
open Go.RowKit

def atSlot (rs : List Rw) (k : Nat) : List Rw := rs.filter (fun r => r.s == (k : Int))
def sortR (n : Nat) (rs : List Rw) : List Rw := (List.range n).flatMap (atSlot rs)
theorem sortR_succ (n : Nat) (rs : List Rw) : sortR (n + 1) rs = sortR n rs ++ atSlot rs n := by simp [sortR, List.range_succ, List.flatMap_append]
theorem mem_atSlot {rs : List Rw} {k : Nat} {x : Rw} : x ∈ atSlot rs k ↔ x ∈ rs ∧ x.s = (k : Int) := by simp [atSlot, List.mem_filter]
theorem mem_sortR {n : Nat} {rs : List Rw} {x : Rw} : x ∈ sortR n rs ↔ x ∈ rs ∧ 0 ≤ x.s ∧ x.s < (n : Int) := by
  unfold sortR
  rw [List.mem_flatMap]
  constructor
  · rintro ⟨k, hk, hx⟩
    rw [List.mem_range] at hk
    obtain ⟨h1, h2⟩ := mem_atSlot.1 hx
    exact ⟨h1, by omega, by omega⟩
  · rintro ⟨h1, h2, h3⟩
    exact ⟨x.s.toNat, by rw [List.mem_range]; omega, mem_atSlot.2 ⟨h1, by omega⟩⟩
theorem atSlot_up {rs : List Rw} (h : (sNums rs).Nodup) (k : Nat) : (atSlot rs k).Pairwise (fun x y => x.s < y.s) := by
  have hp : rs.Pairwise (fun x y => x.s ≠ y.s) := by rwa [sNums, List.nodup_iff_pairwise_ne, List.pairwise_map] at h
  refine List.Pairwise.imp_of_mem ?_ (hp.filter _)
  intro x y hx hy hne
  have h1 := (mem_atSlot (rs := rs) (k := k)).1 hx
  have h2 := (mem_atSlot (rs := rs) (k := k)).1 hy
  exact absurd (h1.2.trans h2.2.symm) hne
theorem sortR_up {rs : List Rw} (h : (sNums rs).Nodup) : ∀ n, (sortR n rs).Pairwise (fun x y => x.s < y.s)
  | 0 => by simp [sortR]
  | n + 1 => by
    rw [sortR_succ, List.pairwise_append]
    refine ⟨sortR_up h n, atSlot_up h n, fun x hx y hy => ?_⟩
    have h1 := (mem_sortR.1 hx).2.2
    have h2 := (mem_atSlot.1 hy).2
    omega
theorem rowsE_zero {l : List (Int × Bool)} : ∀ {rs : List Rw}, rowsE l rs = 0 → ∀ x ∈ rs, goodR l x
  | [], _ => fun x hx => by cases hx
  | r :: rs, h => fun x hx => by
    rw [rowsE] at h
    cases hl : liveB l r.s r.g
    · rw [hl] at h; simp at h
    · rw [hl, if_pos rfl] at h
      by_cases hb : bErr r.m [r.f 0, r.f 1, r.f 2, r.f 3, r.f 4, r.f 5, r.f 6, r.f 7] = 0
      · rw [if_pos hb] at h
        rcases List.mem_cons.1 hx with rfl | hx
        · exact ⟨hl, hb⟩
        · exact rowsE_zero h x hx
      · rw [if_neg hb] at h; exact absurd h hb
/-- What is loaded is a world as they can be. -/
theorem WOk.load {gens : List Int} {rs : List Rw} (h : wldE gens rs = 0) : WOk (mkL gens (sNums rs)) (sortR gens.length rs) ∧ ∀ x, x ∈ sortR gens.length rs ↔ x ∈ rs := by
  unfold wldE at h
  split at h
  · split at h
    · rename_i hl
      have hg := rowsE_zero h
      have hin : ∀ x ∈ rs, 0 ≤ x.s ∧ x.s < (gens.length : Int) := fun x hx => by
        have := liveB_iff.1 (hg x hx).1
        rw [mkL_len] at this
        exact ⟨this.1, this.2.1⟩
      have hm : ∀ x, x ∈ sortR gens.length rs ↔ x ∈ rs := fun x => by
        rw [mem_sortR]
        exact ⟨fun h => h.1, fun h => ⟨h, hin x h⟩⟩
      refine ⟨⟨mkL_ok hl, sortR_up (ldE_zero hl) _, fun r hr => (hg r ((hm r).1 hr)).1, fun a b hab => ?_, fun r hr => (hg r ((hm r).1 hr)).2⟩, hm⟩
      obtain ⟨h0, h1, h2⟩ := liveB_iff.1 hab
      rw [mkL_len] at h1
      obtain ⟨k, rfl⟩ := Int.eq_ofNat_of_zero_le h0
      rw [Int.toNat_natCast, mkL_at (by omega)] at h2
      simp only [Prod.mk.injEq, decide_eq_true_eq] at h2
      obtain ⟨r, hr, e⟩ := List.mem_map.1 h2.2
      refine ⟨r, (hm r).2 hr, e, ?_⟩
      have := (liveB_iff.1 (hg r hr).1).2.2
      rw [e, Int.toNat_natCast, mkL_at (by omega)] at this
      rw [← h2.1]
      exact (Prod.mk.inj this).1.symm
    · rename_i hl; exact absurd h hl
  · cases h
end Go.Proofs.YtcmpaohefihijabGreatDoor

/- Slots that are loaded from their own generations and live numbers are as they were. -/
namespace Go.Proofs.YtcmpaohefihijabGreatDoor
open Go.RowKit

def liveNums (l : List (Int × Bool)) : List Int := (allL l).map (·.1)
theorem allTo_lt (l : List (Int × Bool)) : ∀ k, ∀ x ∈ allTo l k, 0 ≤ x.1 ∧ x.1 < (k : Int)
  | 0, x, hx => by simp [allTo] at hx
  | k + 1, x, hx => by
    rw [allTo] at hx
    split at hx
    · rw [List.mem_append] at hx
      rcases hx with hx | hx
      · have := allTo_lt l k x hx; omega
      · simp at hx; subst hx; simp; omega
    · have := allTo_lt l k x hx; omega
theorem allTo_nodup (l : List (Int × Bool)) : ∀ k, ((allTo l k).map (·.1)).Nodup
  | 0 => by simp [allTo]
  | k + 1 => by
    rw [allTo]
    split
    · rw [List.map_append]
      refine nodup_snoc (allTo_nodup l k) (fun h => ?_)
      obtain ⟨x, hx, e⟩ := List.mem_map.1 h
      have := allTo_lt l k x hx
      simp only at e; omega
    · exact allTo_nodup l k
theorem mem_liveNums {l : List (Int × Bool)} {k : Nat} (hk : k < l.length) : (k : Int) ∈ liveNums l ↔ (l.getD k slotZ).2 = true := by
  rw [liveNums, List.mem_map]
  constructor
  · rintro ⟨⟨a, b⟩, hx, e⟩
    simp only at e; subst e
    have := (liveB_iff.1 (mem_allL.1 hx)).2.2
    rw [Int.toNat_natCast] at this; rw [this]
  · intro h
    exact ⟨((k : Int), (l.getD k slotZ).1), mem_allL.2 (liveB_iff.2 ⟨by omega, by omega, by rw [Int.toNat_natCast]; exact Prod.ext rfl h⟩), rfl⟩
theorem mkL_self (l : List (Int × Bool)) : mkL (gensL l) (liveNums l) = l := by
  refine eqD (d := slotZ) (by rw [mkL_len, gensL_lenK]) fun j hj => ?_
  rw [mkL_len] at hj
  rw [mkL_at hj]
  rw [gensL_lenK] at hj
  have e1 : (gensL l).getD j 0 = (l.getD j slotZ).1 := by
    simp only [gensL, List.getD_eq_getElem?_getD, List.getElem?_map]
    cases l[j]? <;> rfl
  refine Prod.ext e1 ?_
  simp only
  rw [Bool.eq_iff_iff, decide_eq_true_iff, mem_liveNums hj]
theorem ldE_self {l : List (Int × Bool)} (ok : SlotOk l) : ldE (gensL l) (liveNums l) = 0 := by
  have h1 : lstE (gensL l) = 0 := lstE_ok (by rw [gensL_lenK]; exact ok.len) (fun j hj => by
    rw [gensL_lenK] at hj
    have e1 : (gensL l).getD j 0 = (l.getD j slotZ).1 := by
      simp only [gensL, List.getD_eq_getElem?_getD, List.getElem?_map]
      cases l[j]? <;> rfl
    rw [e1]; have := ok.gen j hj; generalize (l.getD j slotZ).1 = q at *; simp [okG, inB]; omega)
  rw [ldE_ok h1]
  have hnd : (liveNums l).Nodup := allTo_nodup l _
  refine (enlE_end (b := false) (fun j hj => ?_) hnd (decide_eq_false (fun h => ?_))).trans rfl
  · have hm : (liveNums l).getD j 0 ∈ liveNums l := memD hj
    obtain ⟨x, hx, e⟩ := List.mem_map.1 hm
    have := allTo_lt l _ x hx
    rw [← e, gensL_lenK]; simp [inB]; omega
  · rw [mkL_self] at h
    obtain ⟨k, hk, e⟩ := List.getElem_of_mem h
    have e' : l.getD k slotZ = (1000000, true) := by rw [List.getD_eq_getElem?_getD, List.getElem?_eq_getElem hk]; exact e
    have := ok.live k hk (by rw [e'])
    rw [e'] at this
    exact absurd this (by decide)
end Go.Proofs.YtcmpaohefihijabGreatDoor

/- Bonds of children and parents as a plain list in the order of children: who is under whom, no loops, what each call leaves. -/
namespace Go.Proofs.YtcmpaohefihijabGreatDoor

abbrev Hd := Int × Int
abbrev Bd := Hd × Hd
/-- Handles are ordered by slot, then by generation. -/
def hlt (a b : Hd) : Prop := a.1 < b.1 ∨ (a.1 = b.1 ∧ a.2 < b.2)
instance (a b : Hd) : Decidable (hlt a b) := by unfold hlt; exact inferInstance
theorem hlt_irrefl (a : Hd) : ¬ hlt a a := by unfold hlt; omega
theorem hlt_trans {a b c : Hd} (h : hlt a b) (k : hlt b c) : hlt a c := by unfold hlt at *; omega
theorem hlt_tri (a b : Hd) : hlt a b ∨ a = b ∨ hlt b a := by
  unfold hlt
  by_cases h1 : a.1 = b.1
  · by_cases h2 : a.2 = b.2
    · exact .inr (.inl (Prod.ext h1 h2))
    · omega
  · omega
abbrev SortedB (bs : List Bd) : Prop := bs.Pairwise (fun x y => hlt x.1 y.1)

theorem SortedB.filter {bs : List Bd} (h : SortedB bs) (q : Bd → Bool) : SortedB (bs.filter q) := List.Pairwise.filter q h
theorem SortedB.fn {bs : List Bd} (h : SortedB bs) {c p q : Hd} (h1 : (c, p) ∈ bs) (h2 : (c, q) ∈ bs) : p = q := by
  induction bs with
  | nil => simp at h1
  | cons b bs ih =>
    obtain ⟨hb, hs⟩ := List.pairwise_cons.1 h
    rcases List.mem_cons.1 h1 with e1 | m1 <;> rcases List.mem_cons.1 h2 with e2 | m2
    · rw [← e1] at e2; exact (Prod.ext_iff.1 e2).2.symm
    · have := hb _ m2; rw [← e1] at this; exact absurd this (hlt_irrefl _)
    · have := hb _ m1; rw [← e2] at this; exact absurd this (hlt_irrefl _)
    · exact ih hs m1 m2
theorem SortedB.keys {bs : List Bd} (h : SortedB bs) : (bs.map (·.1)).Nodup := by
  unfold List.Nodup
  rw [List.pairwise_map]
  exact List.Pairwise.imp (fun {a b} hab e => by rw [e] at hab; exact hlt_irrefl _ hab) h
theorem SortedB.nodup {bs : List Bd} (h : SortedB bs) : bs.Nodup :=
  List.Pairwise.imp (fun {a b} hab e => by rw [e] at hab; exact hlt_irrefl _ hab) h
/-- Two lists in order with the same members are one. -/
theorem SortedB.ext : ∀ {xs ys : List Bd}, SortedB xs → SortedB ys → (∀ b, b ∈ xs ↔ b ∈ ys) → xs = ys
  | [], [], _, _, _ => rfl
  | [], y :: ys, _, _, h => by have := (h y).2 (by simp); simp at this
  | x :: xs, [], _, _, h => by have := (h x).1 (by simp); simp at this
  | x :: xs, y :: ys, hx, hy, h => by
    obtain ⟨hx1, hx2⟩ := List.pairwise_cons.1 hx
    obtain ⟨hy1, hy2⟩ := List.pairwise_cons.1 hy
    have e : x = y := by
      rcases List.mem_cons.1 ((h x).1 (by simp)) with e | m
      · exact e
      · rcases List.mem_cons.1 ((h y).2 (by simp)) with e' | m'
        · exact e'.symm
        · exact absurd (hlt_trans (hx1 _ m') (hy1 _ m)) (hlt_irrefl _)
    subst e
    rw [SortedB.ext hx2 hy2 (fun b => ?_)]
    refine ⟨fun hb => ?_, fun hb => ?_⟩
    · rcases List.mem_cons.1 ((h b).1 (List.mem_cons_of_mem _ hb)) with e | m
      · subst e; exact absurd (hx1 _ hb) (hlt_irrefl _)
      · exact m
    · rcases List.mem_cons.1 ((h b).2 (List.mem_cons_of_mem _ hb)) with e | m
      · subst e; exact absurd (hy1 _ hb) (hlt_irrefl _)
      · exact m
theorem SortedB.ofPerm {xs : List Bd} (hn : (xs.map (·.1)).Nodup) (hs : xs.Pairwise (fun x y => ¬ hlt y.1 x.1)) : SortedB xs := by
  unfold List.Nodup at hn
  rw [List.pairwise_map] at hn
  exact (hn.and hs).imp (fun {a b} hab => by
    rcases hlt_tri a.1 b.1 with h | h | h
    · exact h
    · exact absurd h hab.1
    · exact absurd h hab.2)

/-- A bond put in its place. -/
def insB : List Bd → Bd → List Bd
  | [], x => [x]
  | y :: bs, x => if hlt y.1 x.1 then y :: insB bs x else x :: y :: bs
theorem mem_insB {b x : Bd} : ∀ {bs : List Bd}, b ∈ insB bs x ↔ b = x ∨ b ∈ bs
  | [] => by simp [insB]
  | y :: bs => by
    unfold insB
    split
    · simp only [List.mem_cons, mem_insB (bs := bs)]
      constructor
      · rintro (h | h | h) <;> simp [h]
      · rintro (h | h | h) <;> simp [h]
    · simp
theorem insB_sorted {x : Bd} : ∀ {bs : List Bd}, SortedB bs → (∀ b ∈ bs, b.1 ≠ x.1) → SortedB (insB bs x)
  | [], _, _ => by simp [insB, SortedB]
  | y :: bs, h, hne => by
    obtain ⟨h1, h2⟩ := List.pairwise_cons.1 h
    unfold insB
    split
    · rename_i hy
      refine List.pairwise_cons.2 ⟨fun b hb => ?_, insB_sorted h2 (fun b hb => hne b (List.mem_cons_of_mem _ hb))⟩
      rcases mem_insB.1 hb with rfl | hb
      · exact hy
      · exact h1 b hb
    · rename_i hy
      have hxy : hlt x.1 y.1 := by
        rcases hlt_tri y.1 x.1 with h' | h' | h'
        · exact absurd h' hy
        · exact absurd h' (hne y (by simp))
        · exact h'
      refine List.pairwise_cons.2 ⟨fun b hb => ?_, h⟩
      rcases List.mem_cons.1 hb with rfl | hb
      · exact hxy
      · exact hlt_trans hxy (h1 b hb)
theorem insB_len {x : Bd} : ∀ {bs : List Bd}, (insB bs x).length = bs.length + 1
  | [] => rfl
  | y :: bs => by unfold insB; split <;> simp [insB_len]
theorem insB_at : ∀ {bs : List Bd} {x : Bd} {t : Nat}, t ≤ bs.length → (∀ j, j < t → hlt (bs.getD j ((0, 0), (0, 0))).1 x.1) → (t < bs.length → ¬ hlt (bs.getD t ((0, 0), (0, 0))).1 x.1) → insB bs x = bs.take t ++ x :: bs.drop t
  | [], x, t, ht, _, _ => by simp at ht; simp [insB]
  | y :: bs, x, 0, _, _, h2 => by
    have := h2 (by simp)
    simp at this
    simp [insB, this]
  | y :: bs, x, t + 1, ht, h1, h2 => by
    have hy := h1 0 (by omega)
    simp at hy
    have ih := insB_at (bs := bs) (x := x) (t := t) (by simpa using ht) (fun j hj => by simpa using h1 (j + 1) (by omega)) (fun h => by simpa using h2 (by simpa using h))
    have ei : insB (y :: bs) x = y :: insB bs x := by simp [insB, hy]
    rw [ei, ih]; simp

/-- x is under h. -/
inductive Und (bs : List Bd) : Hd → Hd → Prop where
  | base {x h : Hd} : (x, h) ∈ bs → Und bs x h
  | step {x y h : Hd} : (x, y) ∈ bs → Und bs y h → Und bs x h
theorem Und.mono {bs0 bs : List Bd} (hs : ∀ b ∈ bs0, b ∈ bs) {x h : Hd} (u : Und bs0 x h) : Und bs x h := by
  induction u with
  | base h => exact .base (hs _ h)
  | step h _ ih => exact .step (hs _ h) ih
theorem Und.trans {bs : List Bd} {x y z : Hd} (u : Und bs x y) (v : Und bs y z) : Und bs x z := by
  induction u with
  | base h => exact .step h v
  | step h _ ih => exact .step h (ih v)
/-- From above: a child of h, or under a child of h. -/
theorem Und.top {bs : List Bd} {x h : Hd} (u : Und bs x h) : ∃ c, (c, h) ∈ bs ∧ (x = c ∨ Und bs x c) := by
  induction u with
  | base h => exact ⟨_, h, .inl rfl⟩
  | step h _ ih =>
    obtain ⟨c, hc, e | e⟩ := ih
    · exact ⟨c, hc, .inr (.base (e ▸ h))⟩
    · exact ⟨c, hc, .inr (.step h e)⟩
theorem Und.line {bs : List Bd} (hs : SortedB bs) {x a b : Hd} (u : Und bs x a) (v : Und bs x b) : a = b ∨ Und bs a b ∨ Und bs b a := by
  induction u with
  | base h =>
    cases v with
    | base h' => exact .inl (hs.fn h h')
    | step h' v' => rw [← hs.fn h h'] at v'; exact .inr (.inl v')
  | step h u ih =>
    cases v with
    | base h' => rw [hs.fn h' h]; exact .inr (.inr u)
    | step h' v' => rw [hs.fn h' h] at v'; exact ih v'

/-- No loops: a depth that grows from child to parent, up to a bound. -/
structure AcyBy (bs : List Bd) (d : Hd → Nat) (M : Nat) : Prop where
  up : ∀ b ∈ bs, d b.1 < d b.2
  le : ∀ b ∈ bs, d b.2 ≤ M
def Acy (bs : List Bd) : Prop := ∃ d M, AcyBy bs d M
theorem AcyBy.und {bs : List Bd} {d : Hd → Nat} {M : Nat} (h : AcyBy bs d M) {x y : Hd} (u : Und bs x y) : d x < d y := by
  induction u with
  | base hb => exact h.up _ hb
  | step hb _ ih => exact Nat.lt_trans (h.up _ hb) ih
theorem Acy.sub {bs0 bs : List Bd} (h : Acy bs) (hs : ∀ b ∈ bs0, b ∈ bs) : Acy bs0 := by
  obtain ⟨d, M, h⟩ := h
  exact ⟨d, M, fun b hb => h.up b (hs b hb), fun b hb => h.le b (hs b hb)⟩
theorem Acy.irrefl {bs : List Bd} (h : Acy bs) (x : Hd) : ¬ Und bs x x := fun u => by
  obtain ⟨d, M, h⟩ := h
  exact Nat.lt_irrefl _ (h.und u)
theorem Acy.nil : Acy [] := ⟨fun _ => 0, 0, by simp, by simp⟩

/-- Adopt of child c by parent p would close a loop. -/
def Loops (bs : List Bd) (c p : Hd) : Prop := c = p ∨ Und bs p c
open Classical in
theorem Acy.adopt {bs bs0 : List Bd} (h : Acy bs) {c p : Hd} (hl : ¬ Loops bs c p) (hs : ∀ b ∈ bs0, b = (c, p) ∨ (b ∈ bs ∧ b.1 ≠ c)) : Acy bs0 := by
  obtain ⟨d, M, h⟩ := h
  refine ⟨fun x => if x = p ∨ Und bs p x then d x + d c + 1 else d x, M + d c + d p + 1, fun b hb => ?_, fun b hb => ?_⟩
  · rcases hs b hb with rfl | ⟨hm, hne⟩
    · have hc : ¬ (c = p ∨ Und bs p c) := hl
      simp only [if_neg hc, true_or, if_true]
      omega
    · have hu := h.up b hm
      by_cases h2 : b.2 = p ∨ Und bs p b.2
      · simp only [if_pos h2]
        split <;> omega
      · have h1 : ¬ (b.1 = p ∨ Und bs p b.1) := fun h1 => h2 (h1.elim (fun e => .inr (.base (by rw [← e]; exact hm))) (fun u => .inr (u.trans (.base hm))))
        simp only [if_neg h2, if_neg h1]
        exact hu
  · rcases hs b hb with rfl | ⟨hm, hne⟩
    · simp only [true_or, if_true]
      omega
    · have hu := h.le b hm
      split <;> omega

/-- The children of h, in order; all that are under h, n generations deep. -/
def kids (bs : List Bd) (h : Hd) : List Hd := (bs.filter (fun b => decide (b.2 = h))).map (·.1)
def unf (bs : List Bd) : Nat → Hd → List Hd
  | 0, _ => []
  | n + 1, h => (kids bs h).flatMap (fun c => c :: unf bs n c)
theorem mem_kids {bs : List Bd} {h c : Hd} : c ∈ kids bs h ↔ (c, h) ∈ bs := by
  unfold kids
  simp only [List.mem_map, List.mem_filter, decide_eq_true_eq]
  constructor
  · rintro ⟨⟨x, y⟩, ⟨hb, rfl⟩, rfl⟩; exact hb
  · intro hb; exact ⟨(c, h), ⟨hb, rfl⟩, rfl⟩
theorem kids_nodup {bs : List Bd} (hs : SortedB bs) (h : Hd) : (kids bs h).Nodup := (hs.filter _).keys
theorem AcyBy.unf_eq {bs : List Bd} {d : Hd → Nat} {M : Nat} (h : AcyBy bs d M) : ∀ (n m : Nat) (x : Hd), d x ≤ n → d x ≤ m → unf bs n x = unf bs m x := by
  intro n
  induction n with
  | zero =>
    intro m x hn hm
    have hk : kids bs x = [] := List.eq_nil_iff_forall_not_mem.2 fun c hc => by have := h.up _ (mem_kids.1 hc); simp at this; omega
    cases m with
    | zero => rfl
    | succ m => simp [unf, hk]
  | succ n ih =>
    intro m x hn hm
    have go : ∀ (m : Nat), d x ≤ m + 1 → unf bs (n + 1) x = unf bs (m + 1) x := fun m hm => by
      unfold unf
      rw [List.flatMap_def, List.flatMap_def]
      congr 1
      refine List.map_congr_left fun c hc => ?_
      have hu := h.up _ (mem_kids.1 hc)
      simp only at hu
      rw [ih m c (by omega) (by omega)]
    cases m with
    | zero =>
      have hk : kids bs x = [] := List.eq_nil_iff_forall_not_mem.2 fun c hc => by have := h.up _ (mem_kids.1 hc); simp at this; omega
      simp [unf, hk]
    | succ m => exact go m hm
/-- All that are under h, each child followed by those under it. -/
def under (bs : List Bd) (M : Nat) (h : Hd) : List Hd := unf bs (M + 1) h
theorem AcyBy.kid {bs : List Bd} {d : Hd → Nat} {M : Nat} (h : AcyBy bs d M) {c x : Hd} (hc : c ∈ kids bs x) : d c < d x ∧ d x ≤ M := ⟨h.up _ (mem_kids.1 hc), h.le _ (mem_kids.1 hc)⟩
theorem AcyBy.under_eq {bs : List Bd} {d : Hd → Nat} {M : Nat} (h : AcyBy bs d M) (x : Hd) : under bs M x = (kids bs x).flatMap (fun c => c :: under bs M c) := by
  show unf bs (M + 1) x = _
  rw [unf, List.flatMap_def, List.flatMap_def]
  congr 1
  refine List.map_congr_left fun c hc => ?_
  have := h.kid hc
  show c :: unf bs M c = c :: unf bs (M + 1) c
  rw [h.unf_eq M (M + 1) c (by omega) (by omega)]
theorem AcyBy.mem_under {bs : List Bd} {d : Hd → Nat} {M : Nat} (h : AcyBy bs d M) : ∀ (n : Nat) (x y : Hd), d y ≤ n → (x ∈ under bs M y ↔ Und bs x y) := by
  intro n
  induction n with
  | zero =>
    intro x y hy
    rw [h.under_eq]
    refine ⟨fun hx => ?_, fun u => ?_⟩
    · obtain ⟨c, hc, _⟩ := List.mem_flatMap.1 hx
      have := h.kid hc; omega
    · have := h.und u; omega
  | succ n ih =>
    intro x y hy
    rw [h.under_eq]
    refine ⟨fun hx => ?_, fun u => ?_⟩
    · obtain ⟨c, hc, hx⟩ := List.mem_flatMap.1 hx
      have hk := h.kid hc
      rcases List.mem_cons.1 hx with rfl | hx
      · exact .base (mem_kids.1 hc)
      · exact ((ih x c (by omega)).1 hx).trans (.base (mem_kids.1 hc))
    · obtain ⟨c, hc, e⟩ := u.top
      have hk := h.kid (mem_kids.2 hc)
      refine List.mem_flatMap.2 ⟨c, mem_kids.2 hc, List.mem_cons.2 (e.imp id fun u => (ih x c (by omega)).2 u)⟩
theorem AcyBy.in_under {bs : List Bd} {d : Hd → Nat} {M : Nat} (h : AcyBy bs d M) {x y : Hd} : x ∈ under bs M y ↔ Und bs x y := h.mem_under _ x y (Nat.le_refl _)
theorem nodup_flatMap' {α β : Type} {f : α → List β} : ∀ {l : List α}, l.Nodup → (∀ a ∈ l, (f a).Nodup) → (∀ a ∈ l, ∀ b ∈ l, a ≠ b → ∀ x ∈ f a, x ∉ f b) → (l.flatMap f).Nodup
  | [], _, _, _ => by simp
  | a :: l, hn, h1, h2 => by
    obtain ⟨ha, hl⟩ := List.nodup_cons.1 hn
    rw [List.flatMap_cons, List.nodup_append]
    refine ⟨h1 a (by simp), nodup_flatMap' hl (fun b hb => h1 b (by simp [hb])) (fun x hx y hy => h2 x (by simp [hx]) y (by simp [hy])), fun x hx y hy e => ?_⟩
    obtain ⟨b, hb, hy⟩ := List.mem_flatMap.1 hy
    exact h2 a (by simp) b (by simp [hb]) (fun e => ha (e ▸ hb)) x hx (e ▸ hy)
theorem AcyBy.under_nodup {bs : List Bd} {d : Hd → Nat} {M : Nat} (h : AcyBy bs d M) (hs : SortedB bs) : ∀ (n : Nat) (y : Hd), d y ≤ n → (under bs M y).Nodup := by
  intro n
  induction n with
  | zero =>
    intro y hy
    have hk : kids bs y = [] := List.eq_nil_iff_forall_not_mem.2 fun c hc => by have := h.kid hc; omega
    rw [h.under_eq, hk]; simp
  | succ n ih =>
    intro y hy
    rw [h.under_eq]
    refine nodup_flatMap' (kids_nodup hs y) (fun c hc => ?_) (fun a ha b hb hne x hxa hxb => ?_)
    · have hk := h.kid hc
      refine List.nodup_cons.2 ⟨fun hm => ?_, ih c (by omega)⟩
      exact Nat.lt_irrefl _ (h.und (h.in_under.1 hm))
    · have ka := h.kid ha
      have kb := h.kid hb
      have up : ∀ {c z : Hd}, c ∈ kids bs y → Und bs c z → d y ≤ d z := fun {c z} hc u => by
        cases u with
        | base hb' => rw [hs.fn (mem_kids.1 hc) hb']; exact Nat.le_refl _
        | step hb' u' => rw [← hs.fn (mem_kids.1 hc) hb'] at u'; exact Nat.le_of_lt (h.und u')
      have ua : x = a ∨ Und bs x a := (List.mem_cons.1 hxa).imp id h.in_under.1
      have ub : x = b ∨ Und bs x b := (List.mem_cons.1 hxb).imp id h.in_under.1
      have key : a = b ∨ Und bs a b ∨ Und bs b a := by
        rcases ua with rfl | ua <;> rcases ub with rfl | ub
        · exact .inl rfl
        · exact .inr (.inl ub)
        · exact .inr (.inr ua)
        · exact ua.line hs ub
      rcases key with e | u | u
      · exact hne e
      · have := up ha u; omega
      · have := up hb u; omega
theorem nodup_sub_len {α : Type} [BEq α] [LawfulBEq α] : ∀ {xs ys : List α}, xs.Nodup → (∀ x ∈ xs, x ∈ ys) → xs.length ≤ ys.length
  | [], ys, _, _ => by simp
  | x :: xs, ys, hn, hs => by
    obtain ⟨h1, h2⟩ := List.nodup_cons.1 hn
    have hx := hs x (by simp)
    have := nodup_sub_len (ys := ys.erase x) h2 (fun y hy => by
      have hne : y ≠ x := fun e => h1 (e ▸ hy)
      exact (List.mem_erase_of_ne hne).2 (hs y (by simp [hy])))
    rw [List.length_erase_of_mem hx] at this
    have : 0 < ys.length := List.length_pos_of_mem hx
    simp; omega
theorem AcyBy.under_len {bs : List Bd} {d : Hd → Nat} {M : Nat} (h : AcyBy bs d M) (hs : SortedB bs) (y : Hd) : (under bs M y).length ≤ bs.length := by
  have := nodup_sub_len (ys := bs.map (·.1)) (h.under_nodup hs _ y (Nat.le_refl _)) (fun x hx => by
    cases h.in_under.1 hx with
    | base hb => exact List.mem_map.2 ⟨_, hb, rfl⟩
    | step hb _ => exact List.mem_map.2 ⟨_, hb, rfl⟩)
  simpa using this
/-- All above x, from its parent on. -/
def IsAnc (bs : List Bd) : Hd → List Hd → Prop
  | x, [] => ∀ p, (x, p) ∉ bs
  | x, p :: r => (x, p) ∈ bs ∧ IsAnc bs p r
theorem AcyBy.anc {bs : List Bd} {d : Hd → Nat} {M : Nat} (h : AcyBy bs d M) : ∀ (n : Nat) (x : Hd), M - d x ≤ n → ∃ A, IsAnc bs x A := by
  intro n
  induction n with
  | zero =>
    intro x hx
    refine ⟨[], fun p hp => ?_⟩
    have := h.up _ hp; have := h.le _ hp; simp at *; omega
  | succ n ih =>
    intro x hx
    by_cases hp : ∃ p, (x, p) ∈ bs
    · obtain ⟨p, hp⟩ := hp
      have h1 := h.up _ hp
      have h2 := h.le _ hp
      simp only at h1 h2
      obtain ⟨A, hA⟩ := ih p (by omega)
      exact ⟨p :: A, hp, hA⟩
    · exact ⟨[], fun p h => hp ⟨p, h⟩⟩
theorem IsAnc.mem {bs : List Bd} (hs : SortedB bs) : ∀ {A : List Hd} {x y : Hd}, IsAnc bs x A → (y ∈ A ↔ Und bs x y)
  | [], x, y, h => by
    simp only [List.not_mem_nil, false_iff]
    intro u
    cases u with
    | base hb => exact h _ hb
    | step hb _ => exact h _ hb
  | p :: r, x, y, ⟨h1, h2⟩ => by
    rw [List.mem_cons, h2.mem hs]
    constructor
    · rintro (rfl | u)
      · exact .base h1
      · exact .step h1 u
    · intro u
      cases u with
      | base hb => exact .inl (hs.fn hb h1)
      | step hb u => rw [hs.fn hb h1] at u; exact .inr u

/-- What the calls leave. -/
def rmB (bs : List Bd) (c : Hd) : List Bd := bs.filter (fun b => !decide (b.1 = c))
def goneB (bs : List Bd) (h : Hd) : List Bd := bs.filter (fun b => !(decide (b.1 = h) || decide (b.2 = h)))
open Classical in
noncomputable def adoptB (bs : List Bd) (c p : Hd) : List Bd := if Loops bs c p then bs else insB (rmB bs c) (c, p)
open Classical in
noncomputable def adoptE (bs : List Bd) (c p : Hd) : Int := if Loops bs c p then 8 else 0
def hasP (bs : List Bd) (c : Hd) : Bool := bs.any (fun b => decide (b.1 = c))
def parB (bs : List Bd) (c : Hd) : Hd := ((bs.find? (fun b => decide (b.1 = c))).map (·.2)).getD (0, 0)
theorem mem_rmB {bs : List Bd} {c : Hd} {b : Bd} : b ∈ rmB bs c ↔ b ∈ bs ∧ b.1 ≠ c := by unfold rmB; rw [List.mem_filter]; simp
theorem mem_goneB {bs : List Bd} {h : Hd} {b : Bd} : b ∈ goneB bs h ↔ b ∈ bs ∧ b.1 ≠ h ∧ b.2 ≠ h := by unfold goneB; rw [List.mem_filter]; simp
theorem adoptB_yes {bs : List Bd} {c p : Hd} (h : Loops bs c p) : adoptB bs c p = bs ∧ adoptE bs c p = 8 := by unfold adoptB adoptE; rw [if_pos h, if_pos h]; exact ⟨rfl, rfl⟩
theorem adoptB_no {bs : List Bd} {c p : Hd} (h : ¬ Loops bs c p) : adoptB bs c p = insB (rmB bs c) (c, p) ∧ adoptE bs c p = 0 := by unfold adoptB adoptE; rw [if_neg h, if_neg h]; exact ⟨rfl, rfl⟩
theorem mem_adoptB {bs : List Bd} {c p : Hd} (h : ¬ Loops bs c p) {b : Bd} : b ∈ adoptB bs c p ↔ b = (c, p) ∨ (b ∈ bs ∧ b.1 ≠ c) := by rw [(adoptB_no h).1, mem_insB, mem_rmB]
theorem hasP_iff {bs : List Bd} {c : Hd} : hasP bs c = true ↔ ∃ p, (c, p) ∈ bs := by
  unfold hasP
  rw [List.any_eq_true]
  constructor
  · rintro ⟨⟨x, y⟩, hb, e⟩; obtain rfl := of_decide_eq_true e; exact ⟨y, hb⟩
  · rintro ⟨p, hp⟩; exact ⟨(c, p), hp, decide_eq_true rfl⟩
theorem hasP_no {bs : List Bd} {c : Hd} (h : ∀ p, (c, p) ∉ bs) : hasP bs c = false := by
  cases e : hasP bs c
  · rfl
  · obtain ⟨p, hp⟩ := hasP_iff.1 e; exact absurd hp (h p)
theorem hasP_some {bs : List Bd} {c : Hd} (h : hasP bs c = true) : (c, parB bs c) ∈ bs := by
  unfold hasP at h
  unfold parB
  cases e : bs.find? (fun b => decide (b.1 = c)) with
  | none =>
    rw [List.find?_eq_none] at e
    obtain ⟨b, hb, hc⟩ := List.any_eq_true.1 h
    exact absurd hc (e b hb)
  | some b =>
    have h1 := List.find?_some e
    have h2 := List.mem_of_find?_eq_some e
    obtain rfl := of_decide_eq_true h1
    exact h2
theorem hasP_none {bs : List Bd} {c : Hd} (h : hasP bs c = false) : parB bs c = (0, 0) ∧ ∀ p, (c, p) ∉ bs := by
  have hn : ∀ p, (c, p) ∉ bs := fun p hp => by rw [hasP_iff.2 ⟨p, hp⟩] at h; cases h
  refine ⟨?_, hn⟩
  unfold parB
  cases e : bs.find? (fun b => decide (b.1 = c)) with
  | none => rfl
  | some b =>
    have h1 := List.find?_some e
    obtain rfl := of_decide_eq_true h1
    exact absurd (List.mem_of_find?_eq_some e) (hn b.2)
theorem parB_of {bs : List Bd} (hs : SortedB bs) {c p : Hd} (h : (c, p) ∈ bs) : hasP bs c = true ∧ parB bs c = p := by
  have h1 := hasP_iff.2 ⟨p, h⟩
  exact ⟨h1, hs.fn (hasP_some h1) h⟩

/-- what Loosen returns -/
def looseE (bs : List Bd) (c : Hd) : Int := if hasP bs c then 0 else 5
theorem rmB_none {bs : List Bd} {c : Hd} (h : hasP bs c = false) : rmB bs c = bs := by
  unfold rmB
  rw [List.filter_eq_self]
  intro b hb
  rw [Bool.not_eq_true', decide_eq_false_iff_not]
  intro e
  exact (hasP_none h).2 b.2 (by rw [← e]; exact hb)
def okH (h : Hd) : Prop := I64r h.1 ∧ I64r h.2
/-- What every family keeps to. -/
structure FOk (bs : List Bd) : Prop where
  sorted : SortedB bs
  acy : Acy bs
  ok : ∀ b ∈ bs, okH b.1 ∧ okH b.2
theorem FOk.nil : FOk [] := ⟨by simp [SortedB], Acy.nil, by simp⟩
theorem FOk.filter {bs : List Bd} (h : FOk bs) (q : Bd → Bool) : FOk (bs.filter q) := ⟨h.sorted.filter q, h.acy.sub (fun _ hb => (List.mem_filter.1 hb).1), fun b hb => h.ok b (List.mem_filter.1 hb).1⟩
theorem FOk.rm {bs : List Bd} (h : FOk bs) (c : Hd) : FOk (rmB bs c) := h.filter _
theorem FOk.gone {bs : List Bd} (h : FOk bs) (c : Hd) : FOk (goneB bs c) := h.filter _
theorem FOk.adopt {bs : List Bd} (h : FOk bs) {c p : Hd} (hc : okH c) (hp : okH p) : FOk (adoptB bs c p) := by
  by_cases hl : Loops bs c p
  · rw [(adoptB_yes hl).1]; exact h
  · have hm := fun b => mem_adoptB (b := b) hl
    refine ⟨?_, h.acy.adopt hl (fun b hb => (hm b).1 hb), fun b hb => ?_⟩
    · rw [(adoptB_no hl).1]
      exact insB_sorted (h.rm c).sorted (fun _ hb => (mem_rmB.1 hb).2)
    · rcases (hm b).1 hb with rfl | ⟨hb, _⟩
      · exact ⟨hc, hp⟩
      · exact h.ok b hb
theorem rmB_len (bs : List Bd) (c : Hd) : (rmB bs c).length ≤ bs.length := List.length_filter_le _ _
theorem goneB_len (bs : List Bd) (c : Hd) : (goneB bs c).length ≤ bs.length := List.length_filter_le _ _
theorem adoptB_len (bs : List Bd) (c p : Hd) : (adoptB bs c p).length ≤ bs.length + 1 := by
  by_cases hl : Loops bs c p
  · rw [(adoptB_yes hl).1]; omega
  · rw [(adoptB_no hl).1, insB_len]; have := rmB_len bs c; omega
theorem IsAnc.len {bs : List Bd} (hs : SortedB bs) (ha : Acy bs) {A : List Hd} {x : Hd} (h : IsAnc bs x A) : A.length ≤ bs.length := by
  obtain ⟨d, M, ha⟩ := ha
  have hn : ∀ {A : List Hd} {x : Hd}, IsAnc bs x A → A.Nodup := by
    intro A
    induction A with
    | nil => intro x _; simp
    | cons p r ih =>
      rintro x ⟨h1, h2⟩
      refine List.nodup_cons.2 ⟨fun hm => ?_, ih h2⟩
      exact Nat.lt_irrefl _ (ha.und ((h2.mem hs).1 hm))
  have hs' : ∀ {A : List Hd} {x : Hd}, IsAnc bs x A → ∀ y ∈ A, y ∈ bs.map (·.2) := by
    intro A
    induction A with
    | nil => intro x _ y hy; simp at hy
    | cons p r ih =>
      rintro x ⟨h1, h2⟩ y hy
      rcases List.mem_cons.1 hy with rfl | hy
      · exact List.mem_map.2 ⟨_, h1, rfl⟩
      · exact ih h2 y hy
  have := nodup_sub_len (hn h) (hs' h)
  simpa using this
theorem FOk.anc {bs : List Bd} (h : FOk bs) (x : Hd) : ∃ A, IsAnc bs x A ∧ A.length ≤ bs.length ∧ ∀ y, y ∈ A ↔ Und bs x y := by
  obtain ⟨d, M, ha⟩ := h.acy
  obtain ⟨A, hA⟩ := ha.anc _ x (Nat.le_refl _)
  exact ⟨A, hA, hA.len h.sorted ⟨d, M, ha⟩, fun y => hA.mem h.sorted⟩
end Go.Proofs.YtcmpaohefihijabGreatDoor

/- A zoo as plain lists, its slots, rows and bonds: what each operation answers and leaves. -/
namespace Go.Proofs.YtcmpaohefihijabGreatDoor
open Go.RowKit

structure Zs where
  l : List (Int × Bool)
  rows : List Rw
  bs : List Bd
def hdR (r : Rw) : Hd := (r.s, r.g)
def liveH (l : List (Int × Bool)) (h : Hd) : Bool := liveB l h.1 h.2
/-- Slots, rows and bonds, as they can be. -/
structure ZOk (s : Zs) : Prop where
  w : WOk s.l s.rows
  f : FOk s.bs
  lv : ∀ b ∈ s.bs, liveH s.l b.1 = true ∧ liveH s.l b.2 = true
theorem ZOk.nil : ZOk ⟨[], [], []⟩ := ⟨WOk.nil, FOk.nil, by simp⟩
theorem ZOk.okH {s : Zs} (h : ZOk s) {x : Hd} (hl : liveH s.l x = true) : okH x := live_I64 h.w.slots hl
theorem ZOk.row {s : Zs} (h : ZOk s) {x : Hd} (hl : liveH s.l x = true) : x ∈ s.rows.map hdR := by
  obtain ⟨r, hr, e1, e2⟩ := h.w.all x.1 x.2 hl
  exact List.mem_map.2 ⟨r, hr, Prod.ext e1 e2⟩
theorem ZOk.len {s : Zs} (h : ZOk s) : s.bs.length ≤ 60 := by
  have := nodup_sub_len (ys := s.rows.map hdR) h.f.sorted.keys (fun x hx => by
    obtain ⟨b, hb, rfl⟩ := List.mem_map.1 hx
    exact h.row (h.lv b hb).1)
  rw [List.length_map, List.length_map] at this
  exact Nat.le_trans this h.w.len60
theorem ZOk.has {s : Zs} (h : ZOk s) (x : Hd) : hasH s.rows x.1 x.2 = liveH s.l x := h.w.has x.1 x.2

/-- one is killed and gone; all of a list, one by one; all of a set, at once -/
def kill1 (s : Zs) (h : Hd) : Zs := ⟨freeL s.l h.1 h.2, killR s.rows h.1 h.2, goneB s.bs h⟩
def killN (s : Zs) (K : List Hd) : Zs := K.foldl kill1 s
open Classical in
noncomputable def freeS (l : List (Int × Bool)) (P : Hd → Prop) : List (Int × Bool) := l.zipIdx.map (fun x => if x.1.2 = true ∧ P ((x.2 : Int), x.1.1) then (x.1.1 + 1, false) else x.1)
open Classical in
noncomputable def killS (s : Zs) (P : Hd → Prop) : Zs := ⟨freeS s.l P, s.rows.filter (fun r => !decide (P (hdR r))), s.bs.filter (fun b => !(decide (P b.1) || decide (P b.2)))⟩
theorem freeS_len (l : List (Int × Bool)) (P : Hd → Prop) : (freeS l P).length = l.length := by simp [freeS]
open Classical in
theorem freeS_at {l : List (Int × Bool)} {P : Hd → Prop} {k : Nat} (h : k < l.length) : (freeS l P).getD k slotZ = if (l.getD k slotZ).2 = true ∧ P ((k : Int), (l.getD k slotZ).1) then ((l.getD k slotZ).1 + 1, false) else l.getD k slotZ := by
  simp [freeS, List.getD_eq_getElem?_getD, List.getElem?_eq_getElem h]
theorem freeS_none (l : List (Int × Bool)) : freeS l (fun _ => False) = l := by
  refine eqD (d := slotZ) (freeS_len _ _) fun k hk => ?_
  rw [freeS_len] at hk
  rw [freeS_at hk, if_neg (fun h => h.2)]
theorem live_freeS {l : List (Int × Bool)} {P : Hd → Prop} (x : Hd) : liveH (freeS l P) x = true ↔ liveH l x = true ∧ ¬ P x := by
  unfold liveH
  rw [liveB_iff, liveB_iff, freeS_len]
  constructor
  · rintro ⟨h0, h1, h2⟩
    rw [freeS_at (by omega)] at h2
    split at h2
    · exact absurd (congrArg Prod.snd h2) (by simp)
    · rename_i hn
      refine ⟨⟨h0, h1, h2⟩, fun hp => hn ?_⟩
      rw [h2]
      refine ⟨rfl, ?_⟩
      rw [Int.toNat_of_nonneg h0]; exact hp
  · rintro ⟨⟨h0, h1, h2⟩, hp⟩
    refine ⟨h0, h1, ?_⟩
    rw [freeS_at (by omega), if_neg, h2]
    rw [h2, Int.toNat_of_nonneg h0]
    exact fun h => hp h.2
theorem freeL_freeS (l : List (Int × Bool)) (P : Hd → Prop) (h : Hd) : freeL (freeS l P) h.1 h.2 = freeS l (fun x => P x ∨ x = h) := by
  refine eqD (d := slotZ) ?_ fun k hk => ?_
  · unfold freeL; split <;> simp [freeS_len]
  · have hk' : k < l.length := by
      unfold freeL at hk
      split at hk
      · rwa [List.length_set, freeS_len] at hk
      · rwa [freeS_len] at hk
    rw [freeS_at hk']
    cases hl : liveB (freeS l P) h.1 h.2
    · have hf : freeL (freeS l P) h.1 h.2 = freeS l P := by rw [freeL, hl]; rfl
      rw [hf, freeS_at hk']
      by_cases hc : (l.getD k slotZ).2 = true ∧ P ((k : Int), (l.getD k slotZ).1)
      · rw [if_pos hc, if_pos ⟨hc.1, .inl hc.2⟩]
      · rw [if_neg hc, if_neg]
        rintro ⟨h1, h2 | h2⟩
        · exact hc ⟨h1, h2⟩
        · have : liveH (freeS l P) h = true := by
            rw [live_freeS]
            refine ⟨?_, fun hp => hc ⟨h1, by rw [h2]; exact hp⟩⟩
            rw [← h2]
            unfold liveH
            rw [liveB_iff]
            refine ⟨Int.natCast_nonneg k, by show (k : Int) < _; omega, ?_⟩
            simp only [Int.toNat_natCast]
            exact Prod.ext rfl h1
          unfold liveH at this
          rw [hl] at this; cases this
    · obtain ⟨h0, h1, h2⟩ := liveB_iff.1 hl
      have hlive : liveH (freeS l P) h = true := hl
      rw [live_freeS] at hlive
      have hl0 := (liveB_iff.1 hlive.1).2.2
      have hf : freeL (freeS l P) h.1 h.2 = (freeS l P).set h.1.toNat (h.2 + 1, false) := by rw [freeL, hl]; rfl
      rw [hf]
      by_cases e : h.1.toNat = k
      · subst e
        rw [getD_set_eq _ _ _ _ (by rw [freeS_len]; exact hk'), hl0, if_pos]
        exact ⟨rfl, .inr (by rw [Int.toNat_of_nonneg h0])⟩
      · rw [getD_set_ne _ _ _ e, freeS_at hk']
        have hne : ((k : Int), (l.getD k slotZ).1) ≠ h := fun e2 => e (by rw [← e2]; simp)
        by_cases hc : (l.getD k slotZ).2 = true ∧ P ((k : Int), (l.getD k slotZ).1)
        · rw [if_pos hc, if_pos ⟨hc.1, .inl hc.2⟩]
        · rw [if_neg hc, if_neg]
          rintro ⟨g1, g2 | g2⟩
          · exact hc ⟨g1, g2⟩
          · exact hne g2
theorem kill1_killS (s : Zs) (P : Hd → Prop) (h : Hd) : kill1 (killS s P) h = killS s (fun x => P x ∨ x = h) := by
  unfold kill1 killS
  simp only [freeL_freeS, Zs.mk.injEq, true_and]
  refine ⟨?_, ?_⟩
  · unfold killR
    rw [List.filter_filter]
    refine List.filter_congr fun r _ => ?_
    have : isH h.1 h.2 r = decide (hdR r = h) := by
      rw [Bool.eq_iff_iff, isH_iff, decide_eq_true_eq]
      exact ⟨fun e => Prod.ext e.1 e.2, fun e => by rw [← e]; exact ⟨rfl, rfl⟩⟩
    rw [this]
    by_cases h1 : P (hdR r) <;> by_cases h2 : hdR r = h <;> simp [h1, h2]
  · unfold goneB
    rw [List.filter_filter]
    refine List.filter_congr fun b _ => ?_
    by_cases h1 : P b.1 <;> by_cases h2 : P b.2 <;> by_cases h3 : b.1 = h <;> by_cases h4 : b.2 = h <;> simp [h1, h2, h3, h4]
theorem killS_none (s : Zs) : killS s (fun _ => False) = s := by
  have ht : ∀ {α : Type} (xs : List α), xs.filter (fun _ => true) = xs := fun xs => List.filter_eq_self.2 (by simp)
  unfold killS
  simp [freeS_none, ht]
theorem killS_congr (s : Zs) {P Q : Hd → Prop} (h : ∀ x, P x ↔ Q x) : killS s P = killS s Q := by
  have : P = Q := funext fun x => propext (h x)
  rw [this]
/-- Whatever the order, one by one is all at once. -/
theorem killN_killS (s : Zs) (K : List Hd) : killN s K = killS s (· ∈ K) := by
  have key : ∀ (K : List Hd) (P : Hd → Prop), K.foldl kill1 (killS s P) = killS s (fun x => P x ∨ x ∈ K) := by
    intro K
    induction K with
    | nil => intro P; exact killS_congr s (fun x => by simp)
    | cons h K ih =>
      intro P
      rw [List.foldl_cons, kill1_killS, ih]
      exact killS_congr s (fun x => by rw [List.mem_cons, or_assoc])
  have := key K (fun _ => False)
  rw [killS_none] at this
  rw [killN, this]
  exact killS_congr s (fun x => by simp)
theorem ZOk.kill1 {s : Zs} (h : ZOk s) (x : Hd) : ZOk (kill1 s x) := by
  refine ⟨h.w.kill x.1 x.2, h.f.gone x, fun b hb => ?_⟩
  obtain ⟨hb, h1, h2⟩ := mem_goneB.1 hb
  have key : ∀ y : Hd, y ≠ x → liveH s.l y = true → liveH (freeL s.l x.1 x.2) y = true := fun y hne hl => by
    have := freeL_freeS s.l (fun _ => False) x
    rw [freeS_none] at this
    rw [this, live_freeS]
    exact ⟨hl, fun h => h.elim id hne⟩
  exact ⟨key _ h1 (h.lv b hb).1, key _ h2 (h.lv b hb).2⟩
theorem ZOk.killN {s : Zs} (h : ZOk s) : ∀ K : List Hd, ZOk (killN s K) := by
  have key : ∀ (K : List Hd) (s : Zs), ZOk s → ZOk (K.foldl Go.Proofs.YtcmpaohefihijabGreatDoor.kill1 s) := by
    intro K
    induction K with
    | nil => intro s h; exact h
    | cons x K ih => intro s h; exact ih _ (h.kill1 x)
  exact fun K => key K s h
/-- Kill: a beast and all that are under it. -/
noncomputable def killZ (s : Zs) (h : Hd) : Zs := killS s (fun x => x = h ∨ Und s.bs x h)
theorem killN_killZ {s : Zs} {h : Hd} {K : List Hd} (hK : ∀ x, x ∈ K ↔ x = h ∨ Und s.bs x h) : killN s K = killZ s h := by
  rw [killN_killS, killZ]; exact killS_congr s hK
theorem ZOk.killZ {s : Zs} (h : ZOk s) (x : Hd) : ZOk (killZ s x) := by
  obtain ⟨d, M, ha⟩ := h.f.acy
  rw [← killN_killZ (K := under s.bs M x ++ [x]) (fun y => by rw [List.mem_append, ha.in_under, List.mem_singleton]; exact Or.comm)]
  exact h.killN _

/-- what an operation answers and leaves -/
noncomputable def doE (s : Zs) (o : Opm) : Int :=
  if o.d = 1 then spawnE s.l o.m o.f
  else if o.d = 2 then (if liveH s.l (o.a, o.b) then 0 else 7)
  else if o.d = 3 then putWE s.rows o.a o.b o.k o.n
  else if o.d = 4 then dropE s.rows o.a o.b o.k
  else if o.d = 5 then (if liveH s.l (o.a, o.b) && liveH s.l (o.ta, o.tb) then adoptE s.bs (o.a, o.b) (o.ta, o.tb) else 7)
  else if o.d = 6 then (if liveH s.l (o.a, o.b) then looseE s.bs (o.a, o.b) else 7)
  else 1
def doH (s : Zs) (o : Opm) : Hd := if o.d = 1 then spawnH s.l o.m o.f else (0, 0)
noncomputable def doZ (s : Zs) (o : Opm) : Zs :=
  if o.d = 1 then ⟨spawnL s.l o.m o.f, spawnR s.l s.rows o.m o.f, s.bs⟩
  else if o.d = 2 then (if liveH s.l (o.a, o.b) then killZ s (o.a, o.b) else s)
  else if o.d = 3 then ⟨s.l, putWR s.rows o.a o.b o.k o.n, s.bs⟩
  else if o.d = 4 then ⟨s.l, dropR s.rows o.a o.b o.k, s.bs⟩
  else if o.d = 5 then (if liveH s.l (o.a, o.b) && liveH s.l (o.ta, o.tb) then ⟨s.l, s.rows, adoptB s.bs (o.a, o.b) (o.ta, o.tb)⟩ else s)
  else if o.d = 6 then (if liveH s.l (o.a, o.b) then ⟨s.l, s.rows, rmB s.bs (o.a, o.b)⟩ else s)
  else s
theorem takeL_full {l : List (Int × Bool)} (he : takeE l ≠ 0) : takeL l = l := by
  unfold takeE at he
  unfold takeL
  split
  · rename_i h1; rw [if_pos h1] at he; exact absurd rfl he
  · rename_i h1
    rw [if_neg h1] at he
    split
    · rename_i h2; rw [if_pos h2] at he; exact absurd rfl he
    · rfl
theorem spawnL_live {l : List (Int × Bool)} {m : Int} {f : Nat → Int} {x : Hd} (h : liveH l x = true) : liveH (spawnL l m f) x = true := by
  unfold spawnL
  split
  · by_cases he : takeE l = 0
    · exact (liveB_take he x.1 x.2).2 (.inr h)
    · rw [takeL_full he]; exact h
  · exact h
theorem ZOk.step {s : Zs} (h : ZOk s) (o : Opm) : ZOk (doZ s o) := by
  unfold doZ
  by_cases h1 : o.d = 1
  · rw [if_pos h1]
    exact ⟨h.w.spawn _ _, h.f, fun b hb => ⟨spawnL_live (h.lv b hb).1, spawnL_live (h.lv b hb).2⟩⟩
  · rw [if_neg h1]
    by_cases h2 : o.d = 2
    · rw [if_pos h2]
      split
      · exact h.killZ _
      · exact h
    · rw [if_neg h2]
      by_cases h3 : o.d = 3
      · rw [if_pos h3]; exact ⟨h.w.put _ _ _ _, h.f, h.lv⟩
      · rw [if_neg h3]
        by_cases h4 : o.d = 4
        · rw [if_pos h4]; exact ⟨h.w.drop _ _ _, h.f, h.lv⟩
        · rw [if_neg h4]
          by_cases h5 : o.d = 5
          · rw [if_pos h5]
            split
            · rename_i hl
              rw [Bool.and_eq_true] at hl
              refine ⟨h.w, h.f.adopt (h.okH hl.1) (h.okH hl.2), fun b hb => ?_⟩
              by_cases hlo : Loops s.bs (o.a, o.b) (o.ta, o.tb)
              · rw [(adoptB_yes hlo).1] at hb; exact h.lv b hb
              · rcases (mem_adoptB hlo).1 hb with rfl | hb
                · exact hl
                · exact h.lv b hb.1
            · exact h
          · rw [if_neg h5]
            by_cases h6 : o.d = 6
            · rw [if_pos h6]
              split
              · exact ⟨h.w, h.f.rm _, fun b hb => h.lv b (mem_rmB.1 hb).1⟩
              · exact h
            · rw [if_neg h6]; exact h
/-- What is refused changes nothing. -/
theorem doZ_err {s : Zs} {o : Opm} (he : doE s o ≠ 0) : doZ s o = s ∧ doH s o = (0, 0) := by
  unfold doE at he
  unfold doZ doH
  by_cases h1 : o.d = 1
  · rw [if_pos h1] at he
    rw [if_pos h1, if_pos h1]
    unfold spawnE at he
    unfold spawnL spawnH spawnR spawnE
    by_cases hb : bErr o.m [o.f 0, o.f 1, o.f 2, o.f 3, o.f 4, o.f 5, o.f 6, o.f 7] = 0
    · rw [if_pos hb] at he
      rw [if_pos hb, if_pos hb, if_pos hb, if_neg he, takeL_full he]
      refine ⟨rfl, ?_⟩
      unfold takeE at he
      unfold takeH
      split
      · rename_i h2; rw [if_pos h2] at he; exact absurd rfl he
      · rename_i h2
        rw [if_neg h2] at he
        split
        · rename_i h3; rw [if_pos h3] at he; exact absurd rfl he
        · rfl
    · rw [if_neg hb, if_neg hb, if_neg hb, if_neg hb]
      exact ⟨rfl, rfl⟩
  · rw [if_neg h1] at he
    rw [if_neg h1, if_neg h1]
    refine ⟨?_, rfl⟩
    by_cases h2 : o.d = 2
    · rw [if_pos h2] at he ⊢
      split
      · rename_i hl; rw [if_pos hl] at he; exact absurd rfl he
      · rfl
    · rw [if_neg h2] at he ⊢
      by_cases h3 : o.d = 3
      · rw [if_pos h3] at he ⊢
        rw [putWR, if_neg he]
      · rw [if_neg h3] at he ⊢
        by_cases h4 : o.d = 4
        · rw [if_pos h4] at he ⊢
          rw [dropR, if_neg he]
        · rw [if_neg h4] at he ⊢
          by_cases h5 : o.d = 5
          · rw [if_pos h5] at he ⊢
            split
            · rename_i hl
              rw [if_pos hl] at he
              by_cases hlo : Loops s.bs (o.a, o.b) (o.ta, o.tb)
              · rw [(adoptB_yes hlo).1]
              · exact absurd (adoptB_no hlo).2 he
            · rfl
          · rw [if_neg h5] at he ⊢
            by_cases h6 : o.d = 6
            · rw [if_pos h6] at he ⊢
              split
              · rename_i hl
                rw [if_pos hl] at he
                cases hp : hasP s.bs (o.a, o.b)
                · rw [rmB_none hp]
                · rw [looseE, hp] at he; exact absurd rfl he
              · rfl
            · rw [if_neg h6]
theorem doH_other {s : Zs} {o : Opm} (h : o.d ≠ 1) : doH s o = (0, 0) := if_neg h
def zNil : Zs := ⟨[], [], []⟩
noncomputable def doneZ (zs : List Opm) : Zs := zs.foldl doZ zNil
theorem doneZ_snoc (zs : List Opm) (o : Opm) : doneZ (zs ++ [o]) = doZ (doneZ zs) o := by simp [doneZ]
theorem ZOk.folds {s : Zs} (h : ZOk s) (zs : List Opm) : ZOk (zs.foldl doZ s) := by
  induction zs generalizing s with
  | nil => exact h
  | cons o zs ih => exact ih (h.step o)
theorem ZOk.done (zs : List Opm) : ZOk (doneZ zs) := ZOk.nil.folds zs
end Go.Proofs.YtcmpaohefihijabGreatDoor

/- Load of a zoo over plain lists: its errors, its result; a zoo's own state, loaded again. -/
namespace Go.Proofs.YtcmpaohefihijabGreatDoor
open Go.RowKit

def bdZ0 : Bd := ((0, 0), (0, 0))
/-- bonds, one by one, onto those that are there -/
noncomputable def ldB (l : List (Int × Bool)) : List Bd → List Bd → Int × List Bd
  | acc, [] => (0, acc)
  | acc, b :: bs => if liveH l b.1 && liveH l b.2 then (if hasP acc b.1 then (6, acc) else if adoptE acc b.1 b.2 = 0 then ldB l (adoptB acc b.1 b.2) bs else (adoptE acc b.1 b.2, acc)) else (7, acc)
noncomputable def accB (bs : List Bd) : List Bd := bs.foldl (fun acc b => adoptB acc b.1 b.2) []
theorem accB_snoc (bs : List Bd) (b : Bd) : accB (bs ++ [b]) = adoptB (accB bs) b.1 b.2 := by simp [accB]
/-- the bond b fits those that are there -/
def fitB (l : List (Int × Bool)) (acc : List Bd) (b : Bd) : Prop := (liveH l b.1 = true ∧ liveH l b.2 = true) ∧ hasP acc b.1 = false ∧ adoptE acc b.1 b.2 = 0
def fitsTo (l : List (Int × Bool)) (bs : List Bd) (t : Nat) : Prop := ∀ j, j < t → fitB l (accB (bs.take j)) (bs.getD j bdZ0)
theorem takeB_snoc {bs : List Bd} {t : Nat} (h : t < bs.length) : bs.take (t + 1) = bs.take t ++ [bs.getD t bdZ0] := by
  rw [List.take_add_one, List.getElem?_eq_getElem h, List.getD_eq_getElem?_getD, List.getElem?_eq_getElem h]; rfl
theorem dropB_cons {bs : List Bd} {t : Nat} (h : t < bs.length) : bs.drop t = bs.getD t bdZ0 :: bs.drop (t + 1) := by
  rw [List.getD_eq_getElem?_getD, List.getElem?_eq_getElem h]; exact (List.getElem_cons_drop h).symm
theorem ldB_fit {l : List (Int × Bool)} {acc bs : List Bd} {b : Bd} (h : fitB l acc b) : ldB l acc (b :: bs) = ldB l (adoptB acc b.1 b.2) bs := by
  obtain ⟨⟨h1, h2⟩, h3, h4⟩ := h
  rw [ldB, h1, h2, h3, if_pos h4]; rfl
theorem ldB_go {l : List (Int × Bool)} {bs : List Bd} : ∀ {t : Nat}, t ≤ bs.length → fitsTo l bs t → ldB l [] bs = ldB l (accB (bs.take t)) (bs.drop t)
  | 0, _, _ => rfl
  | t + 1, ht, h => by
    rw [ldB_go (t := t) (by omega) (fun j hj => h j (by omega)), dropB_cons (by omega), ldB_fit (h t (by omega)), takeB_snoc (by omega), accB_snoc]
theorem fitsTo_next {l : List (Int × Bool)} {bs : List Bd} {t : Nat} {b : Bd} (h : fitsTo l bs t) (hb : bs.getD t bdZ0 = b) (hf : fitB l (accB (bs.take t)) b) : fitsTo l bs (t + 1) := fun j hj => by
  by_cases e : j = t
  · subst e; rw [hb]; exact hf
  · exact h j (by omega)
theorem ldB_dead {l : List (Int × Bool)} {bs : List Bd} {t : Nat} {b : Bd} (ht : t < bs.length) (h : fitsTo l bs t) (hb : bs.getD t bdZ0 = b) (hl : (liveH l b.1 && liveH l b.2) = false) : (ldB l [] bs).1 = 7 := by
  rw [ldB_go (by omega) h, dropB_cons ht, hb, ldB, hl]; rfl
theorem ldB_twice {l : List (Int × Bool)} {bs : List Bd} {t : Nat} {b : Bd} (ht : t < bs.length) (h : fitsTo l bs t) (hb : bs.getD t bdZ0 = b) (hl : (liveH l b.1 && liveH l b.2) = true) (hp : hasP (accB (bs.take t)) b.1 = true) : (ldB l [] bs).1 = 6 := by
  rw [ldB_go (by omega) h, dropB_cons ht, hb, ldB, hl, hp]; rfl
theorem ldB_loop {l : List (Int × Bool)} {bs : List Bd} {t : Nat} {b : Bd} (ht : t < bs.length) (h : fitsTo l bs t) (hb : bs.getD t bdZ0 = b) (hl : (liveH l b.1 && liveH l b.2) = true) (hp : hasP (accB (bs.take t)) b.1 = false) (he : adoptE (accB (bs.take t)) b.1 b.2 ≠ 0) : (ldB l [] bs).1 = adoptE (accB (bs.take t)) b.1 b.2 := by
  rw [ldB_go (by omega) h, dropB_cons ht, hb, ldB, hl, hp, if_neg he]; rfl
theorem ldB_end {l : List (Int × Bool)} {bs : List Bd} (h : fitsTo l bs bs.length) : ldB l [] bs = (0, accB bs) := by
  rw [ldB_go (Nat.le_refl _) h, List.take_length, List.drop_length]; rfl
/-- what has been taken so far may be -/
theorem accB_ok {l : List (Int × Bool)} (ok : SlotOk l) {bs : List Bd} : ∀ {t : Nat}, t ≤ bs.length → fitsTo l bs t → FOk (accB (bs.take t)) ∧ (∀ b ∈ accB (bs.take t), liveH l b.1 = true ∧ liveH l b.2 = true) ∧ (accB (bs.take t)).length = t
  | 0, _, _ => ⟨FOk.nil, by simp [accB], rfl⟩
  | t + 1, ht, h => by
    obtain ⟨i1, i2, i3⟩ := accB_ok ok (t := t) (by omega) (fun j hj => h j (by omega))
    obtain ⟨⟨h1, h2⟩, h3, h4⟩ := h t (by omega)
    rw [takeB_snoc (by omega), accB_snoc]
    generalize bs.getD t bdZ0 = b at *
    generalize accB (bs.take t) = acc at *
    have hlo : ¬ Loops acc b.1 b.2 := fun hl => by rw [(adoptB_yes hl).2] at h4; cases h4
    refine ⟨i1.adopt (live_I64 ok h1) (live_I64 ok h2), fun x hx => ?_, ?_⟩
    · rcases (mem_adoptB hlo).1 hx with rfl | hx
      · exact ⟨h1, h2⟩
      · exact i2 x hx.1
    · rw [(adoptB_no hlo).1, insB_len, rmB_none h3, i3]

noncomputable def zldE (gens : List Int) (rs : List Rw) (bs : List Bd) : Int := if wldE gens rs = 0 then (ldB (mkL gens (sNums rs)) [] bs).1 else wldE gens rs
noncomputable def zldZ (gens : List Int) (rs : List Rw) (bs : List Bd) : Zs := ⟨mkL gens (sNums rs), sortR gens.length rs, accB bs⟩
theorem fits_of_zero {l : List (Int × Bool)} : ∀ {bs acc : List Bd}, (ldB l acc bs).1 = 0 → ∀ {pre : List Bd}, accB pre = acc → ∀ j, j < bs.length → fitB l (accB (pre ++ bs.take j)) (bs.getD j bdZ0)
  | [], _, _, _, _, j, hj => by simp at hj
  | b :: bs, acc, h, pre, hp, j, hj => by
    rw [ldB] at h
    cases hl : (liveH l b.1 && liveH l b.2)
    · rw [hl] at h; simp at h
    · rw [hl, if_pos rfl] at h
      cases hh : hasP acc b.1
      · rw [hh, if_neg (by simp)] at h
        by_cases he : adoptE acc b.1 b.2 = 0
        · rw [if_pos he] at h
          rw [Bool.and_eq_true] at hl
          match j with
          | 0 => simp only [List.take_zero, List.append_nil, List.getD_cons_zero]; rw [hp]; exact ⟨hl, hh, he⟩
          | j + 1 =>
            have := fits_of_zero h (pre := pre ++ [b]) (by rw [accB_snoc, hp]) j (by simpa using hj)
            simpa using this
        · rw [if_neg he] at h; exact absurd h he
      · rw [hh, if_pos rfl] at h; simp at h
theorem ZOk.load {gens : List Int} {rs : List Rw} {bs : List Bd} (h : zldE gens rs bs = 0) : ZOk (zldZ gens rs bs) := by
  unfold zldE at h
  split at h
  · rename_i hw
    obtain ⟨hok, -⟩ := WOk.load hw
    have hf : fitsTo (mkL gens (sNums rs)) bs bs.length := fun j hj => by
      have := fits_of_zero h (pre := []) rfl j hj
      simpa using this
    obtain ⟨i1, i2, -⟩ := accB_ok hok.slots (Nat.le_refl _) hf
    rw [List.take_length] at i1 i2
    exact ⟨hok, i1, i2⟩
  · rename_i hw; exact absurd h hw
/-- Rows that rise are told by what is among them. -/
theorem rows_ext : ∀ {xs ys : List Rw}, xs.Pairwise (fun x y => x.s < y.s) → ys.Pairwise (fun x y => x.s < y.s) → (∀ r, r ∈ xs ↔ r ∈ ys) → xs = ys
  | [], [], _, _, _ => rfl
  | [], y :: ys, _, _, h => by have := (h y).2 (by simp); simp at this
  | x :: xs, [], _, _, h => by have := (h x).1 (by simp); simp at this
  | x :: xs, y :: ys, hx, hy, h => by
    obtain ⟨hx1, hx2⟩ := List.pairwise_cons.1 hx
    obtain ⟨hy1, hy2⟩ := List.pairwise_cons.1 hy
    have e : x = y := by
      rcases List.mem_cons.1 ((h x).1 (by simp)) with e | m
      · exact e
      · rcases List.mem_cons.1 ((h y).2 (by simp)) with e' | m'
        · exact e'.symm
        · have h1 := hx1 _ m'; have h2 := hy1 _ m; omega
    subst e
    rw [rows_ext hx2 hy2 (fun b => ?_)]
    refine ⟨fun hb => ?_, fun hb => ?_⟩
    · rcases List.mem_cons.1 ((h b).1 (List.mem_cons_of_mem _ hb)) with e | m
      · have := hx1 _ hb; rw [e] at this; omega
      · exact m
    · rcases List.mem_cons.1 ((h b).2 (List.mem_cons_of_mem _ hb)) with e | m
      · have := hy1 _ hb; rw [e] at this; omega
      · exact m
theorem sortR_rows {l : List (Int × Bool)} {rows : List Rw} (h : WOk l rows) : sortR (gensL l).length rows = rows := by
  obtain ⟨hok, hm⟩ := WOk.load (wldE_rows h).2
  exact rows_ext hok.up h.up hm
/-- Bonds in order, taken one by one, are those bonds. -/
theorem accB_sorted {l : List (Int × Bool)} {bs : List Bd} (hs : SortedB bs) (ha : Acy bs) (hl : ∀ b ∈ bs, liveH l b.1 = true ∧ liveH l b.2 = true) : ∀ t, t ≤ bs.length → accB (bs.take t) = bs.take t ∧ fitsTo l bs t
  | 0, _ => ⟨rfl, fun j hj => by omega⟩
  | t + 1, ht => by
    obtain ⟨i1, i2⟩ := accB_sorted hs ha hl t (by omega)
    have htl : t < bs.length := by omega
    obtain ⟨b, hb⟩ : ∃ b, bs.getD t bdZ0 = b := ⟨_, rfl⟩
    have hmem : b ∈ bs := by rw [← hb]; exact memD htl
    have hsub : ∀ x ∈ bs.take t, x ∈ bs := fun x hx => List.mem_of_mem_take hx
    have hlo : ¬ Loops (bs.take t) b.1 b.2 := fun h => by
      rcases h with e | u
      · exact ha.irrefl b.1 (.base (show (b.1, b.1) ∈ bs by have : b = (b.1, b.1) := Prod.ext rfl e.symm; rw [← this]; exact hmem))
      · exact ha.irrefl b.1 ((Und.base (show (b.1, b.2) ∈ bs from hmem)).trans (u.mono hsub))
    have hlt : ∀ j, j < t → hlt (bs.getD j bdZ0).1 b.1 := fun j hj => by
      have := List.pairwise_iff_getElem.1 hs j t (by omega) htl hj
      rw [← hb, List.getD_eq_getElem?_getD, List.getElem?_eq_getElem (show j < bs.length by omega), List.getD_eq_getElem?_getD, List.getElem?_eq_getElem htl]
      exact this
    have htake : ∀ x ∈ bs.take t, Go.Proofs.YtcmpaohefihijabGreatDoor.hlt x.1 b.1 := fun x hx => by
      obtain ⟨j, hj, rfl⟩ := List.getElem_of_mem hx
      rw [List.length_take] at hj
      have := hlt j (by omega)
      rw [List.getD_eq_getElem?_getD, List.getElem?_eq_getElem (show j < bs.length by omega)] at this
      rw [List.getElem_take]; exact this
    have hp : hasP (bs.take t) b.1 = false := hasP_no (fun p hp => hlt_irrefl b.1 (htake (b.1, p) hp))
    have hfit : fitB l (accB (bs.take t)) b := by rw [i1]; exact ⟨hl b hmem, hp, (adoptB_no hlo).2⟩
    refine ⟨?_, fitsTo_next i2 hb hfit⟩
    rw [takeB_snoc htl, accB_snoc, hb, i1, (adoptB_no hlo).1, rmB_none hp]
    rw [insB_at (t := (bs.take t).length) (Nat.le_refl _) (fun j hj => ?_) (fun h => absurd h (Nat.lt_irrefl _))]
    · rw [List.take_length, List.drop_length]
    · exact htake _ (memD hj)
/-- A zoo's own state, loaded, is that zoo. -/
theorem ZOk.back {s : Zs} (h : ZOk s) : zldE (gensL s.l) s.rows s.bs = 0 ∧ zldZ (gensL s.l) s.rows s.bs = s := by
  obtain ⟨a1, a2⟩ := accB_sorted h.f.sorted h.f.acy h.lv s.bs.length (Nat.le_refl _)
  rw [List.take_length] at a1
  refine ⟨?_, ?_⟩
  · rw [zldE, if_pos (wldE_rows h.w).2, mkL_rows h.w, ldB_end a2]
  · unfold zldZ
    rw [mkL_rows h.w, sortR_rows h.w, a1]
end Go.Proofs.YtcmpaohefihijabGreatDoor

/- All of a zoo over plain lists: a list of operations, or none of them. -/
namespace Go.Proofs.YtcmpaohefihijabGreatDoor
open Go.RowKit

/-- the handle that is meant, if there is one: a negative slot names one that this list has spawned -/
def meantH (sp : List Hd) (is : Bool) (h : Hd) : Option Hd := if is = true ∧ h.1 < 0 then sp[(-1 - h.1).toNat]? else some h
def usesAt (o : Opm) : Bool := decide (2 ≤ o.d) && decide (o.d ≤ 6)
def usesTo (o : Opm) : Bool := decide (o.d = 5)
def withH (o : Opm) (x y : Hd) : Opm := ⟨o.d, o.m, o.f, x.1, x.2, y.1, y.2, o.k, o.n⟩
def meantO (sp : List Hd) (o : Opm) : Option Opm := match meantH sp (usesAt o) (o.a, o.b), meantH sp (usesTo o) (o.ta, o.tb) with
  | some x, some y => some (withH o x y)
  | _, _ => none
theorem withH_self (o : Opm) : withH o (o.a, o.b) (o.ta, o.tb) = o := rfl
abbrev Za := Zs × List Hd
/-- one operation of the list: its error; what it leaves -/
noncomputable def errA (x : Za) (o : Opm) : Int := match meantO x.2 o with | none => 5 | some o' => doE x.1 o'
noncomputable def stepA (x : Za) (o : Opm) : Za := match meantO x.2 o with | none => x | some o' => (doZ x.1 o', if o.d = 1 then x.2 ++ [doH x.1 o'] else x.2)
noncomputable def runA (x : Za) (os : List Opm) : Za := os.foldl stepA x
noncomputable def allR : Za → List Opm → Nat × Int
  | _, [] => (0, 0)
  | x, o :: os => if errA x o = 0 then ((allR (stepA x o) os).1 + 1, (allR (stepA x o) os).2) else (0, errA x o)
noncomputable def allE (s : Zs) (os : List Opm) : Int := if os.length ≤ 80 then (allR (s, []) os).2 else 2
noncomputable def allN (s : Zs) (os : List Opm) : Nat := if os.length ≤ 80 then (allR (s, []) os).1 else 0
noncomputable def allZ (s : Zs) (os : List Opm) : Zs := if allE s os = 0 then (runA (s, []) os).1 else s
def okAll (x : Za) (os : List Opm) (t : Nat) : Prop := ∀ j, j < t → errA (runA x (os.take j)) (os.getD j opZ) = 0

theorem runA_snoc (x : Za) (os : List Opm) (o : Opm) : runA x (os ++ [o]) = stepA (runA x os) o := by simp [runA]
theorem runA_next (x : Za) {os : List Opm} {t : Nat} {o : Opm} (h : t < os.length) (ho : os.getD t opZ = o) : runA x (os.take (t + 1)) = stepA (runA x (os.take t)) o := by
  rw [take_snocD os t opZ h, ho, runA_snoc]
theorem okAll_next {x : Za} {os : List Opm} {t : Nat} {o : Opm} (h : okAll x os t) (ho : os.getD t opZ = o) (he : errA (runA x (os.take t)) o = 0) : okAll x os (t + 1) := fun j hj => by
  by_cases e : j = t
  · subst e; rw [ho]; exact he
  · exact h j (by omega)
theorem okAll_cons {x : Za} {o : Opm} {os : List Opm} {t : Nat} : okAll x (o :: os) (t + 1) ↔ errA x o = 0 ∧ okAll (stepA x o) os t := by
  constructor
  · intro h
    exact ⟨h 0 (by omega), fun j hj => h (j + 1) (by omega)⟩
  · rintro ⟨h1, h2⟩ j hj
    match j with
    | 0 => exact h1
    | j + 1 => exact h2 j (by omega)
theorem allR_go : ∀ {os : List Opm} {x : Za} {t : Nat}, t ≤ os.length → okAll x os t → allR x os = ((allR (runA x (os.take t)) (os.drop t)).1 + t, (allR (runA x (os.take t)) (os.drop t)).2)
  | os, x, 0, _, _ => rfl
  | [], x, t + 1, ht, _ => by simp at ht
  | o :: os, x, t + 1, ht, h => by
    obtain ⟨h1, h2⟩ := okAll_cons.1 h
    have ih := allR_go (t := t) (by simpa using ht) h2
    rw [allR, if_pos h1, ih]
    show (_, _) = _
    simp only [List.take_succ_cons, List.drop_succ_cons, runA, List.foldl_cons]
    rfl
theorem allR_stop {os : List Opm} {x : Za} {t : Nat} {o : Opm} (ht : t < os.length) (h : okAll x os t) (ho : os.getD t opZ = o) (he : errA (runA x (os.take t)) o ≠ 0) : allR x os = (t, errA (runA x (os.take t)) o) := by
  have hd : os.drop t = o :: os.drop (t + 1) := by
    rw [← ho, List.getD_eq_getElem?_getD, List.getElem?_eq_getElem ht]; exact (List.getElem_cons_drop ht).symm
  rw [allR_go (by omega) h, hd, allR, if_neg he]
  simp
theorem allR_end {os : List Opm} {x : Za} (h : okAll x os os.length) : allR x os = (os.length, 0) := by
  rw [allR_go (Nat.le_refl _) h, List.drop_length, allR]; simp
theorem allR_zero : ∀ {os : List Opm} {x : Za}, (allR x os).2 = 0 → okAll x os os.length
  | [], _, _ => fun j hj => by simp at hj
  | o :: os, x, h => by
    rw [allR] at h
    by_cases he : errA x o = 0
    · rw [if_pos he] at h
      exact okAll_cons.2 ⟨he, allR_zero h⟩
    · rw [if_neg he] at h; exact absurd h he
theorem allE_large {s : Zs} {os : List Opm} (h : ¬ os.length ≤ 80) : allE s os = 2 ∧ allN s os = 0 ∧ allZ s os = s := by
  have : allE s os = 2 := if_neg h
  exact ⟨this, if_neg h, by rw [allZ, this]; rfl⟩
theorem all_stop {s : Zs} {os : List Opm} (hl : os.length ≤ 80) {t : Nat} {o : Opm} {c : Int} (ht : t < os.length) (h : okAll (s, []) os t) (ho : os.getD t opZ = o) (he : errA (runA (s, []) (os.take t)) o = c) (hc : c ≠ 0) : allE s os = c ∧ allN s os = t ∧ allZ s os = s := by
  have hr := allR_stop ht h ho (by rw [he]; exact hc)
  have h1 : allE s os = c := by rw [allE, if_pos hl, hr]; exact he
  exact ⟨h1, by rw [allN, if_pos hl, hr], by rw [allZ, h1, if_neg hc]⟩
theorem all_end {s : Zs} {os : List Opm} (hl : os.length ≤ 80) (h : okAll (s, []) os os.length) : allE s os = 0 ∧ allN s os = os.length ∧ allZ s os = (runA (s, []) os).1 := by
  have hr := allR_end h
  have h1 : allE s os = 0 := by rw [allE, if_pos hl, hr]
  exact ⟨h1, by rw [allN, if_pos hl, hr], by rw [allZ, h1, if_pos rfl]⟩
theorem ZOk.stepA {x : Za} (h : ZOk x.1) (o : Opm) : ZOk (stepA x o).1 := by
  unfold Go.Proofs.YtcmpaohefihijabGreatDoor.stepA
  split
  · exact h
  · exact h.step _
theorem ZOk.runA {os : List Opm} : ∀ {x : Za}, ZOk x.1 → ZOk (runA x os).1 := by
  induction os with
  | nil => intro x h; exact h
  | cons o os ih => intro x h; exact ih (x := Go.Proofs.YtcmpaohefihijabGreatDoor.stepA x o) (h.stepA o)
theorem ZOk.all {s : Zs} (h : ZOk s) (os : List Opm) : ZOk (allZ s os) := by
  unfold allZ
  split
  · exact ZOk.runA (x := (s, [])) h
  · exact h
theorem allN_le (s : Zs) (os : List Opm) : allN s os ≤ os.length := by
  have key : ∀ (os : List Opm) (x : Za), (allR x os).1 ≤ os.length := by
    intro os
    induction os with
    | nil => intro x; simp [allR]
    | cons o os ih =>
      intro x
      rw [allR]
      split
      · have := ih (Go.Proofs.YtcmpaohefihijabGreatDoor.stepA x o); simp; exact this
      · simp
  unfold allN
  split
  · exact key _ _
  · omega
/-- What an operation does depends on its second handle only if it adopts. -/
theorem do_same {s : Zs} {o o' : Opm} (hd : o.d = o'.d) (hm : o.m = o'.m) (hf : o.f = o'.f) (ha : o.d ≠ 1 → o.a = o'.a ∧ o.b = o'.b) (ht : o.d = 5 → o.ta = o'.ta ∧ o.tb = o'.tb) (hk : o.k = o'.k) (hn : o.n = o'.n) : doE s o = doE s o' ∧ doZ s o = doZ s o' ∧ doH s o = doH s o' := by
  obtain ⟨d, m, f, a, b, ta, tb, k, n⟩ := o
  obtain ⟨d', m', f', a', b', ta', tb', k', n'⟩ := o'
  simp only at hd hm hf ha ht hk hn
  subst hd hm hf hk hn
  unfold doE doZ doH
  by_cases h1 : d = 1
  · simp only [if_pos h1]; exact ⟨trivial, trivial, trivial⟩
  · obtain ⟨rfl, rfl⟩ := ha h1
    by_cases h5 : d = 5
    · obtain ⟨rfl, rfl⟩ := ht h5
      exact ⟨rfl, rfl, rfl⟩
    · simp only [if_neg h1, if_neg h5]
      exact ⟨trivial, trivial, trivial⟩
/-- Operations that name no spawned handle. -/
def plainO (o : Opm) : Prop := 0 ≤ o.a ∧ 0 ≤ o.ta
theorem meantO_plain {o : Opm} (h : plainO o) (sp : List Hd) : meantO sp o = some o := by
  have h1 : meantH sp (usesAt o) (o.a, o.b) = some (o.a, o.b) := by rw [meantH, if_neg]; rintro ⟨-, h2⟩; have := h.1; simp only at h2; omega
  have h2 : meantH sp (usesTo o) (o.ta, o.tb) = some (o.ta, o.tb) := by rw [meantH, if_neg]; rintro ⟨-, h2⟩; have := h.2; simp only at h2; omega
  rw [meantO, h1, h2]; rfl
theorem errA_plain {o : Opm} (h : plainO o) (x : Za) : errA x o = doE x.1 o := by rw [errA, meantO_plain h]
theorem stepA_plain {o : Opm} (h : plainO o) (x : Za) : (stepA x o).1 = doZ x.1 o := by rw [stepA, meantO_plain h]
theorem runA_plain {os : List Opm} : ∀ {x : Za}, (∀ o ∈ os, plainO o) → (runA x os).1 = os.foldl doZ x.1 := by
  induction os with
  | nil => intro x _; rfl
  | cons o os ih =>
    intro x h
    show (runA (stepA x o) os).1 = _
    rw [ih (fun p hp => h p (by simp [hp])), stepA_plain (h o (by simp)), List.foldl_cons]
theorem okAll_plain {os : List Opm} {x y : Za} {t : Nat} (ht : t ≤ os.length) (h : ∀ o ∈ os, plainO o) (e : x.1 = y.1) : okAll x os t ↔ okAll y os t := by
  have key : ∀ j, j < t → errA (runA x (os.take j)) (os.getD j opZ) = errA (runA y (os.take j)) (os.getD j opZ) := fun j hj => by
    have hm : os.getD j opZ ∈ os := mem_getD (by omega)
    rw [errA_plain (h _ hm), errA_plain (h _ hm), runA_plain (fun o ho => h o (List.mem_of_mem_take ho)), runA_plain (fun o ho => h o (List.mem_of_mem_take ho)), e]
  exact ⟨fun hx j hj => by rw [← key j hj]; exact hx j hj, fun hy j hj => by rw [key j hj]; exact hy j hj⟩
/-- Two lists, one behind the other, are one list. -/
theorem all_parts {s : Zs} {os : List Opm} (h : ∀ o ∈ os, plainO o) {k : Nat} (hk : k ≤ os.length) (he : allE s os = 0) : allE s (os.take k) = 0 ∧ allN s (os.take k) = k ∧ allE (allZ s (os.take k)) (os.drop k) = 0 ∧ allN (allZ s (os.take k)) (os.drop k) = os.length - k ∧ allZ (allZ s (os.take k)) (os.drop k) = allZ s os := by
  have hl : os.length ≤ 80 := Classical.byContradiction fun hn => by rw [(allE_large hn).1] at he; cases he
  have hok : okAll (s, []) os os.length := by rw [allE, if_pos hl] at he; exact allR_zero he
  have h1 : ∀ o ∈ os.take k, plainO o := fun o ho => h o (List.mem_of_mem_take ho)
  have h2 : ∀ o ∈ os.drop k, plainO o := fun o ho => h o (List.mem_of_mem_drop ho)
  have hlk : (os.take k).length = k := by rw [List.length_take]; omega
  have hld : (os.drop k).length = os.length - k := List.length_drop
  have ok1 : okAll (s, []) (os.take k) (os.take k).length := fun j hj => by
    rw [hlk] at hj
    have := hok j (by omega)
    rw [List.take_take, Nat.min_eq_left (by omega)]
    rw [List.getD_eq_getElem?_getD, List.getElem?_take_of_lt hj, ← List.getD_eq_getElem?_getD]
    exact this
  obtain ⟨a1, a2, a3⟩ := all_end (by omega) ok1
  have hz : allZ s (os.take k) = (os.take k).foldl doZ s := by rw [a3, runA_plain h1]
  have ok2 : okAll (allZ s (os.take k), []) (os.drop k) (os.drop k).length := fun j hj => by
    rw [hld] at hj
    have := hok (k + j) (by omega)
    have hm : os.getD (k + j) opZ ∈ os := mem_getD (by omega)
    rw [errA_plain (h _ hm), runA_plain (fun o ho => h o (List.mem_of_mem_take ho))] at this
    have hg : (os.drop k).getD j opZ = os.getD (k + j) opZ := by rw [List.getD_eq_getElem?_getD, List.getElem?_drop, ← List.getD_eq_getElem?_getD]
    rw [hg, errA_plain (h _ hm), runA_plain (fun o ho => h2 o (List.mem_of_mem_take ho)), hz]
    have ht : os.take (k + j) = os.take k ++ (os.drop k).take j := List.take_add
    rw [ht, List.foldl_append] at this
    exact this
  obtain ⟨b1, b2, b3⟩ := all_end (by omega) ok2
  refine ⟨a1, by rw [a2, hlk], b1, by rw [b2, hld], ?_⟩
  rw [b3, runA_plain h2, hz, (all_end hl hok).2.2, runA_plain h]
  rw [← List.foldl_append, List.take_append_drop]
end Go.Proofs.YtcmpaohefihijabGreatDoor

/- All that have one above them, found by going over the bonds as often as there are bonds. -/
namespace Go.Proofs.YtcmpaohefihijabGreatDoor
open Go.RowKit

def markP (P : Hd → Prop) (b : Bd) : Hd → Prop := fun x => P x ∨ (P b.2 ∧ x = b.1)
def passP (P : Hd → Prop) (bs : List Bd) : Hd → Prop := bs.foldl markP P
def passN (bs : List Bd) (h : Hd) : Nat → Hd → Prop
  | 0 => fun x => x = h
  | n + 1 => passP (passN bs h n) bs
theorem passP_snoc (P : Hd → Prop) (bs : List Bd) (b : Bd) : passP P (bs ++ [b]) = markP (passP P bs) b := by simp [passP]
theorem passP_next (P : Hd → Prop) {bs : List Bd} {t : Nat} (d : Bd) (h : t < bs.length) : passP P (bs.take (t + 1)) = markP (passP P (bs.take t)) (bs.getD t d) := by
  rw [take_snocD bs t d h, passP_snoc]
theorem passP_mono : ∀ (bs : List Bd) (P : Hd → Prop) {x : Hd}, P x → passP P bs x
  | [], _, _, h => h
  | b :: bs, P, _, h => passP_mono bs (markP P b) (.inl h)
theorem passP_has : ∀ (bs : List Bd) (P : Hd → Prop) {x y : Hd}, (x, y) ∈ bs → P y → passP P bs x
  | b :: bs, P, x, y, hm, hy => by
    rcases List.mem_cons.1 hm with e | hm
    · exact passP_mono bs (markP P b) (.inr (by rw [← e]; exact ⟨hy, rfl⟩))
    · exact passP_has bs (markP P b) hm (.inl hy)
theorem passP_sound {bs0 : List Bd} {h : Hd} : ∀ (bs : List Bd) (P : Hd → Prop), (∀ b ∈ bs, b ∈ bs0) → (∀ x, P x → x = h ∨ Und bs0 x h) → ∀ x, passP P bs x → x = h ∨ Und bs0 x h
  | [], _, _, hP, x, hx => hP x hx
  | b :: bs, P, hs, hP, x, hx => passP_sound bs (markP P b) (fun c hc => hs c (by simp [hc])) (fun y hy => by
      rcases hy with hy | ⟨hy, rfl⟩
      · exact hP y hy
      · have hb : (b.1, b.2) ∈ bs0 := hs b (by simp)
        rcases hP _ hy with e | u
        · exact .inr (.base (by rw [← e]; exact hb))
        · exact .inr (.step hb u)) x hx
theorem passN_sound {bs : List Bd} {h : Hd} : ∀ n x, passN bs h n x → x = h ∨ Und bs x h
  | 0, _, hx => .inl hx
  | n + 1, x, hx => passP_sound bs _ (fun _ hb => hb) (passN_sound n) x hx
theorem passN_anc {bs : List Bd} {h : Hd} : ∀ {A : List Hd} {x : Hd}, IsAnc bs x A → h ∈ A → passN bs h A.length x
  | [], _, _, hm => by simp at hm
  | p :: r, x, ⟨h1, h2⟩, hm => by
    refine passP_has bs (passN bs h r.length) h1 ?_
    rcases List.mem_cons.1 hm with rfl | hm
    · have key : ∀ n, passN bs h n h := by
        intro n
        induction n with
        | zero => rfl
        | succ n ih => exact passP_mono bs _ ih
      exact key _
    · exact passN_anc h2 hm
theorem passN_mono {bs : List Bd} {h x : Hd} {n : Nat} (hx : passN bs h n x) : ∀ k, passN bs h (n + k) x
  | 0 => hx
  | k + 1 => passP_mono bs _ (passN_mono hx k)
/-- As many passes as there are bonds find all under h. -/
theorem FOk.passN {bs : List Bd} (h : FOk bs) (x y : Hd) : Go.Proofs.YtcmpaohefihijabGreatDoor.passN bs y bs.length x ↔ x = y ∨ Und bs x y := by
  refine ⟨passN_sound _ _, fun hx => ?_⟩
  rcases hx with e | u
  · have := passN_mono (bs := bs) (h := y) (x := x) (n := 0) e bs.length
    rwa [Nat.zero_add] at this
  · obtain ⟨A, hA, hl, hm⟩ := h.anc x
    have := passN_mono (passN_anc hA ((hm y).2 u)) (bs.length - A.length)
    rwa [show A.length + (bs.length - A.length) = bs.length by omega] at this
end Go.Proofs.YtcmpaohefihijabGreatDoor

/- A list of operations done again one by one; a small zoo by hand. -/
namespace Go.Proofs.YtcmpaohefihijabGreatDoor
open Go.RowKit

/-- the handle that is meant, as one who does a list again finds it -/
def lookH (sp : List Hd) (h : Hd) : Hd := if h.1 < 0 ∧ -(sp.length : Int) ≤ h.1 then sp.getD (-h.1 - 1).toNat (0, 0) else h
def lookO (sp : List Hd) (o : Opm) : Opm := if o.d = 1 then o else withH o (lookH sp (o.a, o.b)) (lookH sp (o.ta, o.tb))
theorem lookH_of {sp : List Hd} {h x : Hd} (hm : meantH sp true h = some x) : lookH sp h = x := by
  unfold meantH at hm
  unfold lookH
  by_cases hn : h.1 < 0
  · rw [if_pos ⟨rfl, hn⟩] at hm
    obtain ⟨hl, e⟩ := List.getElem?_eq_some_iff.1 hm
    have hi : (-h.1 - 1).toNat = (-1 - h.1).toNat := by congr 1; omega
    rw [if_pos ⟨hn, by omega⟩, hi, List.getD_eq_getElem?_getD, List.getElem?_eq_getElem hl, e]; rfl
  · rw [if_neg (fun h => hn h.2)] at hm
    rw [if_neg (fun h => hn h.1)]
    exact Option.some.inj hm
/-- An operation of a list that goes well, done again. -/
theorem again {x : Za} {o : Opm} (h : errA x o = 0) : doE x.1 (lookO x.2 o) = 0 ∧ stepA x o = (doZ x.1 (lookO x.2 o), if o.d = 1 then x.2 ++ [doH x.1 (lookO x.2 o)] else x.2) := by
  cases hm : meantO x.2 o with
  | none => rw [errA, hm] at h; cases h
  | some o' =>
    have he : doE x.1 o' = 0 := by rw [errA, hm] at h; exact h
    have hs : stepA x o = (doZ x.1 o', if o.d = 1 then x.2 ++ [doH x.1 o'] else x.2) := by rw [stepA, hm]
    have key : doE x.1 (lookO x.2 o) = doE x.1 o' ∧ doZ x.1 (lookO x.2 o) = doZ x.1 o' ∧ doH x.1 (lookO x.2 o) = doH x.1 o' := by
      unfold meantO at hm
      cases ha : meantH x.2 (usesAt o) (o.a, o.b) with
      | none => rw [ha] at hm; cases hm
      | some u =>
        cases ht : meantH x.2 (usesTo o) (o.ta, o.tb) with
        | none => rw [ha, ht] at hm; cases hm
        | some v =>
          rw [ha, ht] at hm
          obtain rfl := Option.some.inj hm
          by_cases h1 : o.d = 1
          · rw [lookO, if_pos h1]
            exact do_same rfl rfl rfl (fun hn => absurd h1 hn) (fun h5 => by omega) rfl rfl
          · rw [lookO, if_neg h1]
            by_cases hu : 2 ≤ o.d ∧ o.d ≤ 6
            · have hua : usesAt o = true := by unfold usesAt; simp [hu.1, hu.2]
              rw [hua] at ha
              refine do_same rfl rfl rfl (fun _ => ?_) (fun h5 => ?_) rfl rfl
              · rw [show (withH o (lookH x.2 (o.a, o.b)) (lookH x.2 (o.ta, o.tb))).a = (lookH x.2 (o.a, o.b)).1 from rfl, show (withH o (lookH x.2 (o.a, o.b)) (lookH x.2 (o.ta, o.tb))).b = (lookH x.2 (o.a, o.b)).2 from rfl, lookH_of ha]
                exact ⟨rfl, rfl⟩
              · have hut : usesTo o = true := decide_eq_true h5
                rw [hut] at ht
                rw [show (withH o (lookH x.2 (o.a, o.b)) (lookH x.2 (o.ta, o.tb))).ta = (lookH x.2 (o.ta, o.tb)).1 from rfl, show (withH o (lookH x.2 (o.a, o.b)) (lookH x.2 (o.ta, o.tb))).tb = (lookH x.2 (o.ta, o.tb)).2 from rfl, lookH_of ht]
                exact ⟨rfl, rfl⟩
            · exfalso
              unfold doE at he
              have d1 : (withH o u v).d = o.d := rfl
              rw [d1, if_neg h1, if_neg (by omega), if_neg (by omega), if_neg (by omega), if_neg (by omega), if_neg (by omega)] at he
              cases he
    rw [hs, key.1, key.2.1, key.2.2]
    exact ⟨he, rfl⟩

/-- Two are spawned, the second is adopted by the first. -/
def opSp : Opm := ⟨1, 0, fun _ => 0, 0, 0, 0, 0, 0, 0⟩
def opAd : Opm := ⟨5, 0, fun _ => 0, -2, 0, -1, 0, 0, 0⟩
theorem kept_all : allE zNil [opSp, opSp, opAd] = 0 ∧ allN zNil [opSp, opSp, opAd] = 3 ∧ allZ zNil [opSp, opSp, opAd] = ⟨[(0, true), (0, true)], [⟨0, 0, 0, fun _ => 0⟩, ⟨1, 0, 0, fun _ => 0⟩], [((1, 0), (0, 0))]⟩ := by
  have hp : ∀ sp, meantO sp opSp = some opSp := fun sp => meantO_plain ⟨by decide, by decide⟩ sp
  have hb : bErr 0 [0, 0, 0, 0, 0, 0, 0, 0] = 0 := by decide
  have e1 : errA (zNil, []) opSp = 0 := by rw [errA, hp]; decide
  have s1 : stepA (zNil, []) opSp = (⟨[(0, true)], [⟨0, 0, 0, fun _ => 0⟩], []⟩, [(0, 0)]) := by
    rw [stepA, hp]
    rfl
  have e2 : errA (⟨[(0, true)], [⟨0, 0, 0, fun _ => 0⟩], []⟩, [(0, 0)]) opSp = 0 := by rw [errA, hp]; decide
  have s2 : stepA (⟨[(0, true)], [⟨0, 0, 0, fun _ => 0⟩], []⟩, [(0, 0)]) opSp = (⟨[(0, true), (0, true)], [⟨0, 0, 0, fun _ => 0⟩, ⟨1, 0, 0, fun _ => 0⟩], []⟩, [(0, 0), (1, 0)]) := by
    rw [stepA, hp]
    rfl
  have hlo : ¬ Loops [] (1, 0) (0, 0) := by
    rintro (e | u)
    · cases e
    · cases u with
      | base h => cases h
      | step h _ => cases h
  have hm : meantO [(0, 0), (1, 0)] opAd = some ⟨5, 0, fun _ => 0, 1, 0, 0, 0, 0, 0⟩ := rfl
  have e3 : errA (⟨[(0, true), (0, true)], [⟨0, 0, 0, fun _ => 0⟩, ⟨1, 0, 0, fun _ => 0⟩], []⟩, [(0, 0), (1, 0)]) opAd = 0 := by
    rw [errA, hm]
    show doE _ _ = 0
    unfold doE
    simp only [show ¬ ((5 : Int) = 1) by decide, show ¬ ((5 : Int) = 2) by decide, show ¬ ((5 : Int) = 3) by decide, show ¬ ((5 : Int) = 4) by decide, if_false, if_true]
    rw [if_pos (by decide)]
    exact (adoptB_no hlo).2
  have s3 : stepA (⟨[(0, true), (0, true)], [⟨0, 0, 0, fun _ => 0⟩, ⟨1, 0, 0, fun _ => 0⟩], []⟩, [(0, 0), (1, 0)]) opAd = (⟨[(0, true), (0, true)], [⟨0, 0, 0, fun _ => 0⟩, ⟨1, 0, 0, fun _ => 0⟩], [((1, 0), (0, 0))]⟩, [(0, 0), (1, 0)]) := by
    rw [stepA, hm]
    show (doZ _ _, _) = _
    unfold doZ
    simp only [show ¬ ((5 : Int) = 1) by decide, show ¬ ((5 : Int) = 2) by decide, show ¬ ((5 : Int) = 3) by decide, show ¬ ((5 : Int) = 4) by decide, if_false, if_true]
    rw [if_pos (by decide), (adoptB_no hlo).1]
    rfl
  have hok : okAll (zNil, []) [opSp, opSp, opAd] 3 := by
    rw [okAll_cons, okAll_cons, okAll_cons]
    refine ⟨e1, by rw [s1]; exact e2, by rw [s1, s2]; exact e3, fun j hj => by omega⟩
  obtain ⟨a, b, c⟩ := all_end (s := zNil) (os := [opSp, opSp, opAd]) (by decide) hok
  refine ⟨a, b, ?_⟩
  rw [c]
  show (stepA (stepA (stepA (zNil, []) opSp) opSp) opAd).1 = _
  rw [s1, s2, s3]
end Go.Proofs.YtcmpaohefihijabGreatDoor

/- Appends as steps of a region that draws its order; parts of own slices; a row put in its place. -/
namespace Go.Proofs.YtcmpaohefihijabGreatDoor
open Go.RowKit

/-- An append of any number of elements, as one step of a region that draws, guarded or not. -/
theorem stepZ_append {P : Program} {w : World} {ops : Array Oper} {o : Oper} {a : Act} {K : Act → World → Prop} {Q : Exit → Act → World → Prop} {E : Prop} (hw : Region.wanted o (yielded ops a.tmps) = true) (s x : Operand) (t : TypeId)
    (ho : o.op = .call { callee := .builtin .append, args := #[s, x], argTypes := #[t, t] })
    (base : Nat) (e : TypeId) (i : TypeInfo) (z : Value) (size bytes : Nat) (ht : P.underlying t = some (.slice e)) (hi : P.info? e = some i) (hz : i.zero = some z)
    (hsize : i.size = size) (hby : i.bytes = bytes) (hzs : z.cells.size = size) (hsz : 0 < size)
    (v : Value) (n : Nat) (xs : List Value) (hs : a.eval s = v) (hown : w.ownsRow base e size v n xs)
    (ad : Addr) (m c : Nat) (news : List Value) (hx : a.eval x = .slice (some ad) m c) (hl : news.length = m * size) (hnews : ∀ j u, news[j]? = some u → w.cell? (ad.add j) = some u) (h1 : ∀ u ∈ news, u.oneCell' = true)
    (h63 : n + m ≤ maxLen) (hbytes : (n + m) * bytes ≤ 140737488355328) (hbase : base ≤ w.heap.size)
    (h : ∀ v' w', w'.ownsRow base e size v' (n + m) (xs ++ news) → w.grownBy w' v.ownBlock → (v' = .slice none 0 0 ↔ v = .slice none 0 0 ∧ m = 0) → K (a.put o.dst v') w') :
    if Region.wanted o (yielded ops a.tmps) = true then Oper.wp P o a w K Q else E := by
  rw [if_pos hw]
  exact wp_append_own w s x t ho base e i z size bytes ht hi hz hsize hby hzs hsz v n xs hs hown ad m c news hx hl hnews h1 h63 hbytes hbase h
/-- .. of nothing. -/
theorem stepZ_append_none {P : Program} {w : World} {ops : Array Oper} {o : Oper} {a : Act} {K : Act → World → Prop} {Q : Exit → Act → World → Prop} {E : Prop} (hw : Region.wanted o (yielded ops a.tmps) = true) (s x : Operand) (t : TypeId)
    (ho : o.op = .call { callee := .builtin .append, args := #[s, x], argTypes := #[t, t] })
    (base : Nat) (e : TypeId) (i : TypeInfo) (size : Nat) (ht : P.underlying t = some (.slice e)) (hi : P.info? e = some i)
    (v : Value) (n : Nat) (xs : List Value) (hs : a.eval s = v) (hown : w.ownsRow base e size v n xs) (hx : a.eval x = .slice none 0 0)
    (h : K (a.put o.dst v) w) : if Region.wanted o (yielded ops a.tmps) = true then Oper.wp P o a w K Q else E := by
  rw [if_pos hw]
  have hrun := run_append_owned_none (P := P) (w := w) base t o.type e i size ht hi v n xs hown
  unfold Oper.wp
  simp [execOp, ho, resolve, invoke, builtin, hs, hx, hrun, Result.andThen]
  exact h

theorem flatMapZ_take {α : Type} (E : El α) : ∀ (xs : List α) (t : Nat), (xs.take t).flatMap E.enc = (xs.flatMap E.enc).take (t * E.size)
  | [], t => by simp
  | x :: xs, 0 => by simp
  | x :: xs, t + 1 => by
    rw [List.take_succ_cons, List.flatMap_cons, List.flatMap_cons, flatMapZ_take E xs t, List.take_append, E.len, show (t + 1) * E.size - E.size = t * E.size by rw [Nat.add_mul]; omega, List.take_of_length_le (l := E.enc x) (by rw [E.len, Nat.add_mul]; omega)]
theorem flatMapZ_drop {α : Type} (E : El α) : ∀ (xs : List α) (t : Nat), (xs.drop t).flatMap E.enc = (xs.flatMap E.enc).drop (t * E.size)
  | [], t => by simp
  | x :: xs, 0 => by simp
  | x :: xs, t + 1 => by
    rw [List.drop_succ_cons, List.flatMap_cons, flatMapZ_drop E xs t, List.drop_append, E.len, show (t + 1) * E.size - E.size = t * E.size by rw [Nat.add_mul]; omega, List.drop_of_length_le (l := E.enc x) (by rw [E.len, Nat.add_mul]; omega), List.nil_append]
theorem oneZ_rows (xs : List Rw) : ∀ u ∈ xs.flatMap elRow.enc, u.oneCell' = true := by
  intro u hu
  obtain ⟨x, _, hx⟩ := List.mem_flatMap.1 hu
  exact elRow.one x u hx
/-- The first t elements of an own slice. -/
theorem OwnsF.cutTo {α : Type} {E : El α} {w : World} {B : Nat} {T : TypeId} {g n cap t : Nat} {xs : List α} (h : OwnsF E w B T (.slice (some ⟨g, 0, none⟩) n cap) xs) (ht : t ≤ xs.length) : OwnsF E w B T (.slice (some ⟨g, 0, none⟩) t cap) (xs.take t) := by
  have hlen : (xs.take t).length = t := by rw [List.length_take]; omega
  rcases h.2 with ⟨e, _⟩ | ⟨g', cap', cur, e, hb, hh, hn, hc, hsz, htk⟩
  · cases e
  · simp only [Value.slice.injEq, Option.some.injEq, Addr.mk.injEq, and_true] at e
    obtain ⟨rfl, rfl, rfl⟩ := e
    refine ⟨?_, .inr ⟨g, cap, cur, by rw [hlen], hb, hh, by rw [hlen]; omega, hc, hsz, ?_⟩⟩
    · rw [length_enc, hlen]
    · rw [hlen, flatMapZ_take, ← htk, List.take_take, Nat.min_eq_left (Nat.mul_le_mul_right _ ht)]
theorem insR_at : ∀ {rows : List Rw} {x : Rw} {t : Nat}, t ≤ rows.length → (∀ j, j < t → (rows.getD j rowZ).s < x.s) → (t < rows.length → ¬ (rows.getD t rowZ).s < x.s) → insR rows x = rows.take t ++ x :: rows.drop t
  | [], x, t, ht, _, _ => by simp at ht; simp [insR]
  | y :: rows, x, 0, _, _, h2 => by
    have := h2 (by simp)
    simp at this
    simp [insR, this]
  | y :: rows, x, t + 1, ht, h1, h2 => by
    have hy := h1 0 (by omega)
    simp at hy
    have ih := insR_at (rows := rows) (x := x) (t := t) (by simpa using ht) (fun j hj => by simpa using h1 (j + 1) (by omega)) (fun h => by simpa using h2 (by simpa using h))
    have ei : insR (y :: rows) x = y :: insR rows x := by simp [insR, hy]
    rw [ei, ih]; simp
end Go.Proofs.YtcmpaohefihijabGreatDoor

/- A region that draws its order and whose last operation writes a cell that others of it read: these reads may be taken first all the same, for the last operation waits for them. -/
namespace Go.Proofs.YtcmpaohefihijabGreatDoor
open Go.RowKit

section
variable {P : Program} {ops : Array Oper} {Q : Exit → Act → World → Prop} {md : Region.Mode} {S : World → Prop} {last : Nat}

/-- Whatever order is picked from here on; S holds behind each operation but the last. -/
def Till (P : Program) (md : Region.Mode) (ops : Array Oper) (Q : Exit → Act → World → Prop) (S : World → Prop) (last : Nat) : Nat → Array Bool → Act → World → Prop
  | 0, listed, a, w => Region.ready md ops listed = [] ∧ Q .normal a w
  | fuel + 1, listed, a, w => (Region.ready md ops listed = [] → Q .normal a w) ∧
      ∀ i ∈ Region.ready md ops listed, wpOp P ops Q i (fun a' w' => (i = last ∨ S w') ∧ Till P md ops Q S last fuel (listed.setIfInBounds i true) a' w') a w
theorem Till.any : ∀ (fuel : Nat) (listed : Array Bool) (a : Act) (w : World), Till P md ops Q S last fuel listed a w → wpAny P md ops Q fuel listed a w
  | 0, _, _, _, h => h
  | fuel + 1, _, _, _, h => ⟨h.1, fun i hi => wpOp_mono (fun a' w' h' => Till.any fuel _ a' w' h'.2) (h.2 i hi)⟩

/-- Operation y waits for operation x. -/
def waits (md : Region.Mode) (ops : Array Oper) (x y : Nat) : Bool := match ops[y]? with | some o => o.after.toList.any (fun e => e.on == x && Region.binds md e) | none => true
theorem waits_ready {x y : Nat} {listed : Array Bool} (h : waits md ops x y = true) (hx : listed.getD x false = false) : ¬ y ∈ Region.ready md ops listed := fun hy => by
  obtain ⟨_, o, ho, hall⟩ := mem_ready.1 hy
  unfold waits at h
  rw [ho] at h
  simp only [List.any_eq_true, Bool.and_eq_true, beq_iff_eq] at h
  obtain ⟨e, he, e1, e2⟩ := h
  have := hall e (by simpa using he) e2
  rw [e1, hx] at this
  cases this
/-- Each waits for the one before it. -/
def chain (md : Region.Mode) (ops : Array Oper) : Nat → List Nat → Bool
  | _, [] => true
  | x, y :: ys => waits md ops x y && chain md ops y ys
def unl (listed : Array Bool) (ys : List Nat) : Prop := ∀ y ∈ ys, listed.getD y false = false
theorem chain_ready : ∀ {x : Nat} {ys : List Nat} {listed : Array Bool}, chain md ops x ys = true → listed.getD x false = false → unl listed ys → ∀ y ∈ ys, ¬ y ∈ Region.ready md ops listed
  | _, [], _, _, _, _ => fun y hy => by cases hy
  | x, y :: ys, listed, h, hx, hu => fun z hz => by
    simp only [chain, Bool.and_eq_true] at h
    rcases List.mem_cons.1 hz with rfl | hz
    · exact waits_ready h.1 hx
    · exact chain_ready h.2 (hu y (by simp)) (fun q hq => hu q (by simp [hq])) z hz
theorem getD_set_off {listed : Array Bool} {j y : Nat} (h : j ≠ y) : (listed.setIfInBounds j true).getD y false = listed.getD y false := by
  simp only [Array.getD_eq_getD_getElem?, Array.getElem?_setIfInBounds_ne h]

/-- A read that the last operation waits for may be taken first. -/
theorem Till.first {i : Nat} {oi : Oper} {v : Value} {ys : List Nat} (hi : ops[i]? = some oi) (hsel : ∀ (j : Nat) (o : Oper) cs b, ops[j]? = some o → o.op ≠ .select cs b)
    (hQ : ∀ c a w, Q (.panic c) (a.put oi.dst v) w → Q (.panic c) a w) (hch : chain md ops i (ys ++ [last]) = true) :
    ∀ (fuel : Nat) (listed : Array Bool) (a : Act) (w : World),
      (∀ j oj, ops[j]? = some oj → j ≠ i → listed.getD j true = false → (∀ e ∈ oj.after, Region.binds md e = true → e.on ≠ i) → oi.apart ops oj = true) →
      i ∈ Region.ready md ops listed → unl listed (ys ++ [last]) → YieldsIf P ops S oi v a → S w →
      Till P md ops Q S last fuel (listed.setIfInBounds i true) (a.put oi.dst v) w → Till P md ops Q S last (fuel + 1) listed a w := by
  intro fuel
  induction fuel with
  | zero =>
    intro listed a w _ hr _ hy hS H
    refine ⟨fun h => (by rw [h] at hr; cases hr), fun j hj => ?_⟩
    by_cases hji : j = i
    · subst hji; exact hy.wpOp hi hS ⟨.inr hS, H⟩
    · have := ready_mono hj hji
      rw [H.1] at this
      cases this
  | succ fuel ih =>
    intro listed a w hfree hr hun hy hS H
    have hil : listed.getD i true = false := (mem_ready.1 hr).1
    have hil' : listed.getD i false = false := by
      simp only [Array.getD_eq_getD_getElem?] at hil ⊢
      cases hq : listed[i]? <;> rw [hq] at hil <;> simp_all
    refine ⟨fun h => (by rw [h] at hr; cases hr), fun j hj => ?_⟩
    by_cases hji : j = i
    · subst hji; exact hy.wpOp hi hS ⟨.inr hS, H⟩
    · have hnot' := chain_ready hch hil' hun
      have hjl : j ≠ last := fun e => hnot' last (by simp) (by rw [← e]; exact hj)
      have hun' : unl (listed.setIfInBounds j true) (ys ++ [last]) := fun y hy' => by
        rw [getD_set_off (fun e => hnot' y hy' (by rw [← e]; exact hj))]; exact hun y hy'
      have h1 := H.2 j (ready_mono hj hji)
      obtain ⟨hjun, oj, hoj, hall⟩ := mem_ready.1 hj
      have hnot : ∀ e ∈ oj.after, Region.binds md e = true → e.on ≠ i := fun e he hb heq => by
        have := hall e he hb
        rw [heq, hil'] at this; cases this
      have h2 := wpOp_putIf hoj (hfree j oj hoj hji hjun hnot) (fun cs b => hsel i oi cs b hi) (fun cs b => hsel j oj cs b hoj) hQ hy h1
      have hfree' : ∀ k ok, ops[k]? = some ok → k ≠ i → (listed.setIfInBounds j true).getD k true = false →
          (∀ e ∈ ok.after, Region.binds md e = true → e.on ≠ i) → oi.apart ops ok = true := fun k ok hk hki hu hno => by
        refine hfree k ok hk hki ?_ hno
        by_cases hjk : j = k
        · subst hjk; exact hjun
        · simp only [Array.getD_eq_getD_getElem?, Array.getElem?_setIfInBounds_ne hjk] at hu ⊢; exact hu
      refine wpOp_mono (fun a' w' h3 => ?_) h2
      have hS' : S w' := h3.2.1.elim (fun e => absurd e hjl) id
      refine ⟨.inr hS', ih (listed.setIfInBounds j true) a' w' hfree' (ready_mono hr (Ne.symm hji)) hun' h3.1 hS' ?_⟩
      rw [Array.setIfInBounds_comm _ _ hji]
      exact h3.2.2
/-- The moves of a walk, their side conditions as closed facts. -/
theorem Till.take {i : Nat} {oi : Oper} {v : Value} (ys : List Nat) {fuel : Nat} {listed : Array Bool} {a : Act} {w : World} (hi : ops[i]? = some oi)
    (hs : Region.noSelect ops = true) (hf : Region.free md ops listed i = true) (hr : (Region.ready md ops listed).contains i = true)
    (hch : (chain md ops i (ys ++ [last]) && (ys ++ [last]).all (fun y => !listed.getD y false)) = true)
    (hQ : ∀ c a w, Q (.panic c) (a.put oi.dst v) w → Q (.panic c) a w) (hy : YieldsIf P ops S oi v a) (hS : S w)
    (h : Till P md ops Q S last fuel (listed.setIfInBounds i true) (a.put oi.dst v) w) : Till P md ops Q S last (fuel + 1) listed a w := by
  rw [Bool.and_eq_true] at hch
  refine Till.first hi (Region.noSelect_spec hs) hQ hch.1 fuel listed a w (Region.free_spec hi hf) (by simpa using hr) (fun y hy' => ?_) hy hS h
  have := List.all_eq_true.1 hch.2 y hy'
  simpa using this
theorem Till.all {rs : List Nat} {fuel : Nat} {listed : Array Bool} {a : Act} {w : World} (hr : Region.ready md ops listed = rs) (hne : rs ≠ [])
    (h : ∀ i ∈ rs, wpOp P ops Q i (fun a' w' => (i = last ∨ S w') ∧ Till P md ops Q S last fuel (listed.setIfInBounds i true) a' w') a w) : Till P md ops Q S last (fuel + 1) listed a w :=
  ⟨fun h0 => absurd (hr ▸ h0) hne, hr ▸ h⟩
theorem Till.done {listed : Array Bool} {a : Act} {w : World} (hr : Region.ready md ops listed = []) (h : Q .normal a w) : ∀ fuel, Till P md ops Q S last fuel listed a w
  | 0 => ⟨hr, h⟩
  | _ + 1 => ⟨fun _ => h, by rw [hr]; simp⟩
def TillAll (P : Program) (md : Region.Mode) (ops : Array Oper) (Q : Exit → Act → World → Prop) (S : World → Prop) (last : Nat) (fuel : Nat) (listed : Array Bool) (a : Act) (w : World) (rs : List Nat) : Prop :=
  ∀ i ∈ rs, wpOp P ops Q i (fun a' w' => (i = last ∨ S w') ∧ Till P md ops Q S last fuel (listed.setIfInBounds i true) a' w') a w
theorem TillAll.nil {fuel : Nat} {listed : Array Bool} {a : Act} {w : World} : TillAll P md ops Q S last fuel listed a w [] := fun _ h => by cases h
theorem TillAll.cons {fuel : Nat} {listed : Array Bool} {a : Act} {w : World} {i : Nat} {o : Oper} {rs : List Nat} (ho : ops[i]? = some o)
    (h : ∀ K' : Act → World → Prop, Shut (∀ a w, (i = last ∨ S w) → Till P md ops Q S last fuel (listed.setIfInBounds i true) a w → K' a w) → if Region.wanted o (yielded ops a.tmps) = true then Oper.wp P o a w K' Q else K' (a.put o.dst undef) w)
    (hs : TillAll P md ops Q S last fuel listed a w rs) : TillAll P md ops Q S last fuel listed a w (i :: rs) := fun j hj => by
  rcases List.mem_cons.1 hj with rfl | hj
  · exact wpOp_step ho (fun K' hK => h K' (fun a w hS hW => hK a w ⟨hS, hW⟩))
  · exact hs j hj
theorem Till.ready {rs : List Nat} {fuel : Nat} {listed : Array Bool} {a : Act} {w : World} (hr : Region.ready md ops listed = rs) (hne : rs ≠ [])
    (h : TillAll P md ops Q S last fuel listed a w rs) : Till P md ops Q S last (fuel + 1) listed a w := Till.all hr hne h
theorem wp_region_till (S : World → Prop) (last : Nat) {id : Nat} {a : Act} {w : World} (hm : P.follows .mixedOrders = true)
    (h : Till P .any ops Q S last ops.size (Array.replicate ops.size false) a w.drew) : (Code.region id ops true).wp P Q a w :=
  wp_region_any hm (Till.any _ _ _ _ h)
end
end Go.Proofs.YtcmpaohefihijabGreatDoor

/- An append onto an own slice that is kept beside what the append returns. -/
namespace Go.Proofs.YtcmpaohefihijabGreatDoor
open Go.RowKit

theorem ownsRow_cut {w : World} {base : Nat} {e : TypeId} {size g n m cap : Nat} {xs news : List Value} (hx : xs.length = n * size) (h : w.ownsRow base e size (.slice (some ⟨g, 0, none⟩) (n + m) cap) (n + m) (xs ++ news)) : w.ownsRow base e size (.slice (some ⟨g, 0, none⟩) n cap) n xs := by
  refine ⟨hx, ?_⟩
  rcases h.2 with ⟨e9, _⟩ | ⟨g', cap', cur, e9, hb, hg, hn, hc, hs, ht⟩
  · simp at e9
  · simp only [Value.slice.injEq, Option.some.injEq, Addr.mk.injEq, and_true, true_and] at e9
    obtain ⟨e1, e2⟩ := e9
    subst e1
    subst e2
    refine .inr ⟨g, cap, cur, rfl, hb, hg, by omega, hc, hs, ?_⟩
    have h1 : (cur.toList.take ((n + m) * size)).take (n * size) = xs := by rw [ht, ← hx]; exact List.take_left
    rw [List.take_take, Nat.min_eq_left (Nat.mul_le_mul_right _ (by omega))] at h1
    exact h1
theorem ownsRow_weak {w : World} {base base' : Nat} {e : TypeId} {size n : Nat} {v : Value} {xs : List Value} (h : w.ownsRow base' e size v n xs) (hb : base ≤ base') : w.ownsRow base e size v n xs := by
  refine ⟨h.1, ?_⟩
  rcases h.2 with hn | ⟨g, cap, cur, rfl, hb', rest⟩
  · exact .inl hn
  · exact .inr ⟨g, cap, cur, rfl, Nat.le_trans hb hb', rest⟩
theorem run_append_keeps {P : Program} (w : World) (base : Nat) (t ty e : TypeId) (i : TypeInfo) (z : Value) (size bytes : Nat) (ht : P.underlying t = some (.slice e)) (hi : P.info? e = some i) (hz : i.zero = some z)
    (hsize : i.size = size) (hby : i.bytes = bytes) (hzs : z.cells.size = size) (hsz : 0 < size)
    (v : Value) (n : Nat) (xs : List Value) (hown : w.ownsRow base e size v n xs)
    (a : Addr) (m c : Nat) (news : List Value) (hl : news.length = m * size) (hnews : ∀ j u, news[j]? = some u → w.cell? (a.add j) = some u) (h1 : ∀ u ∈ news, u.oneCell' = true)
    (h63 : n + m ≤ maxLen) (hbytes : (n + m) * bytes ≤ 140737488355328) (hbase : base ≤ w.heap.size) :
    ∃ v' w', (Builtin.append_ #[t, t] ty #[v, .slice (some a) m c]).run P w = .ok v' w' ∧ w'.ownsRow base e size v' (n + m) (xs ++ news) ∧ w'.ownsRow base e size v n xs ∧ w.grownBy w' v.ownBlock := by
  obtain ⟨v', w', hr, h2, h3, -⟩ := run_append_own (P := P) w base t ty e i z size bytes ht hi hz hsize hby hzs hsz v n xs hown a m c news hl hnews h1 h63 hbytes hbase
  rcases hown.2 with ⟨e1, e2⟩ | ⟨g, cap, cur, e1, hb, hg, hnc, hcm, hcs, htk⟩
  · exact ⟨v', w', hr, h2, ⟨hown.1, .inl ⟨e1, e2⟩⟩, h3⟩
  · subst e1
    by_cases hroom : n + m ≤ cap
    · have hfit : n * i.size + news.length ≤ cur.size := by rw [hl, hcs, hsize, ← Nat.add_mul]; exact Nat.mul_le_mul_right _ hroom
      have hr2 := run_append_room (P := P) w t ty e i ht hi g n cap cur hg a m c news (by rw [hl, hsize]) hnews h1 hroom hfit
      rw [hr] at hr2
      simp only [Result.ok.injEq] at hr2
      have e2 := hr2.1
      subst e2
      exact ⟨_, w', hr, h2, ownsRow_cut hown.1 h2, h3⟩
    · obtain ⟨v2, w2, hr2, h4, h5⟩ := run_append_arg_grows (P := P) w t ty e i z size bytes ht hi hz hsize hby hzs hsz ⟨g, 0, none⟩ n cap xs hown.1 (hown.cells (g := g) rfl) a m c news hl hnews (by omega) h63 hbytes
      exact ⟨v2, w2, hr2, ownsRow_weak h4 hbase, hown.kept h5 (.inr (by simp [Value.ownBlock])), ⟨h5.os, h5.tape, h5.output, h5.size, fun k hk _ => h5.block k hk (by simp)⟩⟩
/-- As one step of a region that draws its order. -/
theorem stepK_append {P : Program} {w : World} {ops : Array Oper} {o : Oper} {a : Act} {K : Act → World → Prop} {Q : Exit → Act → World → Prop} {E : Prop} (hw : Region.wanted o (yielded ops a.tmps) = true) (s x : Operand) (t : TypeId)
    (ho : o.op = .call { callee := .builtin .append, args := #[s, x], argTypes := #[t, t] })
    (base : Nat) (e : TypeId) (i : TypeInfo) (z : Value) (size bytes : Nat) (ht : P.underlying t = some (.slice e)) (hi : P.info? e = some i) (hz : i.zero = some z)
    (hsize : i.size = size) (hby : i.bytes = bytes) (hzs : z.cells.size = size) (hsz : 0 < size)
    (v : Value) (n : Nat) (xs : List Value) (hs : a.eval s = v) (hown : w.ownsRow base e size v n xs)
    (ad : Addr) (m c : Nat) (news : List Value) (hx : a.eval x = .slice (some ad) m c) (hl : news.length = m * size) (hnews : ∀ j u, news[j]? = some u → w.cell? (ad.add j) = some u) (h1 : ∀ u ∈ news, u.oneCell' = true)
    (h63 : n + m ≤ maxLen) (hbytes : (n + m) * bytes ≤ 140737488355328) (hbase : base ≤ w.heap.size)
    (h : ∀ v' w', w'.ownsRow base e size v' (n + m) (xs ++ news) → w'.ownsRow base e size v n xs → w.grownBy w' v.ownBlock → K (a.put o.dst v') w') :
    if Region.wanted o (yielded ops a.tmps) = true then Oper.wp P o a w K Q else E := by
  rw [if_pos hw]
  obtain ⟨v', w', hr, h2, h3, h4⟩ := run_append_keeps (P := P) w base t o.type e i z size bytes ht hi hz hsize hby hzs hsz v n xs hown ad m c news hl hnews h1 h63 hbytes hbase
  unfold Oper.wp execOp
  simp only [ho, resolve, invoke, builtin, Sem.run_bind, Sem.run_pure, Result.andThen_ok, List.map_toArray, List.map_cons, List.map_nil, hs, hx, hr]
  exact h v' w' h2 h3 h4
end Go.Proofs.YtcmpaohefihijabGreatDoor

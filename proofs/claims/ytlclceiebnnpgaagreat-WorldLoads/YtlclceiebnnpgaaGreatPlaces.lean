/- Where the rows of a world lie: tables by sets, places by handles. Plain lists alone. -/
import Derived.Test.YtlclceiebnnpgaaGreatWorldModel
import Derived.Test.YtlclceiebnnpgaaGreatGroundC
namespace Go.Proofs.YtlclceiebnnpgaaGreat
open Go.RowKit

def hd (r : Rw) : Int × Int := (r.s, r.g)
theorem hd_isH {r : Rw} {a b : Int} : isH a b r = true ↔ hd r = (a, b) := by rw [isH_iff, hd, Prod.mk.injEq]
theorem hd_notH {r : Rw} {a b : Int} : isH a b r = false ↔ hd r ≠ (a, b) := by
  rw [← Bool.not_eq_true, Ne, ← hd_isH]

/-- ks: the sets that have a table; tr: its rows; hk: the handles that have a place; pl: the place; R: which rows there are. -/
structure Laid (ks : List Int) (tr : Int → List Rw) (hk : List (Int × Int)) (pl : Int × Int → Int × Nat) (R : Rw → Prop) : Prop where
  key : ∀ k ∈ ks, 0 ≤ k ∧ k ≤ 255
  out : ∀ k, ¬ k ∈ ks → tr k = []
  at_ : ∀ h ∈ hk, (pl h).1 ∈ ks ∧ (pl h).2 < (tr (pl h).1).length ∧ hd ((tr (pl h).1).getD (pl h).2 rowZ) = h
  back : ∀ k ∈ ks, ∀ i, i < (tr k).length → hd ((tr k).getD i rowZ) ∈ hk ∧ pl (hd ((tr k).getD i rowZ)) = (k, i)
  row : ∀ k ∈ ks, ∀ r ∈ tr k, r.m = k ∧ bErr r.m [r.f 0, r.f 1, r.f 2, r.f 3, r.f 4, r.f 5, r.f 6, r.f 7] = 0
  mem : ∀ r, R r ↔ ∃ k ∈ ks, r ∈ tr k

theorem getD_of_mem {α : Type} {xs : List α} {x : α} (d : α) (h : x ∈ xs) : ∃ i, i < xs.length ∧ xs.getD i d = x := by
  obtain ⟨i, hi, rfl⟩ := List.getElem_of_mem h
  exact ⟨i, hi, by rw [List.getD_eq_getElem?_getD, List.getElem?_eq_getElem hi]; rfl⟩
theorem rmL_at {α : Type} (xs : List α) (k i : Nat) (d : α) (h : i < xs.length - 1) : (rmL xs k d).getD i d = if i = k then xs.getD (xs.length - 1) d else xs.getD i d := by
  unfold rmL
  have h1 : i < xs.length := by omega
  rw [List.getD_eq_getElem?_getD, List.getElem?_dropLast, if_pos (by simpa using h), ← List.getD_eq_getElem?_getD]
  by_cases e : i = k
  · subst e; rw [if_pos rfl, getD_set_eq _ _ _ _ h1]
  · rw [if_neg e, getD_set_ne _ _ _ (Ne.symm e)]

section
variable {ks : List Int} {tr : Int → List Rw} {hk : List (Int × Int)} {pl : Int × Int → Int × Nat} {R : Rw → Prop}
theorem Laid.nil (pl : Int × Int → Int × Nat) : Laid [] (fun _ => []) [] pl (fun _ => False) := ⟨by simp, by simp, by simp, by simp, by simp, by simp⟩
theorem Laid.congr {R' : Rw → Prop} (h : Laid ks tr hk pl R) (e : ∀ r, R r ↔ R' r) : Laid ks tr hk pl R' := ⟨h.key, h.out, h.at_, h.back, h.row, fun r => (e r).symm.trans (h.mem r)⟩
theorem Laid.congr2 {tr' : Int → List Rw} {pl' : Int × Int → Int × Nat} (h : Laid ks tr hk pl R) (e : ∀ k, tr k = tr' k) (e2 : ∀ x, pl x = pl' x) : Laid ks tr' hk pl' R := by
  obtain rfl : tr = tr' := funext e
  obtain rfl : pl = pl' := funext e2
  exact h
theorem Laid.tab (h : Laid ks tr hk pl R) {k : Int} (hk' : k ∈ ks) : TabOk k (tr k) := by
  obtain ⟨h0, h1⟩ := h.key k hk'
  refine ⟨h0, h1, fun r hr => ?_⟩
  obtain ⟨e, hb⟩ := h.row k hk' r hr
  refine ⟨e, fun j hj ht => ((bErr_zero hb).2 j hj).1 (by rw [e]; exact ht)⟩
/-- The row at a handle's place. -/
theorem Laid.find (h : Laid ks tr hk pl R) {x : Int × Int} (hx : x ∈ hk) : R ((tr (pl x).1).getD (pl x).2 rowZ) ∧ hd ((tr (pl x).1).getD (pl x).2 rowZ) = x := by
  obtain ⟨h1, h2, h3⟩ := h.at_ x hx
  exact ⟨(h.mem _).2 ⟨_, h1, mem_getD h2⟩, h3⟩
theorem Laid.is (h : Laid ks tr hk pl R) {r : Rw} (hr : R r) : hd r ∈ hk ∧ (tr (pl (hd r)).1).getD (pl (hd r)).2 rowZ = r := by
  obtain ⟨k, hk', hm⟩ := (h.mem r).1 hr
  obtain ⟨i, hi, rfl⟩ := getD_of_mem rowZ hm
  obtain ⟨h1, h2⟩ := h.back k hk' i hi
  refine ⟨h1, ?_⟩
  rw [h2]
theorem Laid.uniq (h : Laid ks tr hk pl R) {r r' : Rw} (hr : R r) (hr' : R r') (e : hd r = hd r') : r = r' := by
  rw [← (h.is hr).2, ← (h.is hr').2, e]
theorem Laid.has (h : Laid ks tr hk pl R) (x : Int × Int) : x ∈ hk ↔ ∃ r, R r ∧ hd r = x :=
  ⟨fun hx => ⟨_, h.find hx⟩, fun ⟨_, hr, e⟩ => e ▸ (h.is hr).1⟩
/-- A set gets its table. -/
theorem Laid.addK (h : Laid ks tr hk pl R) {k : Int} (hn : ¬ k ∈ ks) (h0 : 0 ≤ k) (h1 : k ≤ 255) : Laid (ks ++ [k]) tr hk pl R := by
  have e := h.out k hn
  refine ⟨fun j hj => ?_, fun j hj => h.out j (fun hj' => hj (by simp [hj'])), fun x hx => ?_, fun j hj i hi => ?_, fun j hj r hr => ?_, fun r => ?_⟩
  · rcases List.mem_append.1 hj with hj | hj
    · exact h.key j hj
    · simp at hj; subst hj; exact ⟨h0, h1⟩
  · obtain ⟨a, b⟩ := h.at_ x hx
    exact ⟨by simp [a], b⟩
  · rcases List.mem_append.1 hj with hj | hj
    · exact h.back j hj i hi
    · simp at hj; subst hj; rw [e] at hi; simp at hi
  · rcases List.mem_append.1 hj with hj | hj
    · exact h.row j hj r hr
    · simp at hj; subst hj; rw [e] at hr; simp at hr
  · rw [h.mem r]
    constructor
    · rintro ⟨j, hj, hr⟩; exact ⟨j, by simp [hj], hr⟩
    · rintro ⟨j, hj, hr⟩
      rcases List.mem_append.1 hj with hj | hj
      · exact ⟨j, hj, hr⟩
      · simp at hj; subst hj; rw [e] at hr; simp at hr
/-- A row comes in. -/
theorem Laid.add (h : Laid ks tr hk pl R) {r : Rw} (hm : r.m ∈ ks) (hb : bErr r.m [r.f 0, r.f 1, r.f 2, r.f 3, r.f 4, r.f 5, r.f 6, r.f 7] = 0) (hn : ¬ hd r ∈ hk) :
    Laid ks (fun j => if j = r.m then tr r.m ++ [r] else tr j) (hk ++ [hd r]) (fun x => if x = hd r then (r.m, (tr r.m).length) else pl x) (fun x => x = r ∨ R x) := by
  have hold : ∀ k i, i < (tr k).length → (if k = r.m then tr r.m ++ [r] else tr k).getD i rowZ = (tr k).getD i rowZ := fun k i hi => by
    by_cases e : k = r.m
    · subst e; rw [if_pos rfl, getD_append_l _ _ _ _ hi]
    · rw [if_neg e]
  have hlen : ∀ k, (tr k).length ≤ (if k = r.m then tr r.m ++ [r] else tr k).length := fun k => by
    by_cases e : k = r.m
    · subst e; rw [if_pos rfl]; simp
    · rw [if_neg e]; exact Nat.le_refl _
  refine ⟨h.key, fun k hk' => ?_, fun x hx => ?_, fun k hk' i hi => ?_, fun k hk' x hx => ?_, fun x => ?_⟩
  · rw [if_neg (fun e => hk' (by rw [e]; exact hm))]; exact h.out k hk'
  · by_cases e : x = hd r
    · subst e
      simp only [if_true]
      refine ⟨hm, by simp, ?_⟩
      rw [getD_append_last]
    · have hx' : x ∈ hk := by
        rcases List.mem_append.1 hx with h1 | h1
        · exact h1
        · simp at h1; exact absurd h1 e
      simp only [if_neg e]
      obtain ⟨h1, h2, h3⟩ := h.at_ x hx'
      exact ⟨h1, Nat.lt_of_lt_of_le h2 (hlen _), by rw [hold _ _ h2]; exact h3⟩
  · by_cases hi' : i < (tr k).length
    · rw [hold k i hi']
      obtain ⟨h1, h2⟩ := h.back k hk' i hi'
      refine ⟨List.mem_append.2 (.inl h1), ?_⟩
      rw [if_neg (fun e => hn (by rw [← e]; exact h1))]; exact h2
    · by_cases e : k = r.m
      · subst e
        rw [if_pos rfl] at hi ⊢
        simp at hi
        have : i = (tr r.m).length := by omega
        subst this
        rw [getD_append_last]
        simp
      · rw [if_neg e] at hi; exact absurd hi hi'
  · by_cases e : k = r.m
    · subst e
      rw [if_pos rfl] at hx
      rcases List.mem_append.1 hx with hx | hx
      · exact h.row _ hk' x hx
      · simp at hx; subst hx; exact ⟨rfl, hb⟩
    · rw [if_neg e] at hx; exact h.row k hk' x hx
  · rw [h.mem x]
    constructor
    · rintro (rfl | ⟨k, hk', hx⟩)
      · exact ⟨x.m, hm, by simp⟩
      · refine ⟨k, hk', ?_⟩
        by_cases e : k = r.m
        · subst e; simp [hx]
        · simp [e, hx]
    · rintro ⟨k, hk', hx⟩
      by_cases e : k = r.m
      · subst e
        simp at hx
        rcases hx with hx | rfl
        · exact .inr ⟨_, hm, hx⟩
        · exact .inl rfl
      · simp [e] at hx; exact .inr ⟨k, hk', hx⟩
/-- A row goes out; the last one of its table takes its place. -/
theorem Laid.del (h : Laid ks tr hk pl R) {x : Int × Int} (hx : x ∈ hk) {k : Int} {i : Nat} (hp : pl x = (k, i)) {pl' : Int × Int → Int × Nat}
    (hpl : ∀ y, y ≠ x → pl' y = if i < (tr k).length - 1 ∧ y = hd ((tr k).getD ((tr k).length - 1) rowZ) then (k, i) else pl y) :
    Laid ks (fun j => if j = k then rmL (tr k) i rowZ else tr j) (hk.filter (fun y => !decide (y = x))) pl' (fun r => R r ∧ hd r ≠ x) := by
  obtain ⟨hkk, hil, hdx⟩ := h.at_ x hx
  rw [hp] at hkk hil hdx
  simp only at hkk hil hdx
  -- the places of the rows
  have hne : ∀ j, j < (tr k).length → j ≠ i → hd ((tr k).getD j rowZ) ≠ x := fun j hj hji e => by
    have := (h.back k hkk j hj).2
    rw [e, hp] at this
    exact hji (by have := congrArg Prod.snd this; simpa using this.symm)
  have hmemf : ∀ y, y ∈ hk.filter (fun y => !decide (y = x)) ↔ y ∈ hk ∧ y ≠ x := fun y => by rw [List.mem_filter]; simp
  refine ⟨h.key, fun j hj => ?_, fun y hy => ?_, fun j hj q hq => ?_, fun j hj r hr => ?_, fun r => ?_⟩
  · rw [if_neg (fun e => hj (by rw [e]; exact hkk))]; exact h.out j hj
  · obtain ⟨hy1, hy2⟩ := (hmemf y).1 hy
    rw [hpl y hy2]
    obtain ⟨a1, a2, a3⟩ := h.at_ y hy1
    by_cases e : i < (tr k).length - 1 ∧ y = hd ((tr k).getD ((tr k).length - 1) rowZ)
    · rw [if_pos e]
      simp only [if_true]
      refine ⟨hkk, by rw [rmL_len]; exact e.1, ?_⟩
      rw [rmL_at _ _ _ _ e.1, if_pos rfl]; exact e.2.symm
    · rw [if_neg e]
      by_cases ek : (pl y).1 = k
      · rw [ek] at a2 a3
        rw [ek]
        simp only [if_true]
        have n1 : (pl y).2 ≠ i := fun e2 => by
          rw [e2] at a3
          exact hy2 (a3.symm.trans hdx)
        have n2 : (pl y).2 ≠ (tr k).length - 1 := fun e2 => by
          rw [e2] at a3
          exact e ⟨by omega, a3.symm⟩
        refine ⟨hkk, by rw [rmL_len]; omega, ?_⟩
        rw [rmL_at _ _ _ _ (by omega), if_neg n1]; exact a3
      · rw [if_neg ek]; exact ⟨a1, a2, a3⟩
  · by_cases e : j = k
    · subst e
      rw [if_pos rfl] at hq ⊢
      rw [rmL_len] at hq
      rw [rmL_at _ _ _ _ hq]
      by_cases eq : q = i
      · subst eq
        rw [if_pos rfl]
        obtain ⟨b1, b2⟩ := h.back j hj ((tr j).length - 1) (by omega)
        have b3 := hne ((tr j).length - 1) (by omega) (by omega)
        exact ⟨(hmemf _).2 ⟨b1, b3⟩, by rw [hpl _ b3, if_pos ⟨hq, rfl⟩]⟩
      · rw [if_neg eq]
        obtain ⟨b1, b2⟩ := h.back j hj q (by omega)
        have b3 := hne q (by omega) eq
        refine ⟨(hmemf _).2 ⟨b1, b3⟩, ?_⟩
        rw [hpl _ b3, if_neg (fun e => ?_)]
        · exact b2
        · have b4 := (h.back j hj ((tr j).length - 1) (by omega)).2
          rw [← e.2, b2] at b4
          have := congrArg Prod.snd b4
          simp at this
          omega
    · rw [if_neg e] at hq ⊢
      obtain ⟨b1, b2⟩ := h.back j hj q hq
      have b3 : hd ((tr j).getD q rowZ) ≠ x := fun e2 => by
        rw [e2, hp] at b2
        exact e (by have := congrArg Prod.fst b2; simpa using this.symm)
      refine ⟨(hmemf _).2 ⟨b1, b3⟩, ?_⟩
      rw [hpl _ b3, if_neg (fun e2 => ?_)]
      · exact b2
      · have b4 := (h.back k hkk ((tr k).length - 1) (by omega)).2
        rw [← e2.2, b2] at b4
        have := congrArg Prod.fst b4
        simp at this
        exact e this
  · by_cases e : j = k
    · subst e
      rw [if_pos rfl] at hr
      obtain ⟨q, hq, rfl⟩ := getD_of_mem rowZ hr
      rw [rmL_len] at hq
      rw [rmL_at _ _ _ _ hq]
      split
      · exact h.row j hj _ (mem_getD (by omega))
      · exact h.row j hj _ (mem_getD (by omega))
    · rw [if_neg e] at hr; exact h.row j hj r hr
  · rw [h.mem r]
    constructor
    · rintro ⟨⟨j, hj, hr⟩, hrx⟩
      refine ⟨j, hj, ?_⟩
      by_cases e : j = k
      · subst e
        rw [if_pos rfl]
        obtain ⟨q, hq, rfl⟩ := getD_of_mem rowZ hr
        have hqi : q ≠ i := fun e => hrx (by rw [e]; exact hdx)
        by_cases el : q = (tr j).length - 1
        · have := mem_getD (xs := rmL (tr j) i rowZ) (i := i) (d := rowZ) (by rw [rmL_len]; omega)
          rw [rmL_at _ _ _ _ (by omega), if_pos rfl, ← el] at this
          exact this
        · have := mem_getD (xs := rmL (tr j) i rowZ) (i := q) (d := rowZ) (by rw [rmL_len]; omega)
          rw [rmL_at _ _ _ _ (by omega), if_neg hqi] at this
          exact this
      · rw [if_neg e]; exact hr
    · rintro ⟨j, hj, hr⟩
      by_cases e : j = k
      · subst e
        rw [if_pos rfl] at hr
        obtain ⟨q, hq, rfl⟩ := getD_of_mem rowZ hr
        rw [rmL_len] at hq
        rw [rmL_at _ _ _ _ hq]
        by_cases eq : q = i
        · rw [if_pos eq]
          exact ⟨⟨j, hj, mem_getD (by omega)⟩, hne _ (by omega) (by omega)⟩
        · rw [if_neg eq]
          exact ⟨⟨j, hj, mem_getD (by omega)⟩, hne _ (by omega) eq⟩
      · rw [if_neg e] at hr
        refine ⟨⟨j, hj, hr⟩, fun e2 => ?_⟩
        obtain ⟨q, hq, rfl⟩ := getD_of_mem rowZ hr
        have := (h.back j hj q hq).2
        rw [e2, hp] at this
        exact e (by have := congrArg Prod.fst this; simpa using this.symm)
/-- A row is changed in its place. -/
theorem Laid.set (h : Laid ks tr hk pl R) {x : Int × Int} (hx : x ∈ hk) {k : Int} {i : Nat} (hp : pl x = (k, i)) {r' : Rw} (hr' : hd r' = x) (hm : r'.m = k) (hb : bErr r'.m [r'.f 0, r'.f 1, r'.f 2, r'.f 3, r'.f 4, r'.f 5, r'.f 6, r'.f 7] = 0) :
    Laid ks (fun j => if j = k then (tr k).set i r' else tr j) hk pl (fun r => r = r' ∨ (R r ∧ hd r ≠ x)) := by
  obtain ⟨hkk, hil, hdx⟩ := h.at_ x hx
  rw [hp] at hkk hil hdx
  simp only at hkk hil hdx
  have hget : ∀ j q, hd ((if j = k then (tr k).set i r' else tr j).getD q rowZ) = hd ((tr j).getD q rowZ) := fun j q => by
    by_cases e : j = k
    · subst e
      rw [if_pos rfl]
      by_cases eq : i = q
      · subst eq; rw [getD_set_eq _ _ _ _ hil, hr', hdx]
      · rw [getD_set_ne _ _ _ eq]
    · rw [if_neg e]
  have hlen : ∀ j, (if j = k then (tr k).set i r' else tr j).length = (tr j).length := fun j => by
    by_cases e : j = k
    · subst e; simp
    · rw [if_neg e]
  refine ⟨h.key, fun j hj => ?_, fun y hy => ?_, fun j hj q hq => ?_, fun j hj r hr => ?_, fun r => ?_⟩
  · rw [if_neg (fun e => hj (by rw [e]; exact hkk))]; exact h.out j hj
  · obtain ⟨h1, h2, h3⟩ := h.at_ y hy
    exact ⟨h1, by rw [hlen]; exact h2, by rw [hget]; exact h3⟩
  · rw [hlen] at hq
    rw [hget]; exact h.back j hj q hq
  · by_cases e : j = k
    · subst e
      rw [if_pos rfl] at hr
      rcases List.mem_or_eq_of_mem_set hr with hr | rfl
      · exact h.row _ hj r hr
      · exact ⟨hm, hb⟩
    · rw [if_neg e] at hr; exact h.row j hj r hr
  · rw [h.mem r]
    constructor
    · rintro (rfl | ⟨⟨j, hj, hr⟩, hrx⟩)
      · refine ⟨k, hkk, ?_⟩
        simp only [if_true]
        have := mem_getD (xs := (tr k).set i r) (i := i) (d := rowZ) (by simpa using hil)
        rw [getD_set_eq _ _ _ _ hil] at this
        exact this
      · refine ⟨j, hj, ?_⟩
        by_cases e : j = k
        · subst e
          rw [if_pos rfl]
          obtain ⟨q, hq, rfl⟩ := getD_of_mem rowZ hr
          have hqi : i ≠ q := fun e => hrx (by rw [← e]; exact hdx)
          have := mem_getD (xs := (tr j).set i r') (i := q) (d := rowZ) (by simpa using hq)
          rw [getD_set_ne _ _ _ hqi] at this
          exact this
        · rw [if_neg e]; exact hr
    · rintro ⟨j, hj, hr⟩
      by_cases e : j = k
      · subst e
        rw [if_pos rfl] at hr
        obtain ⟨q, hq, rfl⟩ := getD_of_mem rowZ hr
        simp at hq
        by_cases eq : i = q
        · subst eq; rw [getD_set_eq _ _ _ _ hq]; exact .inl rfl
        · rw [getD_set_ne _ _ _ eq]
          refine .inr ⟨⟨j, hj, mem_getD hq⟩, fun e2 => ?_⟩
          have := (h.back j hj q hq).2
          rw [e2, hp] at this
          exact eq (by have := congrArg Prod.snd this; simpa using this)
      · rw [if_neg e] at hr
        refine .inr ⟨⟨j, hj, hr⟩, fun e2 => ?_⟩
        obtain ⟨q, hq, rfl⟩ := getD_of_mem rowZ hr
        have := (h.back j hj q hq).2
        rw [e2, hp] at this
        exact e (by have := congrArg Prod.fst this; simpa using this.symm)

theorem nodup_le {α : Type} [DecidableEq α] : ∀ {xs ys : List α}, xs.Nodup → (∀ x ∈ xs, x ∈ ys) → xs.length ≤ ys.length
  | [], _, _, _ => by simp
  | x :: xs, ys, hn, hs => by
    obtain ⟨h1, h2⟩ := List.nodup_cons.1 hn
    have := nodup_le (xs := xs) (ys := ys.erase x) h2 (fun y hy => (List.mem_erase_of_ne (fun e => h1 (by rw [← e]; exact hy))).2 (hs y (by simp [hy])))
    have hx := hs x (by simp)
    rw [List.length_erase_of_mem hx] at this
    have : 0 < ys.length := List.length_pos_of_mem hx
    simp; omega
theorem Laid.ksLen (h : Laid ks tr hk pl R) (hn : ks.Nodup) : ks.length ≤ 256 := by
  have := nodup_le (ys := (List.range 256).map (fun n : Nat => (n : Int))) hn (fun k hk' => by
    obtain ⟨h0, h1⟩ := h.key k hk'
    rw [List.mem_map]
    exact ⟨k.toNat, by rw [List.mem_range]; omega, by omega⟩)
  simpa using this
theorem Laid.hkLen {rows : List Rw} (h : Laid ks tr hk pl R) (hn : hk.Nodup) (hr : ∀ r, R r → r ∈ rows) : hk.length ≤ rows.length := by
  have := nodup_le (ys := rows.map hd) hn (fun x hx => by
    obtain ⟨r, hr', e⟩ := (h.has x).1 hx
    rw [List.mem_map]; exact ⟨r, hr r hr', e⟩)
  simpa using this
theorem Laid.trLen {rows : List Rw} (h : Laid ks tr hk pl R) (hr : ∀ r, R r → r ∈ rows) {k : Int} (hk' : k ∈ ks) : (tr k).length ≤ rows.length := by
  have hn : ((tr k).map hd).Nodup := by
    rw [List.nodup_iff_pairwise_ne, List.pairwise_iff_getElem]
    intro i j hi hj hij e
    simp at hi hj
    have e1 := (h.back k hk' i hi).2
    have e2 := (h.back k hk' j hj).2
    have g1 : (tr k).getD i rowZ = (tr k)[i] := by rw [List.getD_eq_getElem?_getD, List.getElem?_eq_getElem hi]; rfl
    have g2 : (tr k).getD j rowZ = (tr k)[j] := by rw [List.getD_eq_getElem?_getD, List.getElem?_eq_getElem hj]; rfl
    simp at e
    rw [g1, e, ← g2, e2] at e1
    have := congrArg Prod.snd e1
    simp at this
    omega
  have := nodup_le (ys := rows.map hd) hn (fun x hx => by
    obtain ⟨r, hr', e⟩ := List.mem_map.1 hx
    rw [List.mem_map]; exact ⟨r, hr r ((h.mem r).2 ⟨k, hk', hr'⟩), e⟩)
  simpa using this
end

/-- Rows by slots, and which there are. -/
theorem mem_set_at {rows : List Rw} (hup : rows.Pairwise (fun x y => x.s < y.s)) {a b : Int} (hi : atN rows a b < rows.length) {r' x : Rw} :
    x ∈ rows.set (atN rows a b) r' ↔ x = r' ∨ (x ∈ rows ∧ hd x ≠ (a, b)) := by
  obtain ⟨e1, e2⟩ := atN_is hi
  constructor
  · intro hx
    obtain ⟨q, hq, rfl⟩ := getD_of_mem rowZ hx
    simp at hq
    by_cases e : atN rows a b = q
    · subst e; rw [getD_set_eq _ _ _ _ hq]; exact .inl rfl
    · rw [getD_set_ne _ _ _ e]
      refine .inr ⟨mem_getD hq, fun e3 => e ?_⟩
      simp [hd] at e3
      exact idx_uniq hup hi hq (e1.trans e3.1.symm)
  · rintro (rfl | ⟨hx, hne⟩)
    · have := mem_getD (xs := rows.set (atN rows a b) x) (i := atN rows a b) (d := rowZ) (by simpa using hi)
      rwa [getD_set_eq _ _ _ _ hi] at this
    · obtain ⟨q, hq, rfl⟩ := getD_of_mem rowZ hx
      have e : atN rows a b ≠ q := fun e => hne (by rw [← e, hd, e1, e2])
      have := mem_getD (xs := rows.set (atN rows a b) r') (i := q) (d := rowZ) (by simpa using hq)
      rwa [getD_set_ne _ _ _ e] at this
theorem mem_killR {rows : List Rw} {a b : Int} {x : Rw} : x ∈ killR rows a b ↔ x ∈ rows ∧ hd x ≠ (a, b) := by
  unfold killR
  rw [List.mem_filter, Bool.not_eq_true', hd_notH]
section
variable {ks : List Int} {tr : Int → List Rw} {hk : List (Int × Int)} {pl : Int × Int → Int × Nat} {rows : List Rw} {l : List (Int × Bool)}
theorem Laid.hasH (h : Laid ks tr hk pl (· ∈ rows)) (a b : Int) : decide ((a, b) ∈ hk) = hasH rows a b := by
  rw [Bool.eq_iff_iff, decide_eq_true_eq, h.has, hasH_iff]
  constructor
  · rintro ⟨r, hr, e⟩; simp [hd] at e; exact ⟨r, hr, e⟩
  · rintro ⟨r, hr, e1, e2⟩; exact ⟨r, hr, by rw [hd, e1, e2]⟩
theorem Laid.get (h : Laid ks tr hk pl (· ∈ rows)) {a b : Int} (hx : (a, b) ∈ hk) : rows.getD (atN rows a b) rowZ = (tr (pl (a, b)).1).getD (pl (a, b)).2 rowZ := by
  have hh : Go.Proofs.YtlclceiebnnpgaaGreat.hasH rows a b = true := by rw [← h.hasH a b]; exact decide_eq_true hx
  have hi : atN rows a b < rows.length := of_decide_eq_true hh
  obtain ⟨e1, e2⟩ := atN_is hi
  have := h.is (r := rows.getD (atN rows a b) rowZ) (mem_getD hi)
  rw [hd, e1, e2] at this
  exact this.2.symm
end
end Go.Proofs.YtlclceiebnnpgaaGreat

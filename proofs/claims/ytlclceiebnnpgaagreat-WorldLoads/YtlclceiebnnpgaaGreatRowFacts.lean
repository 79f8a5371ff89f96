/- What the laws ask of the rows of a world: plain facts. -/
import Derived.Test.YtlclceiebnnpgaaGreatWorldModel
import Derived.Test.YtlclceiebnnpgaaGreatGroundA
namespace Go.Proofs.YtlclceiebnnpgaaGreat
open Go.RowKit

theorem atN_uniq {l : List (Int × Bool)} {rows : List Rw} (h : WOk l rows) {t : Nat} (ht : t < rows.length) : atN rows (rows.getD t rowZ).s (rows.getD t rowZ).g = t := by
  have hm : hasH rows (rows.getD t rowZ).s (rows.getD t rowZ).g = true := hasH_iff.2 ⟨_, mem_getD ht, rfl, rfl⟩
  have hi : atN rows (rows.getD t rowZ).s (rows.getD t rowZ).g < rows.length := of_decide_eq_true hm
  exact idx_uniq h.up hi ht (atN_is hi).1
structure RowIs (l : List (Int × Bool)) (rows : List Rw) (t : Nat) (r : Rw) : Prop where
  getE : getE rows r.s r.g = 0
  getR : getR rows r.s r.g = r
  at_ : atN rows r.s r.g = t
  has : hasH rows r.s r.g = true
  s0 : 0 ≤ r.s
  sl : r.s < l.length
  s60 : r.s < 60
  g : (l.getD r.s.toNat slotZ) = (r.g, true)
  is : I64r r.s
  ig : I64r r.g
  ok : bErr r.m [r.f 0, r.f 1, r.f 2, r.f 3, r.f 4, r.f 5, r.f 6, r.f 7] = 0
theorem WOk.rowIs {l : List (Int × Bool)} {rows : List Rw} (h : WOk l rows) {t : Nat} {r : Rw} (ht : t < rows.length) (hr : rows.getD t rowZ = r) : RowIs l rows t r := by
  subst hr
  have hmem : rows.getD t rowZ ∈ rows := mem_getD ht
  have ha := atN_uniq h ht
  have hm : hasH rows (rows.getD t rowZ).s (rows.getD t rowZ).g = true := hasH_iff.2 ⟨_, hmem, rfl, rfl⟩
  obtain ⟨h0, h1, h2⟩ := liveB_iff.1 (h.live _ hmem)
  have hl := h.slots.len
  have hg := h.slots.gen (rows.getD t rowZ).s.toNat (by omega)
  rw [h2] at hg
  simp only at hg
  refine ⟨by rw [Go.Proofs.YtlclceiebnnpgaaGreat.getE, hm]; rfl, by rw [Go.Proofs.YtlclceiebnnpgaaGreat.getR, hm, if_pos rfl, ha], ha, hm, h0, h1, by omega, h2, ⟨by omega, by omega⟩, ⟨by omega, by omega⟩, h.ok _ hmem⟩
theorem WOk.upAt {l : List (Int × Bool)} {rows : List Rw} (h : WOk l rows) {t : Nat} (ht : t + 1 < rows.length) : (rows.getD t rowZ).s < (rows.getD (t + 1) rowZ).s := by
  rw [List.getD_eq_getElem?_getD, List.getElem?_eq_getElem (by omega), List.getD_eq_getElem?_getD, List.getElem?_eq_getElem ht]
  exact List.pairwise_iff_getElem.1 h.up t (t + 1) (by omega) ht (by omega)
/-- A handle that is not a row's is at no other row; the row of a handle. -/
theorem atN_ne {rows : List Rw} {t : Nat} {r : Rw} {a b : Int} (ht : t < rows.length) (hr : rows.getD t rowZ = r) (hne : ¬ (r.s = a ∧ r.g = b)) : atN rows a b ≠ t := fun e => hne (by
  have hi : atN rows a b < rows.length := by omega
  have := atN_is hi
  rw [e, hr] at this; exact this)
theorem rowc_set (r : Rw) (j : Nat) (x : Int) (h : j < 8) : (#[.int .i64 r.s, .int .i64 r.g, .int .i64 r.m, .int .i64 (r.f 0), .int .i64 (r.f 1), .int .i64 (r.f 2), .int .i64 (r.f 3), .int .i64 (r.f 4), .int .i64 (r.f 5), .int .i64 (r.f 6), .int .i64 (r.f 7)] : Array Value).setIfInBounds (3 + j) (.int .i64 x) = #[.int .i64 r.s, .int .i64 r.g, .int .i64 r.m, .int .i64 ((upd r.f j x) 0), .int .i64 ((upd r.f j x) 1), .int .i64 ((upd r.f j x) 2), .int .i64 ((upd r.f j x) 3), .int .i64 ((upd r.f j x) 4), .int .i64 ((upd r.f j x) 5), .int .i64 ((upd r.f j x) 6), .int .i64 ((upd r.f j x) 7)] := by
  obtain rfl | rfl | rfl | rfl | rfl | rfl | rfl | rfl : j = 0 ∨ j = 1 ∨ j = 2 ∨ j = 3 ∨ j = 4 ∨ j = 5 ∨ j = 6 ∨ j = 7 := by omega
  all_goals rfl
theorem rowc_get (r : Rw) (j : Nat) (h : j < 8) : (#[.int .i64 r.s, .int .i64 r.g, .int .i64 r.m, .int .i64 (r.f 0), .int .i64 (r.f 1), .int .i64 (r.f 2), .int .i64 (r.f 3), .int .i64 (r.f 4), .int .i64 (r.f 5), .int .i64 (r.f 6), .int .i64 (r.f 7)] : Array Value)[3 + j]? = some (.int .i64 (r.f j)) := by
  obtain rfl | rfl | rfl | rfl | rfl | rfl | rfl | rfl : j = 0 ∨ j = 1 ∨ j = 2 ∨ j = 3 ∨ j = 4 ∨ j = 5 ∨ j = 6 ∨ j = 7 := by omega
  all_goals rfl
/-- What Put leaves at each row. -/
theorem putWR_at {l : List (Int × Bool)} {rows : List Rw} (h : WOk l rows) {a b k n : Int} (he : putWE rows a b k n = 0) {t : Nat} {r : Rw} (ht : t < rows.length) (hr : rows.getD t rowZ = r) :
    (putWR rows a b k n).getD t rowZ = if r.s = a ∧ r.g = b then putK r k.toNat n else r := by
  rw [putWR, if_pos he]
  by_cases e : r.s = a ∧ r.g = b
  · rw [if_pos e]
    have := (h.rowIs ht hr).at_
    rw [e.1, e.2] at this
    rw [this, getD_set_eq _ _ _ _ ht, hr]
  · rw [if_neg e, getD_set_ne _ _ _ (atN_ne ht hr e), hr]
theorem putWE_zero {rows : List Rw} {a b k n : Int} (h : putWE rows a b k n = 0) : hasH rows a b = true ∧ inB k 0 7 = true ∧ inB n (-1000000000) 1000000000 = true := by
  unfold putWE at h
  cases h1 : hasH rows a b <;> cases h2 : inB k 0 7 <;> cases h3 : inB n (-1000000000) 1000000000 <;> rw [h1, h2, h3] at h <;> simp at h ⊢
theorem putWR_len (rows : List Rw) (a b k n : Int) : (putWR rows a b k n).length = rows.length := by unfold putWR; split <;> simp
theorem WOk.eqS {l : List (Int × Bool)} {rows : List Rw} (h : WOk l rows) {x y : Rw} (hx : x ∈ rows) (hy : y ∈ rows) (e : x.s = y.s) : x = y := by
  obtain ⟨i, hi, rfl⟩ := List.getElem_of_mem hx
  obtain ⟨j, hj, rfl⟩ := List.getElem_of_mem hy
  have g1 : rows.getD i rowZ = rows[i] := by rw [List.getD_eq_getElem?_getD, List.getElem?_eq_getElem hi]; rfl
  have g2 : rows.getD j rowZ = rows[j] := by rw [List.getD_eq_getElem?_getD, List.getElem?_eq_getElem hj]; rfl
  have := idx_uniq h.up hi hj (by rw [g1, g2]; exact e)
  subst this; rfl
theorem WOk.anyF {l : List (Int × Bool)} {rows : List Rw} (h : WOk l rows) {r : Rw} (hr : r ∈ rows) (p : Rw → Bool) : (rows.filter p).any (fun y => y.s == r.s) = p r := by
  cases hp : p r
  · rw [List.any_eq_false]
    intro y hy e
    obtain ⟨h1, h2⟩ := List.mem_filter.1 hy
    rw [h.eqS h1 hr (eq_of_beq e), hp] at h2
    cases h2
  · rw [List.any_eq_true]
    exact ⟨r, List.mem_filter.2 ⟨hr, hp⟩, by simp⟩
theorem filter_both (rows : List Rw) (p : Rw → Bool) : (rows.filter p).length + (rows.filter (fun r => !p r)).length = rows.length := by
  induction rows with
  | nil => rfl
  | cons r rows ih => cases hp : p r <;> simp [hp] <;> omega
/-- The row of a handle. -/
theorem WOk.hand {l : List (Int × Bool)} {rows : List Rw} (h : WOk l rows) {a b : Int} (hh : hasH rows a b = true) : ∃ i r, i < rows.length ∧ rows.getD i rowZ = r ∧ atN rows a b = i ∧ r.s = a ∧ r.g = b ∧ RowIs l rows i r := by
  have hi : atN rows a b < rows.length := of_decide_eq_true hh
  obtain ⟨e1, e2⟩ := atN_is hi
  exact ⟨_, _, hi, rfl, rfl, e1, e2, h.rowIs hi rfl⟩
/-- .. changed, its handle kept. -/
theorem WOk.handSet {l : List (Int × Bool)} {rows : List Rw} {i : Nat} {r : Rw} (h : WOk l (rows.set i r)) (hi : i < rows.length) : RowIs l (rows.set i r) i r :=
  h.rowIs (by simpa using hi) (getD_set_eq _ _ _ _ hi)
theorem dropK_bit {r : Rw} {j : Nat} (hb : bErr r.m [r.f 0, r.f 1, r.f 2, r.f 3, r.f 4, r.f 5, r.f 6, r.f 7] = 0) (hj : j < 8) (ht : tb r.m j = true) : tb (dropK r j).m j = false := by
  have h1 := (bErr_zero hb).1
  have := (bit_out r.m j h1.1 h1.2 hj ht).2 j hj
  rw [show (dropK r j).m = r.m - 2 ^ j from rfl, this]; simp
theorem drop_facts {l : List (Int × Bool)} {rows : List Rw} (h : WOk l rows) {a b : Int} (hh : hasH rows a b = true) {r : Rw} (hr : getR rows a b = r) {j : Nat} (hj : j < 8) (ht : tb r.m j = true) :
    dropE rows a b j = 0 ∧ getE (dropR rows a b j) a b = 0 ∧ getR (dropR rows a b j) a b = dropK r j ∧ dropE (dropR rows a b j) a b j = 5 ∧ dropR (dropR rows a b j) a b j = dropR rows a b j ∧
      putWE (dropR rows a b j) a b j (r.f j) = 0 ∧ 0 < (putWR (dropR rows a b j) a b j (r.f j)).length ∧ tb (dropK r j).m j = false ∧ (dropK r j).f j = 0 := by
  obtain ⟨i, q, hi, hq, hat, e1, e2, hri⟩ := h.hand hh
  obtain rfl : q = r := by rw [← hr, getR, hh, if_pos rfl, hat, hq]
  have hk : inB (j : Int) 0 7 = true := by simp [inB]; omega
  have he : dropE rows a b j = 0 := by rw [dropE, hh, hk, hat, hq, Int.toNat_natCast, ht]; rfl
  have hd : dropR rows a b j = rows.set i (dropK q j) := by rw [dropR, if_pos he, hat, hq, Int.toNat_natCast]
  have hw := h.drop a b j
  rw [hd] at hw ⊢
  have hr2 := hw.handSet hi
  have s1 : (dropK q j).s = a := e1
  have s2 : (dropK q j).g = b := e2
  have hb := dropK_bit hri.ok hj ht
  have hg : (rows.set i (dropK q j)).getD i rowZ = dropK q j := getD_set_eq _ _ _ _ hi
  have ha2 := hr2.at_
  have hh2 := hr2.has
  have hE2 := hr2.getE
  have hR2 := hr2.getR
  rw [s1, s2] at ha2 hh2 hE2 hR2
  have he2 : dropE (rows.set i (dropK q j)) a b j = 5 := by rw [dropE, hh2, hk, ha2, hg, Int.toNat_natCast, hb]; rfl
  refine ⟨he, hE2, hR2, he2, by rw [dropR, he2]; rfl, ?_, by rw [putWR_len]; simp; omega, hb, by simp [dropK, upd]⟩
  rw [putWE, hh2, hk, ((bErr_zero hri.ok).2 j hj).2]; rfl
theorem put_drop_facts {l : List (Int × Bool)} {rows : List Rw} (h : WOk l rows) {a b : Int} (hh : hasH rows a b = true) {r : Rw} (hr : getR rows a b = r) {j : Nat} (hj : j < 8) {n : Int} (hn : inB n (-1000000000) 1000000000 = true) (ht : tb r.m j = false) :
    putWE rows a b j n = 0 ∧ dropE (putWR rows a b j n) a b j = 0 ∧ getE (dropR (putWR rows a b j n) a b j) a b = 0 ∧ getR (dropR (putWR rows a b j n) a b j) a b = r := by
  obtain ⟨i, q, hi, hq, hat, e1, e2, hri⟩ := h.hand hh
  obtain rfl : q = r := by rw [← hr, getR, hh, if_pos rfl, hat, hq]
  have hk : inB (j : Int) 0 7 = true := by simp [inB]; omega
  have he : putWE rows a b j n = 0 := by rw [putWE, hh, hk, hn]; rfl
  have hp : putWR rows a b j n = rows.set i (putK q j n) := by rw [putWR, if_pos he, hat, hq, Int.toNat_natCast]
  have hw := h.put a b j n
  rw [hp] at hw ⊢
  have hr2 := hw.handSet hi
  have s1 : (putK q j n).s = a := e1
  have s2 : (putK q j n).g = b := e2
  have ha2 := hr2.at_
  have hh2 := hr2.has
  rw [s1, s2] at ha2 hh2
  have hg : (rows.set i (putK q j n)).getD i rowZ = putK q j n := getD_set_eq _ _ _ _ hi
  have hm := (bErr_zero hri.ok).1
  have hpm : (putK q j n).m = q.m + 2 ^ j := by simp [putK, ht]
  have hbit : tb (putK q j n).m j = true := by
    rw [hpm, (bit_in q.m j hm.1 hm.2 hj ht).2 j hj]; simp
  have he2 : dropE (rows.set i (putK q j n)) a b j = 0 := by rw [dropE, hh2, hk, ha2, hg, Int.toNat_natCast, hbit]; rfl
  have hd : dropR (rows.set i (putK q j n)) a b j = rows.set i (dropK (putK q j n) j) := by rw [dropR, if_pos he2, ha2, hg, Int.toNat_natCast, List.set_set]
  have hback : dropK (putK q j n) j = q := by
    have h0 := ((bErr_zero hri.ok).2 j hj).1 ht
    have hf : upd (upd q.f j n) j 0 = q.f := by
      funext k
      unfold upd
      by_cases e : k = j
      · rw [if_pos e, e, h0]
      · rw [if_neg e, if_neg e]
    have h1 : dropK (putK q j n) j = ⟨q.s, q.g, (putK q j n).m - 2 ^ j, upd (upd q.f j n) j 0⟩ := rfl
    rw [h1, hf, hpm, Int.add_sub_cancel]
  have hw2 := hw.drop a b j
  rw [hd, hback] at hw2 ⊢
  have hr3 := hw2.handSet hi
  have hE := hr3.getE
  have hR := hr3.getR
  rw [e1, e2] at hE hR
  exact ⟨he, he2, hE, hR⟩
theorem gensL_atR {l : List (Int × Bool)} (k : Nat) : (gensL l).getD k 0 = (l.getD k slotZ).1 := by
  simp only [gensL, List.getD_eq_getElem?_getD, List.getElem?_map]
  cases l[k]? <;> rfl
theorem gensL_lenR (l : List (Int × Bool)) : (gensL l).length = l.length := by simp [gensL]
end Go.Proofs.YtlclceiebnnpgaaGreat

/- What the laws ask of the rows of a world: plain facts. -/
import Derived.Test.YtakoejopgdaknaaWorldModel
import Derived.Test.YtakoejopgdaknaaMapsOwn
namespace Go.Proofs.Ytakoejopgdaknaa
open Go.RowKit

theorem atN_uniq {l : List (Int × Bool)} {rows : List Rw} (h : WOk l rows) {t : Nat} (ht : t < rows.length) : atN rows (rows.getD t rowZ).s (rows.getD t rowZ).g = t := by
  have hm : hasH rows (rows.getD t rowZ).s (rows.getD t rowZ).g = true := hasH_iff.2 ⟨_, mem_getD ht, rfl, rfl⟩
  have hi : atN rows (rows.getD t rowZ).s (rows.getD t rowZ).g < rows.length := of_decide_eq_true hm
  exact idx_uniq h.up hi ht (atN_is hi).1
structure RowIs (l : List (Int × Bool)) (rows : List Rw) (t : Nat) (r : Rw) : Prop where
  getE : getE rows r.s r.g = 0
  getR : getR rows r.s r.g = r
  at_ : atN rows r.s r.g = t
  has : hasH rows r.s r.g = true
  s0 : 0 ≤ r.s
  sl : r.s < l.length
  s60 : r.s < 60
  g : (l.getD r.s.toNat slotZ) = (r.g, true)
  is : I64r r.s
  ig : I64r r.g
  ok : bErr r.m [r.f 0, r.f 1, r.f 2, r.f 3, r.f 4, r.f 5, r.f 6, r.f 7] = 0
theorem WOk.rowIs {l : List (Int × Bool)} {rows : List Rw} (h : WOk l rows) {t : Nat} {r : Rw} (ht : t < rows.length) (hr : rows.getD t rowZ = r) : RowIs l rows t r := by
  subst hr
  have hmem : rows.getD t rowZ ∈ rows := mem_getD ht
  have ha := atN_uniq h ht
  have hm : hasH rows (rows.getD t rowZ).s (rows.getD t rowZ).g = true := hasH_iff.2 ⟨_, hmem, rfl, rfl⟩
  obtain ⟨h0, h1, h2⟩ := liveB_iff.1 (h.live _ hmem)
  have hl := h.slots.len
  have hg := h.slots.gen (rows.getD t rowZ).s.toNat (by omega)
  rw [h2] at hg
  simp only at hg
  refine ⟨by rw [Go.Proofs.Ytakoejopgdaknaa.getE, hm]; rfl, by rw [Go.Proofs.Ytakoejopgdaknaa.getR, hm, if_pos rfl, ha], ha, hm, h0, h1, by omega, h2, ⟨by omega, by omega⟩, ⟨by omega, by omega⟩, h.ok _ hmem⟩
theorem WOk.upAt {l : List (Int × Bool)} {rows : List Rw} (h : WOk l rows) {t : Nat} (ht : t + 1 < rows.length) : (rows.getD t rowZ).s < (rows.getD (t + 1) rowZ).s := by
  rw [List.getD_eq_getElem?_getD, List.getElem?_eq_getElem (by omega), List.getD_eq_getElem?_getD, List.getElem?_eq_getElem ht]
  exact List.pairwise_iff_getElem.1 h.up t (t + 1) (by omega) ht (by omega)
/-- A handle that is not a row's is at no other row; the row of a handle. -/
theorem atN_ne {rows : List Rw} {t : Nat} {r : Rw} {a b : Int} (ht : t < rows.length) (hr : rows.getD t rowZ = r) (hne : ¬ (r.s = a ∧ r.g = b)) : atN rows a b ≠ t := fun e => hne (by
  have hi : atN rows a b < rows.length := by omega
  have := atN_is hi
  rw [e, hr] at this; exact this)
theorem rowc_set (r : Rw) (j : Nat) (x : Int) (h : j < 8) : (#[.int .i64 r.s, .int .i64 r.g, .int .i64 r.m, .int .i64 (r.f 0), .int .i64 (r.f 1), .int .i64 (r.f 2), .int .i64 (r.f 3), .int .i64 (r.f 4), .int .i64 (r.f 5), .int .i64 (r.f 6), .int .i64 (r.f 7)] : Array Value).setIfInBounds (3 + j) (.int .i64 x) = #[.int .i64 r.s, .int .i64 r.g, .int .i64 r.m, .int .i64 ((upd r.f j x) 0), .int .i64 ((upd r.f j x) 1), .int .i64 ((upd r.f j x) 2), .int .i64 ((upd r.f j x) 3), .int .i64 ((upd r.f j x) 4), .int .i64 ((upd r.f j x) 5), .int .i64 ((upd r.f j x) 6), .int .i64 ((upd r.f j x) 7)] := by
  obtain rfl | rfl | rfl | rfl | rfl | rfl | rfl | rfl : j = 0 ∨ j = 1 ∨ j = 2 ∨ j = 3 ∨ j = 4 ∨ j = 5 ∨ j = 6 ∨ j = 7 := by omega
  all_goals rfl
theorem rowc_get (r : Rw) (j : Nat) (h : j < 8) : (#[.int .i64 r.s, .int .i64 r.g, .int .i64 r.m, .int .i64 (r.f 0), .int .i64 (r.f 1), .int .i64 (r.f 2), .int .i64 (r.f 3), .int .i64 (r.f 4), .int .i64 (r.f 5), .int .i64 (r.f 6), .int .i64 (r.f 7)] : Array Value)[3 + j]? = some (.int .i64 (r.f j)) := by
  obtain rfl | rfl | rfl | rfl | rfl | rfl | rfl | rfl : j = 0 ∨ j = 1 ∨ j = 2 ∨ j = 3 ∨ j = 4 ∨ j = 5 ∨ j = 6 ∨ j = 7 := by omega
  all_goals rfl
/-- What Put leaves at each row. -/
theorem putWR_at {l : List (Int × Bool)} {rows : List Rw} (h : WOk l rows) {a b k n : Int} (he : putWE rows a b k n = 0) {t : Nat} {r : Rw} (ht : t < rows.length) (hr : rows.getD t rowZ = r) :
    (putWR rows a b k n).getD t rowZ = if r.s = a ∧ r.g = b then putK r k.toNat n else r := by
  rw [putWR, if_pos he]
  by_cases e : r.s = a ∧ r.g = b
  · rw [if_pos e]
    have := (h.rowIs ht hr).at_
    rw [e.1, e.2] at this
    rw [this, getD_set_eq _ _ _ _ ht, hr]
  · rw [if_neg e, getD_set_ne _ _ _ (atN_ne ht hr e), hr]
theorem putWE_zero {rows : List Rw} {a b k n : Int} (h : putWE rows a b k n = 0) : hasH rows a b = true ∧ inB k 0 7 = true ∧ inB n (-1000000000) 1000000000 = true := by
  unfold putWE at h
  cases h1 : hasH rows a b <;> cases h2 : inB k 0 7 <;> cases h3 : inB n (-1000000000) 1000000000 <;> rw [h1, h2, h3] at h <;> simp at h ⊢
theorem putWR_len (rows : List Rw) (a b k n : Int) : (putWR rows a b k n).length = rows.length := by unfold putWR; split <;> simp
theorem gensL_atR {l : List (Int × Bool)} (k : Nat) : (gensL l).getD k 0 = (l.getD k slotZ).1 := by
  simp only [gensL, List.getD_eq_getElem?_getD, List.getElem?_map]
  cases l[k]? <;> rfl
theorem gensL_lenR (l : List (Int × Bool)) : (gensL l).length = l.length := by simp [gensL]
end Go.Proofs.Ytakoejopgdaknaa

/- The contract of find of package world; sets of one component. -/
import Derived.Test.YtlclceiebnnpgaaGreatWorldKit
namespace Go.Proofs.YtlclceiebnnpgaaGreat
set_option maxRecDepth 8000
open Go.RowKit

/-- One bit of a set: seen, put in, taken out. -/
theorem bit_and (m : Int) (k : Nat) (h0 : 0 ≤ m) (h1 : m ≤ 255) (hk : k < 8) : bits .and .i64 m (2 ^ k) = if tb m k then 2 ^ k else 0 := by
  have key : ∀ (x : Fin 256) (y : Fin 8), bits .and .i64 (x.val : Int) (2 ^ y.val) = if tb (x.val : Int) y.val then 2 ^ y.val else 0 := by decide +kernel
  obtain ⟨n, rfl⟩ := Int.eq_ofNat_of_zero_le h0
  exact key ⟨n, by omega⟩ ⟨k, hk⟩
theorem bit_or (m : Int) (k : Nat) (h0 : 0 ≤ m) (h1 : m ≤ 255) (hk : k < 8) (ht : tb m k = false) : bits .or .i64 m (2 ^ k) = m + 2 ^ k := by
  have key : ∀ (x : Fin 256) (y : Fin 8), tb (x.val : Int) y.val = false → bits .or .i64 (x.val : Int) (2 ^ y.val) = (x.val : Int) + 2 ^ y.val := by decide +kernel
  obtain ⟨n, rfl⟩ := Int.eq_ofNat_of_zero_le h0
  exact key ⟨n, by omega⟩ ⟨k, hk⟩ ht
theorem bit_andNot (m : Int) (k : Nat) (h0 : 0 ≤ m) (h1 : m ≤ 255) (hk : k < 8) (ht : tb m k = true) : bits .andNot .i64 m (2 ^ k) = m - 2 ^ k := by
  have key : ∀ (x : Fin 256) (y : Fin 8), tb (x.val : Int) y.val = true → bits .andNot .i64 (x.val : Int) (2 ^ y.val) = (x.val : Int) - 2 ^ y.val := by decide +kernel
  obtain ⟨n, rfl⟩ := Int.eq_ofNat_of_zero_le h0
  exact key ⟨n, by omega⟩ ⟨k, hk⟩ ht
theorem bit_zero_or (k : Nat) (hk : k < 8) : bits .or .i64 0 (2 ^ k) = 2 ^ k := by
  have := bit_or 0 k (by decide) (by decide) hk (tb_zero k)
  rw [this]; omega
theorem ofR_one (k : Int) : ofR [k] = if inB k 0 7 then (2 ^ k.toNat, 0) else (0, 1) := by
  unfold ofR
  rw [inB_isK]
  cases h : isK k
  · simp [h]
  · have hk := inB_t ((inB_isK k).trans h)
    simp [h, setOf]
    exact bit_zero_or _ (by omega)
theorem Ints.one (w : World) (x : Int) (t : TypeId) : Ints (w.alloc (.cells #[.int .i64 x] t)) (.slice (some ⟨w.heap.size, 0, none⟩) 1 1) [x] := by
  refine ⟨_, 1, rfl, by simp, by simp [maxLen], fun k hk => ⟨_, _, rfl, by simp, ?_⟩⟩
  simp at hk
  subst hk
  simp

def findE (rows : List Rw) (a b k : Int) : Int := if hasH rows a b then (if inB k 0 7 then 0 else 1) else 7
def findR (rows : List Rw) (a b k : Int) : Rw := if findE rows a b k = 0 then getR rows a b else rowZ
def findS (rows : List Rw) (a b k : Int) : Int := if findE rows a b k = 0 then 2 ^ k.toNat else 0
def FindPost (w : World) (rows : List Rw) (a b k : Int) (e : Ending) (w' : World) : Prop :=
  e = .returned (.tuple #[.agg #[.int .i64 (findR rows a b k).m, .int .i64 ((findR rows a b k).f 0), .int .i64 ((findR rows a b k).f 1), .int .i64 ((findR rows a b k).f 2), .int .i64 ((findR rows a b k).f 3), .int .i64 ((findR rows a b k).f 4), .int .i64 ((findR rows a b k).f 5), .int .i64 ((findR rows a b k).f 6), .int .i64 ((findR rows a b k).f 7)], .int .i64 (findS rows a b k), .int .i64 (findE rows a b k)]) ∧ Below w.heap.size w w'

set_option maxHeartbeats 4000000 in
theorem worldFind_any (p : Nat) (F : Nat → Prop) (l : List (Int × Bool)) (rows : List Rw) (a b k : Int) (w : World) (h : WldAt w p F l (· ∈ rows)) (ha : I64r a) (hb : I64r b) :
    Calls Tryz.prog 53 #[.pointer (some ⟨p, 0, none⟩), .agg #[.int .i64 a, .int .i64 b], .int .i64 k] w (FindPost w rows a b k) := by
  cases hh : hasH rows a b
  · have HF : Hid (findE rows a b k = 7 ∧ findS rows a b k = 0 ∧ findR rows a b k = rowZ) := Lib.hid (by
      have h7 : findE rows a b k = 7 := by rw [findE, hh]; rfl
      exact ⟨h7, by rw [findS, h7]; rfl, by rw [findR, h7]; rfl⟩)
    have hX : Below w.heap.size w ((w.alloc (.cells #[.int .i64 a, .int .i64 b] 28)).alloc (.cells #[.int .i64 0, .int .i64 0, .int .i64 0, .int .i64 0, .int .i64 0, .int .i64 0, .int .i64 0, .int .i64 0, .int .i64 0] 26)) := nb_alloc (nb_alloc (Below.refl _ _) _) _
    have hb1 : ((w.alloc (.cells #[.int .i64 a, .int .i64 b] 28)).alloc (.cells #[.int .i64 0, .int .i64 0, .int .i64 0, .int .i64 0, .int .i64 0, .int .i64 0, .int .i64 0, .int .i64 0, .int .i64 0] 26)).heap[w.heap.size + 1]? = some (.cells #[.int .i64 0, .int .i64 0, .int .i64 0, .int .i64 0, .int .i64 0, .int .i64 0, .int .i64 0, .int .i64 0, .int .i64 0] 26) := heap_alloc2_new _ _ _
    have hbl := (Array.getElem?_eq_some_iff.1 hb1).1
    have HW := Lib.hid (h.later hX)
    have HX := Lib.hid hX
    have HB1 := Lib.hid hb1
    clear h hX hb1
    go_enter Tryz.func53, Tryz.ntmps53
    go_wp2_with fail
    generalize ((w.alloc (.cells #[.int .i64 a, .int .i64 b] 28)).alloc (.cells #[.int .i64 0, .int .i64 0, .int .i64 0, .int .i64 0, .int .i64 0, .int .i64 0, .int .i64 0, .int .i64 0, .int .i64 0] 26)) = X at *
    refine (worldGet_no p F l rows a b _ HW.out ha hb hh).mono ?_
    rintro e w1 ⟨rfl, hb1⟩
    have hq1 : w1.heap[w.heap.size + 1]? = some (.cells #[.int .i64 0, .int .i64 0, .int .i64 0, .int .i64 0, .int .i64 0, .int .i64 0, .int .i64 0, .int .i64 0, .int .i64 0] 26) := by rw [hb1.block _ hbl]; exact HB1.out
    have kz0 : w1.cell? ⟨w.heap.size + 1, 0, none⟩ = some (.int .i64 0) := by rw [cell_of_row _ _ _ _ _ _ hq1]; rfl
    have kz1 : w1.cell? ⟨w.heap.size + 1, 1, none⟩ = some (.int .i64 0) := by rw [cell_of_row _ _ _ _ _ _ hq1]; rfl
    have kz2 : w1.cell? ⟨w.heap.size + 1, 2, none⟩ = some (.int .i64 0) := by rw [cell_of_row _ _ _ _ _ _ hq1]; rfl
    have kz3 : w1.cell? ⟨w.heap.size + 1, 3, none⟩ = some (.int .i64 0) := by rw [cell_of_row _ _ _ _ _ _ hq1]; rfl
    have kz4 : w1.cell? ⟨w.heap.size + 1, 4, none⟩ = some (.int .i64 0) := by rw [cell_of_row _ _ _ _ _ _ hq1]; rfl
    have kz5 : w1.cell? ⟨w.heap.size + 1, 5, none⟩ = some (.int .i64 0) := by rw [cell_of_row _ _ _ _ _ _ hq1]; rfl
    have kz6 : w1.cell? ⟨w.heap.size + 1, 6, none⟩ = some (.int .i64 0) := by rw [cell_of_row _ _ _ _ _ _ hq1]; rfl
    have kz7 : w1.cell? ⟨w.heap.size + 1, 7, none⟩ = some (.int .i64 0) := by rw [cell_of_row _ _ _ _ _ _ hq1]; rfl
    have kz8 : w1.cell? ⟨w.heap.size + 1, 8, none⟩ = some (.int .i64 0) := by rw [cell_of_row _ _ _ _ _ _ hq1]; rfl
    have fz : ∀ j, w1.frozen? ⟨w.heap.size + 1, j, none⟩ = false := fun j => frozen_of_row _ _ _ _ _ hq1
    have hl1 := (Array.getElem?_eq_some_iff.1 hq1).1
    have hl2 : w.heap.size + 1 < w1.heap.size + 1 := by omega
    have HB := Lib.hid (nb_trans HX.out hb1)
    clear hb1 hq1 hbl
    clear hh
    go_wp2
    refine bodyPost_ret (v := .tuple #[.agg #[.int .i64 rowZ.m, .int .i64 (rowZ.f 0), .int .i64 (rowZ.f 1), .int .i64 (rowZ.f 2), .int .i64 (rowZ.f 3), .int .i64 (rowZ.f 4), .int .i64 (rowZ.f 5), .int .i64 (rowZ.f 6), .int .i64 (rowZ.f 7)], .int .i64 0, .int .i64 7]) (by simp [results, Tryz.results53, go_sem, rowZ, hl1, kz0, kz1, kz2, kz3, kz4, kz5, kz6, kz7, kz8]) rfl ⟨by rw [HF.out.1, HF.out.2.1, HF.out.2.2], ?_⟩
    refine nb_alloc ?_ _
    iterate 9 (refine nb_set ?_ _ _ _ (by omega))
    exact HB.out
  · obtain ⟨r, hr⟩ : ∃ r, rows.getD (atN rows a b) rowZ = r := ⟨_, rfl⟩
    have HR : Hid (getR rows a b = r) := Lib.hid ((getE_yes hh).2.trans hr)
    have HRG := Lib.hid hr
    clear hr
    have hX : Below w.heap.size w ((w.alloc (.cells #[.int .i64 a, .int .i64 b] 28)).alloc (.cells #[.int .i64 0, .int .i64 0, .int .i64 0, .int .i64 0, .int .i64 0, .int .i64 0, .int .i64 0, .int .i64 0, .int .i64 0] 26)) := nb_alloc (nb_alloc (Below.refl _ _) _) _
    have hb1 : ((w.alloc (.cells #[.int .i64 a, .int .i64 b] 28)).alloc (.cells #[.int .i64 0, .int .i64 0, .int .i64 0, .int .i64 0, .int .i64 0, .int .i64 0, .int .i64 0, .int .i64 0, .int .i64 0] 26)).heap[w.heap.size + 1]? = some (.cells #[.int .i64 0, .int .i64 0, .int .i64 0, .int .i64 0, .int .i64 0, .int .i64 0, .int .i64 0, .int .i64 0, .int .i64 0] 26) := heap_alloc2_new _ _ _
    have hbl := (Array.getElem?_eq_some_iff.1 hb1).1
    have HW := Lib.hid (h.later hX)
    have HX := Lib.hid hX
    have HB1 := Lib.hid hb1
    clear h hX hb1
    go_enter Tryz.func53, Tryz.ntmps53
    go_wp2_with fail
    generalize ((w.alloc (.cells #[.int .i64 a, .int .i64 b] 28)).alloc (.cells #[.int .i64 0, .int .i64 0, .int .i64 0, .int .i64 0, .int .i64 0, .int .i64 0, .int .i64 0, .int .i64 0, .int .i64 0] 26)) = X at *
    refine (worldGet_yes p F l rows a b r _ HW.out ha hb hh HRG.out).mono ?_
    rintro e w1 ⟨rfl, hb1⟩
    have hq1 : w1.heap[w.heap.size + 1]? = some (.cells #[.int .i64 0, .int .i64 0, .int .i64 0, .int .i64 0, .int .i64 0, .int .i64 0, .int .i64 0, .int .i64 0, .int .i64 0] 26) := by rw [hb1.block _ hbl]; exact HB1.out
    have kz0 : w1.cell? ⟨w.heap.size + 1, 0, none⟩ = some (.int .i64 0) := by rw [cell_of_row _ _ _ _ _ _ hq1]; rfl
    have kz1 : w1.cell? ⟨w.heap.size + 1, 1, none⟩ = some (.int .i64 0) := by rw [cell_of_row _ _ _ _ _ _ hq1]; rfl
    have kz2 : w1.cell? ⟨w.heap.size + 1, 2, none⟩ = some (.int .i64 0) := by rw [cell_of_row _ _ _ _ _ _ hq1]; rfl
    have kz3 : w1.cell? ⟨w.heap.size + 1, 3, none⟩ = some (.int .i64 0) := by rw [cell_of_row _ _ _ _ _ _ hq1]; rfl
    have kz4 : w1.cell? ⟨w.heap.size + 1, 4, none⟩ = some (.int .i64 0) := by rw [cell_of_row _ _ _ _ _ _ hq1]; rfl
    have kz5 : w1.cell? ⟨w.heap.size + 1, 5, none⟩ = some (.int .i64 0) := by rw [cell_of_row _ _ _ _ _ _ hq1]; rfl
    have kz6 : w1.cell? ⟨w.heap.size + 1, 6, none⟩ = some (.int .i64 0) := by rw [cell_of_row _ _ _ _ _ _ hq1]; rfl
    have kz7 : w1.cell? ⟨w.heap.size + 1, 7, none⟩ = some (.int .i64 0) := by rw [cell_of_row _ _ _ _ _ _ hq1]; rfl
    have kz8 : w1.cell? ⟨w.heap.size + 1, 8, none⟩ = some (.int .i64 0) := by rw [cell_of_row _ _ _ _ _ _ hq1]; rfl
    have fz : ∀ j, w1.frozen? ⟨w.heap.size + 1, j, none⟩ = false := fun j => frozen_of_row _ _ _ _ _ hq1
    have hl1 := (Array.getElem?_eq_some_iff.1 hq1).1
    have hl2 : w.heap.size + 1 < w1.heap.size + 1 := by omega
    have HB := Lib.hid (nb_trans HX.out hb1)
    clear hb1 hq1 hbl
    have HOF := Lib.hid (ofR_one k)
    have HI1 : Hid (Ints ((w1.alloc (.cells #[.int .i64 r.m, .int .i64 (r.f 0), .int .i64 (r.f 1), .int .i64 (r.f 2), .int .i64 (r.f 3), .int .i64 (r.f 4), .int .i64 (r.f 5), .int .i64 (r.f 6), .int .i64 (r.f 7)] 26)).alloc (.cells #[.int .i64 k] 3)) (.slice (some ⟨(w1.alloc (.cells #[.int .i64 r.m, .int .i64 (r.f 0), .int .i64 (r.f 1), .int .i64 (r.f 2), .int .i64 (r.f 3), .int .i64 (r.f 4), .int .i64 (r.f 5), .int .i64 (r.f 6), .int .i64 (r.f 7)] 26)).heap.size, 0, none⟩) 1 1) [k]) := Lib.hid (Ints.one _ _ _)
    rw [show (w1.alloc (.cells #[.int .i64 r.m, .int .i64 (r.f 0), .int .i64 (r.f 1), .int .i64 (r.f 2), .int .i64 (r.f 3), .int .i64 (r.f 4), .int .i64 (r.f 5), .int .i64 (r.f 6), .int .i64 (r.f 7)] 26)).heap.size = w1.heap.size + 1 by simp] at HI1
    go_wp2_with fail
    refine (of_any _ [k] _ HI1.out).mono ?_
    rintro e w2 ⟨rfl, rfl⟩
    rw [HOF.out]
    cases hk : inB k 0 7
    · have HF : Hid (findE rows a b k = 1 ∧ findS rows a b k = 0 ∧ findR rows a b k = rowZ) := Lib.hid (by
        have h7 : findE rows a b k = 1 := by rw [findE, hh, hk]; rfl
        exact ⟨h7, by rw [findS, h7]; rfl, by rw [findR, h7]; rfl⟩)
      rw [if_neg (by simp)]
      clear hh hk
      go_wp2
      refine bodyPost_ret (v := .tuple #[.agg #[.int .i64 rowZ.m, .int .i64 (rowZ.f 0), .int .i64 (rowZ.f 1), .int .i64 (rowZ.f 2), .int .i64 (rowZ.f 3), .int .i64 (rowZ.f 4), .int .i64 (rowZ.f 5), .int .i64 (rowZ.f 6), .int .i64 (rowZ.f 7)], .int .i64 0, .int .i64 1]) (by simp [results, Tryz.results53, go_sem, rowZ, hl1, hl2, kz0, kz1, kz2, kz3, kz4, kz5, kz6, kz7, kz8]) rfl ⟨by rw [HF.out.1, HF.out.2.1, HF.out.2.2], ?_⟩
      refine nb_alloc (nb_alloc ?_ _) _
      iterate 9 (refine nb_set ?_ _ _ _ (by omega))
      exact HB.out
    · have HF : Hid (findE rows a b k = 0 ∧ findS rows a b k = 2 ^ k.toNat ∧ findR rows a b k = r) := Lib.hid (by
        have h7 : findE rows a b k = 0 := by rw [findE, hh, hk]; rfl
        exact ⟨h7, by rw [findS, h7]; rfl, by rw [findR, h7]; exact HR.out⟩)
      rw [if_pos rfl]
      obtain ⟨s, hs⟩ : ∃ s : Int, 2 ^ k.toNat = s := ⟨_, rfl⟩
      rw [hs] at HF ⊢
      clear hh hk hs
      go_wp2
      refine bodyPost_ret (v := .tuple #[.agg #[.int .i64 r.m, .int .i64 (r.f 0), .int .i64 (r.f 1), .int .i64 (r.f 2), .int .i64 (r.f 3), .int .i64 (r.f 4), .int .i64 (r.f 5), .int .i64 (r.f 6), .int .i64 (r.f 7)], .int .i64 s, .int .i64 0]) (by simp [results, Tryz.results53, go_sem, hl1, hl2, kz0, kz1, kz2, kz3, kz4, kz5, kz6, kz7, kz8]) rfl ⟨by rw [HF.out.1, HF.out.2.1, HF.out.2.2], ?_⟩
      refine nb_alloc (nb_alloc ?_ _) _
      iterate 9 (refine nb_set ?_ _ _ _ (by omega))
      exact HB.out
end Go.Proofs.YtlclceiebnnpgaaGreat

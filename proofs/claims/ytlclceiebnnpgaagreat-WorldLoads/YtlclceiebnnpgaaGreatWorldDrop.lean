/- The contract of Drop of package world. -/
import Derived.Test.YtlclceiebnnpgaaGreatWorldFind
import Derived.Test.YtlclceiebnnpgaaGreatWorldMove
import Derived.Test.YtlclceiebnnpgaaGreatWorldKill
import Derived.Deep.Cut
namespace Go.Proofs.YtlclceiebnnpgaaGreat
set_option maxRecDepth 8000
open Go.RowKit

theorem findE_zero {rows : List Rw} {a b k : Int} (h : findE rows a b k = 0) : hasH rows a b = true ∧ inB k 0 7 = true := by
  unfold findE at h
  cases h1 : hasH rows a b
  · rw [h1] at h; simp at h
  · cases h2 : inB k 0 7
    · rw [h1, h2] at h; simp at h
    · exact ⟨rfl, rfl⟩
def DropPost (w : World) (p : Nat) (F : Nat → Prop) (l : List (Int × Bool)) (rows : List Rw) (a b k : Int) (e : Ending) (w' : World) : Prop :=
  e = .returned (.int .i64 (dropE rows a b k)) ∧ ∃ F', WldAt w' p F' l (· ∈ dropR rows a b k) ∧ Kept F w w' ∧ Moves w F F'

set_option maxHeartbeats 4000000 in
theorem worldDrop_any (p : Nat) (F : Nat → Prop) (l : List (Int × Bool)) (rows : List Rw) (a b k : Int) (w : World) (h : WldAt w p F l (· ∈ rows)) (ok : WOk l rows) (ha : I64r a) (hb : I64r b) :
    Calls Tryz.prog 24 #[.pointer (some ⟨p, 0, none⟩), .agg #[.int .i64 a, .int .i64 b], .int .i64 k] w (DropPost w p F l rows a b k) := by
  have H0 := Lib.hid h
  have HOK := Lib.hid ok
  have HAB : Hid (I64r a ∧ I64r b) := Lib.hid ⟨ha, hb⟩
  have HLT := Lib.hid h.lt
  have hX : Below w.heap.size w (w.alloc (.cells #[.int .i64 a, .int .i64 b] 28)) := nb_alloc (Below.refl _ _) _
  have hhb : (w.alloc (.cells #[.int .i64 a, .int .i64 b] 28)).heap[w.heap.size]? = some (.cells #[.int .i64 a, .int .i64 b] 28) := heap_alloc_new _ _
  have HW := Lib.hid (h.later hX)
  have HX := Lib.hid hX
  have HHB := Lib.hid hhb
  have hhl := (Array.getElem?_eq_some_iff.1 hhb).1
  clear h hX ok hhb
  go_enter Tryz.func24, Tryz.ntmps24
  go_wp2_with fail
  generalize (w.alloc (.cells #[.int .i64 a, .int .i64 b] 28)) = X at *
  refine (worldFind_any p F l rows a b k _ HW.out HAB.out.1 HAB.out.2).mono ?_
  rintro e w1 ⟨rfl, hb1⟩
  have HB1 := Lib.hid hb1
  have hXs := HX.out.size
  have hs1 := hb1.size
  have h1b : w1.heap[w.heap.size]? = some (.cells #[.int .i64 a, .int .i64 b] 28) := by rw [hb1.block _ hhl]; exact HHB.out
  have H1B := Lib.hid h1b
  have h1l := (Array.getElem?_eq_some_iff.1 h1b).1
  clear hb1 h1b
  obtain ⟨x, hx⟩ : ∃ x, findE rows a b k = x := ⟨_, rfl⟩
  by_cases h0 : x = 0
  · subst h0
    have hf := findE_zero hx
    obtain ⟨r, hr⟩ : ∃ r, getR rows a b = r := ⟨_, rfl⟩
    have hi : atN rows a b < rows.length := of_decide_eq_true hf.1
    have hrg : rows.getD (atN rows a b) rowZ = r := by rw [← hr, (getE_yes hf.1).2]
    obtain ⟨r1, r2⟩ := atN_is hi
    rw [hrg] at r1 r2
    have hrok := HOK.out.ok r (by rw [← hrg]; exact mem_getD hi)
    have hrm := (bErr_zero hrok).1
    obtain ⟨j, hj, rfl⟩ : ∃ j : Nat, j < 8 ∧ k = (j : Int) := by
      have := inB_t hf.2
      exact ⟨k.toNat, by omega, by omega⟩
    obtain ⟨s, hs⟩ : ∃ s : Int, 2 ^ j = s := ⟨_, rfl⟩
    have hs0 : 0 < s := by rw [← hs]; exact pow_pos2 j
    have hsr : findS rows a b j = s := by rw [findS, hx, if_pos rfl, Int.toNat_natCast, hs]
    have hrr : findR rows a b j = r := by rw [findR, hx, if_pos rfl, hr]
    rw [hsr, hrr, hx]
    have HX0 := Lib.hid hx
    have HS := Lib.hid hs
    have HRG := Lib.hid hrg
    have HRI := Lib.hid hi
    have HR12 : Hid (r.s = a ∧ r.g = b) := Lib.hid ⟨r1, r2⟩
    have HRM := Lib.hid hrm
    have HROK := Lib.hid hrok
    have HHAS := Lib.hid hf.1
    clear hf hr hi hrg r1 r2 hrok hsr hrr hx
    cases ht : tb r.m j
    · have hand : bits .and .i64 r.m s = 0 := by rw [← HS.out, bit_and _ _ hrm.1 hrm.2 hj, ht]; rfl
      have HEND : Hid (∀ w', Below w1.heap.size w1 w' → DropPost w p F l rows a b j (.returned (.int .i64 5)) w') := Lib.hid (fun w' h' => by
        have hb' : Below w.heap.size w w' := nb_trans (nb_trans HX.out HB1.out) h'
        have he : dropE rows a b j = 5 := by
          have h1 := findE_zero HX0.out
          rw [dropE, h1.1, h1.2, HRG.out, Int.toNat_natCast, ht]; rfl
        refine ⟨by rw [he], F, ?_, Kept.ofBelow hb', Moves.refl _ _⟩
        rw [dropR, he]; exact H0.out.later hb')
      clear ht hrm
      go_wp2
      go_ret
      exact HEND.out _ (nb_alloc (Below.refl _ _) _)
    · have hand : bits .and .i64 r.m s = s := by rw [← HS.out, bit_and _ _ hrm.1 hrm.2 hj, ht]; rfl
      have hnot : bits .andNot .i64 r.m s = r.m - s := by rw [← HS.out, bit_andNot _ _ hrm.1 hrm.2 hj ht]
      have hse : (s == 0) = false := by simp; omega
      have HE0 : Hid (dropE rows a b j = 0) := Lib.hid (by
        have h1 := findE_zero HX0.out
        rw [dropE, h1.1, h1.2, HRG.out, Int.toNat_natCast, ht]; rfl)
      have HPK : Hid (dropK r (j : Int).toNat = ⟨a, b, r.m - s, upd r.f j 0⟩) := Lib.hid (by rw [dropK, Int.toNat_natCast, HS.out, HR12.out.1, HR12.out.2])
      have HBE : Hid (bErr (r.m - s) [(upd r.f j 0) 0, (upd r.f j 0) 1, (upd r.f j 0) 2, (upd r.f j 0) 3, (upd r.f j 0) 4, (upd r.f j 0) 5, (upd r.f j 0) 6, (upd r.f j 0) 7] = 0) := Lib.hid (by have := dropK_ok HROK.out hj ht; rw [← HS.out]; exact this)
      clear ht hrm
      have hold : (w1.alloc (.cells #[.int .i64 (r.m - s), .int .i64 (r.f 0), .int .i64 (r.f 1), .int .i64 (r.f 2), .int .i64 (r.f 3), .int .i64 (r.f 4), .int .i64 (r.f 5), .int .i64 (r.f 6), .int .i64 (r.f 7)] 26)).cell? ⟨w1.heap.size, 1 + j, none⟩ = some (.int .i64 (r.f j)) := by rw [cell_of_row _ _ _ _ _ _ (heap_alloc_new w1 _)]; exact vals_at (r.m - s) r.f j hj
      have fzo : (w1.alloc (.cells #[.int .i64 (r.m - s), .int .i64 (r.f 0), .int .i64 (r.f 1), .int .i64 (r.f 2), .int .i64 (r.f 3), .int .i64 (r.f 4), .int .i64 (r.f 5), .int .i64 (r.f 6), .int .i64 (r.f 7)] 26)).frozen? ⟨w1.heap.size, 1 + j, none⟩ = false := frozen_of_row _ _ _ _ _ (heap_alloc_new w1 _)
      have hls : ([.int .i64 (r.m - s), .int .i64 (r.f 0), .int .i64 (r.f 1), .int .i64 (r.f 2), .int .i64 (r.f 3), .int .i64 (r.f 4), .int .i64 (r.f 5), .int .i64 (r.f 6), .int .i64 (r.f 7)] : List Value).set (1 + j) (.int .i64 0) = [.int .i64 (r.m - s), .int .i64 ((upd r.f j 0) 0), .int .i64 ((upd r.f j 0) 1), .int .i64 ((upd r.f j 0) 2), .int .i64 ((upd r.f j 0) 3), .int .i64 ((upd r.f j 0) 4), .int .i64 ((upd r.f j 0) 5), .int .i64 ((upd r.f j 0) 6), .int .i64 ((upd r.f j 0) 7)] := by
        have := congrArg Array.toList (vals_set (r.m - s) r.f j 0 hj)
        simpa using this
      have kw0 : w1.cell? ⟨w.heap.size, 0, none⟩ = some (.int .i64 a) := by rw [cell_of_row _ _ _ _ _ _ H1B.out]; rfl
      have kw1 : w1.cell? ⟨w.heap.size, 1, none⟩ = some (.int .i64 b) := by rw [cell_of_row _ _ _ _ _ _ H1B.out]; rfl
      have HZW : Hid (Below w1.heap.size w1 (w1.alloc (.cells #[.int .i64 (r.m - s), .int .i64 ((upd r.f j 0) 0), .int .i64 ((upd r.f j 0) 1), .int .i64 ((upd r.f j 0) 2), .int .i64 ((upd r.f j 0) 3), .int .i64 ((upd r.f j 0) 4), .int .i64 ((upd r.f j 0) 5), .int .i64 ((upd r.f j 0) 6), .int .i64 ((upd r.f j 0) 7)] 26))) := Lib.hid (nb_alloc (Below.refl _ _) _)
      have hj0 : (0 : Int) ≤ (j : Int) := by omega
      have hj8 : (j : Int) < 8 := by omega
      go_wp2_with fail
      refine (worldMove_any p F l _ ⟨a, b, r.m - s, upd r.f j 0⟩ _ (HW.out.later (nb_trans HB1.out HZW.out)) (mem_of_hasH HHAS.out) HBE.out HAB.out HOK.out.few).mono ?_
      rintro e w5 ⟨rfl, F5, h5, hk5, hm5⟩
      have HEND : Hid (DropPost w p F l rows a b j (.returned (.int .i64 0)) w5) := Lib.hid (by
        have hbz : Below w.heap.size w (w1.alloc (.cells #[.int .i64 (r.m - s), .int .i64 ((upd r.f j 0) 0), .int .i64 ((upd r.f j 0) 1), .int .i64 ((upd r.f j 0) 2), .int .i64 ((upd r.f j 0) 3), .int .i64 ((upd r.f j 0) 4), .int .i64 ((upd r.f j 0) 5), .int .i64 ((upd r.f j 0) 6), .int .i64 ((upd r.f j 0) 7)] 26)) := nb_trans (nb_trans HX.out HB1.out) HZW.out
        have hsz := hbz.size
        refine ⟨by rw [HE0.out], F5, h5.congr (fun y => ?_), (Kept.ofBelow hbz).trans hk5 (fun _ h => .inl h), fun b hb => (hm5 b hb).imp id (fun h => by omega)⟩
        rw [dropR, if_pos HE0.out, mem_set_at HOK.out.up HRI.out, HRG.out, HPK.out]
        exact Iff.rfl)
      clear h5 hk5 hm5
      go_wp2
      go_ret
      exact HEND.out
  · have hs : findS rows a b k = 0 := by rw [findS, hx, if_neg h0]
    have hr : findR rows a b k = rowZ := by rw [findR, hx, if_neg h0]
    rw [hs, hr, hx]
    have HEND : Hid (∀ w', Below w1.heap.size w1 w' → DropPost w p F l rows a b k (.returned (.int .i64 x)) w') := Lib.hid (fun w' h' => by
      have hb' : Below w.heap.size w w' := nb_trans (nb_trans HX.out HB1.out) h'
      have he : dropE rows a b k = x := (by
        unfold findE at hx
        unfold dropE
        cases h1 : hasH rows a b
        · rw [h1] at hx; exact hx
        · rw [h1, if_pos rfl] at hx
          cases h2 : inB k 0 7
          · rw [h2] at hx; rw [if_pos rfl]; exact hx
          · rw [h2] at hx; simp at hx; exact absurd hx.symm h0)
      refine ⟨by rw [he], F, ?_, Kept.ofBelow hb', Moves.refl _ _⟩
      rw [dropR, he, if_neg h0]; exact H0.out.later hb')
    have hne : (x != 0) = true := by simpa using h0
    clear h0 hx hs hr
    go_wp2
    go_ret
    exact HEND.out _ (nb_alloc (Below.refl _ _) _)
end Go.Proofs.YtlclceiebnnpgaaGreat

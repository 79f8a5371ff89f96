/- The contract of Get of the reference's zoo. -/
import Derived.Test.YtakoejopgdaknaaRefZoo
import Derived.Test.YtakoejopgdaknaaWorldGet
namespace Go.Proofs.Ytakoejopgdaknaa
set_option maxRecDepth 8000
open Go.RowKit

set_option maxHeartbeats 4000000 in
theorem refGet_any (q : Nat) (G : Nat → Prop) (l : List (Int × Bool)) (rows : List Rw) (vB : Value) (a b : Int) (r : Rw) (x : Int) (w : World) (h : ZooAt w q G l rows vB) (hr : getR rows a b = r) (hx : getE rows a b = x) :
    Calls Try.prog 16 #[.pointer (some ⟨q, 0, none⟩), .agg #[.int .i64 a, .int .i64 b]] w fun e w' => e = .returned (.tuple #[.agg #[.int .i64 r.m, .int .i64 (r.f 0), .int .i64 (r.f 1), .int .i64 (r.f 2), .int .i64 (r.f 3), .int .i64 (r.f 4), .int .i64 (r.f 5), .int .i64 (r.f 6), .int .i64 (r.f 7)], .int .i64 x]) ∧ Below w.heap.size w w' := by
  have hX : Below w.heap.size w ((w.alloc (.cells #[.int .i64 a, .int .i64 b] 38)).alloc (.cells #[.int .i64 0, .int .i64 0, .int .i64 0, .int .i64 0, .int .i64 0, .int .i64 0, .int .i64 0, .int .i64 0, .int .i64 0] 36)) := nb_alloc (nb_alloc (Below.refl _ _) _) _
  have HX := Lib.hid hX
  have HBB : Hid (((w.alloc (.cells #[.int .i64 a, .int .i64 b] 38)).alloc (.cells #[.int .i64 0, .int .i64 0, .int .i64 0, .int .i64 0, .int .i64 0, .int .i64 0, .int .i64 0, .int .i64 0, .int .i64 0] 36)).heap[w.heap.size + 1]? = some (.cells #[.int .i64 0, .int .i64 0, .int .i64 0, .int .i64 0, .int .i64 0, .int .i64 0, .int .i64 0, .int .i64 0, .int .i64 0] 36)) := Lib.hid (heap_alloc2_new _ _ _)
  have HZ := Lib.hid (h.later hX)
  clear h hX
  go_enter Try.func16, Try.ntmps16
  go_wp2_with fail
  generalize ((w.alloc (.cells #[.int .i64 a, .int .i64 b] 38)).alloc (.cells #[.int .i64 0, .int .i64 0, .int .i64 0, .int .i64 0, .int .i64 0, .int .i64 0, .int .i64 0, .int .i64 0, .int .i64 0] 36)) = X at *
  refine (refAtI_any q G l rows vB a b _ HZ.out).mono ?_
  rintro e w1 ⟨rfl, hb1⟩
  have hbb : w1.heap[w.heap.size + 1]? = some (.cells #[.int .i64 0, .int .i64 0, .int .i64 0, .int .i64 0, .int .i64 0, .int .i64 0, .int .i64 0, .int .i64 0, .int .i64 0] 36) := by rw [hb1.block _ (Array.getElem?_eq_some_iff.1 HBB.out).1]; exact HBB.out
  have hbl := (Array.getElem?_eq_some_iff.1 hbb).1
  have k0 : w1.cell? ⟨w.heap.size + 1, 0, none⟩ = some (.int .i64 0) := by rw [cell_of_row _ _ _ _ _ _ hbb]; rfl
  have k1 : w1.cell? ⟨w.heap.size + 1, 1, none⟩ = some (.int .i64 0) := by rw [cell_of_row _ _ _ _ _ _ hbb]; rfl
  have k2 : w1.cell? ⟨w.heap.size + 1, 2, none⟩ = some (.int .i64 0) := by rw [cell_of_row _ _ _ _ _ _ hbb]; rfl
  have k3 : w1.cell? ⟨w.heap.size + 1, 3, none⟩ = some (.int .i64 0) := by rw [cell_of_row _ _ _ _ _ _ hbb]; rfl
  have k4 : w1.cell? ⟨w.heap.size + 1, 4, none⟩ = some (.int .i64 0) := by rw [cell_of_row _ _ _ _ _ _ hbb]; rfl
  have k5 : w1.cell? ⟨w.heap.size + 1, 5, none⟩ = some (.int .i64 0) := by rw [cell_of_row _ _ _ _ _ _ hbb]; rfl
  have k6 : w1.cell? ⟨w.heap.size + 1, 6, none⟩ = some (.int .i64 0) := by rw [cell_of_row _ _ _ _ _ _ hbb]; rfl
  have k7 : w1.cell? ⟨w.heap.size + 1, 7, none⟩ = some (.int .i64 0) := by rw [cell_of_row _ _ _ _ _ _ hbb]; rfl
  have k8 : w1.cell? ⟨w.heap.size + 1, 8, none⟩ = some (.int .i64 0) := by rw [cell_of_row _ _ _ _ _ _ hbb]; rfl
  have fz : ∀ j, w1.frozen? ⟨w.heap.size + 1, j, none⟩ = false := fun j => frozen_of_row _ _ _ _ _ hbb
  have HBW := Lib.hid (nb_trans HX.out hb1)
  have hz1 := HZ.out.later hb1
  clear hb1 hbb
  cases hh : hasH rows a b
  · obtain ⟨e1, e2⟩ := getE_no hh
    obtain rfl : r = rowZ := by rw [← hr, e2]
    obtain rfl : x = 7 := by rw [← hx, e1]
    rw [atI_no hh]
    clear hr hx hh e1 e2 hz1
    go_wp2
    refine bodyPost_ret (v := .tuple #[.agg #[.int .i64 rowZ.m, .int .i64 (rowZ.f 0), .int .i64 (rowZ.f 1), .int .i64 (rowZ.f 2), .int .i64 (rowZ.f 3), .int .i64 (rowZ.f 4), .int .i64 (rowZ.f 5), .int .i64 (rowZ.f 6), .int .i64 (rowZ.f 7)], .int .i64 7]) (by simp [results, Try.results16, go_sem, rowZ, k0, k1, k2, k3, k4, k5, k6, k7, k8]) rfl ⟨rfl, ?_⟩
    iterate 9 (refine nb_set ?_ _ _ _ (by omega))
    exact HBW.out
  · obtain ⟨e1, e2⟩ := getE_yes hh
    obtain rfl : x = 0 := by rw [← hx, e1]
    rw [atI_yes hh]
    have ht : atN rows a b < rows.length := of_decide_eq_true hh
    rw [e2] at hr
    generalize atN rows a b = t at *
    obtain ⟨c, vL, hz⟩ := hz1
    have hq2 := hz.slots.cell2.1
    have hql := hz.lt q hz.at_.1
    obtain ⟨g, cap, rfl, -, hgl, hlc, hcm, -, hcc⟩ := OwnsF.at11 (B := 0) hz.own (by omega)
    have hcr := hcc t ht
    rw [hr] at hcr
    have c0 : w1.cell? ⟨g, t * 11, none⟩ = some (.int .i64 r.s) := hcr 0 (by decide)
    have c1 : w1.cell? ⟨g, t * 11 + 1, none⟩ = some (.int .i64 r.g) := hcr 1 (by decide)
    have c2 : w1.cell? ⟨g, t * 11 + 2, none⟩ = some (.int .i64 r.m) := hcr 2 (by decide)
    have c3 : w1.cell? ⟨g, t * 11 + 3, none⟩ = some (.int .i64 (r.f 0)) := hcr 3 (by decide)
    have c4 : w1.cell? ⟨g, t * 11 + 4, none⟩ = some (.int .i64 (r.f 1)) := hcr 4 (by decide)
    have c5 : w1.cell? ⟨g, t * 11 + 5, none⟩ = some (.int .i64 (r.f 2)) := hcr 5 (by decide)
    have c6 : w1.cell? ⟨g, t * 11 + 6, none⟩ = some (.int .i64 (r.f 3)) := hcr 6 (by decide)
    have c7 : w1.cell? ⟨g, t * 11 + 7, none⟩ = some (.int .i64 (r.f 4)) := hcr 7 (by decide)
    have c8 : w1.cell? ⟨g, t * 11 + 8, none⟩ = some (.int .i64 (r.f 5)) := hcr 8 (by decide)
    have c9 : w1.cell? ⟨g, t * 11 + 9, none⟩ = some (.int .i64 (r.f 6)) := hcr 9 (by decide)
    have c10 : w1.cell? ⟨g, t * 11 + 10, none⟩ = some (.int .i64 (r.f 7)) := hcr 10 (by decide)
    generalize rows.length = n at *
    unfold maxLen at hcm
    have ht0 : (0 : Int) ≤ (t : Int) := by omega
    have ht1 : (t : Int) < (n : Int) := by omega
    have htn : ¬ (t : Int) < 0 := by omega
    clear hr hx hh e1 e2 hz hcc hcr
    go_wp2
    refine bodyPost_ret (v := .tuple #[.agg #[.int .i64 r.m, .int .i64 (r.f 0), .int .i64 (r.f 1), .int .i64 (r.f 2), .int .i64 (r.f 3), .int .i64 (r.f 4), .int .i64 (r.f 5), .int .i64 (r.f 6), .int .i64 (r.f 7)], .int .i64 0]) (by simp [results, Try.results16, go_sem, k0, k1, k2, k3, k4, k5, k6, k7, k8]) rfl ⟨rfl, ?_⟩
    iterate 9 (refine nb_set ?_ _ _ _ (by omega))
    exact HBW.out
end Go.Proofs.Ytakoejopgdaknaa

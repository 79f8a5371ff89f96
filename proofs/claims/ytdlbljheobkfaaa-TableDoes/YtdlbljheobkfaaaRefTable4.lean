/- The contract of Remove of the reference's table. -/
import Derived.Test.YtdlbljheobkfaaaRefTable3
namespace Go.Proofs.Ytdlbljheobkfaaa
open Go.RowKit

set_option maxHeartbeats 2000000 in
theorem refRemove_no (q : Nat) (G : Nat → Prop) (m : Int) (rows : List Rw) (i : Int) (w : World) (h : RefTab w q G m rows) (hi : inB i 0 (rows.length - 1) = false) :
    Calls Try.prog 11 #[.pointer (some ⟨q, 0, none⟩), .int .i64 i] w (RRemPost w q G m rows i rowZ 5) := by
  have HT := Lib.hid h
  obtain ⟨v, hc, -⟩ := h
  have hql := hc.lt
  have cq := hc.cell
  obtain ⟨a, cap, rfl, _, hcm, _⟩ := hc.own.reads
  have hll : rows.length ≤ maxLen := by omega
  unfold maxLen at hll
  have HRL : Hid (remL rows i = rows) := Lib.hid (by rw [remL, hi]; rfl)
  have HI := Lib.hid hi
  clear hc hi
  go_enter Try.func11, Try.ntmps11
  go_wp2_with fail
  refine (outside_any _ _ _ _).mono ?_
  rintro e w' ⟨rfl, rfl⟩
  rw [HI.out]
  go_wp2
  refine bodyPost_ret (v := .tuple #[.agg #[.int .i64 rowZ.s, .int .i64 rowZ.g, .int .i64 rowZ.m, .int .i64 (rowZ.f 0), .int .i64 (rowZ.f 1), .int .i64 (rowZ.f 2), .int .i64 (rowZ.f 3), .int .i64 (rowZ.f 4), .int .i64 (rowZ.f 5), .int .i64 (rowZ.f 6), .int .i64 (rowZ.f 7)], .int .i64 5]) (by simp [results, Try.results11, go_sem, rowZ]) rfl ⟨rfl, G, ?_, Kept.ofBelow (nb_alloc (Below.refl _ _) _), Moves.refl _ _⟩
  rw [HRL.out]
  exact HT.out.later (nb_alloc (Below.refl _ _) _)

set_option maxHeartbeats 4000000 in
theorem refRemove_yes (q : Nat) (G : Nat → Prop) (m : Int) (rows : List Rw) (i : Nat) (r : Rw) (w : World) (h : RefTab w q G m rows) (hl : rows.length * 88 ≤ 140737488355328) (hi : i < rows.length) (hr : rows.getD i rowZ = r) :
    Calls Try.prog 11 #[.pointer (some ⟨q, 0, none⟩), .int .i64 i] w (RRemPost w q G m rows i r 0) := by
  have HT := Lib.hid h
  have HRL : Hid (remL rows i = rmL rows i rowZ) := Lib.hid (by rw [remL, len_pred hi, if_pos rfl, Int.toNat_natCast])
  obtain ⟨v, hc, -⟩ := h
  have hql := hc.lt
  have cq := hc.cell
  have HC := Lib.hid hc
  obtain ⟨g0, cap0, rfl, _, hgl0, hlc0, hcm0, -, hcc0⟩ := hc.own.at11 (by omega)
  have hck := hcc0 i hi
  rw [hr] at hck
  have a0 : w.cell? ⟨g0, i * 11, none⟩ = some (.int .i64 r.s) := hck 0 (by decide)
  have a1 : w.cell? ⟨g0, i * 11 + 1, none⟩ = some (.int .i64 r.g) := hck 1 (by decide)
  have a2 : w.cell? ⟨g0, i * 11 + 2, none⟩ = some (.int .i64 r.m) := hck 2 (by decide)
  have a3 : w.cell? ⟨g0, i * 11 + 3, none⟩ = some (.int .i64 (r.f 0)) := hck 3 (by decide)
  have a4 : w.cell? ⟨g0, i * 11 + 4, none⟩ = some (.int .i64 (r.f 1)) := hck 4 (by decide)
  have a5 : w.cell? ⟨g0, i * 11 + 5, none⟩ = some (.int .i64 (r.f 2)) := hck 5 (by decide)
  have a6 : w.cell? ⟨g0, i * 11 + 6, none⟩ = some (.int .i64 (r.f 3)) := hck 6 (by decide)
  have a7 : w.cell? ⟨g0, i * 11 + 7, none⟩ = some (.int .i64 (r.f 4)) := hck 7 (by decide)
  have a8 : w.cell? ⟨g0, i * 11 + 8, none⟩ = some (.int .i64 (r.f 5)) := hck 8 (by decide)
  have a9 : w.cell? ⟨g0, i * 11 + 9, none⟩ = some (.int .i64 (r.f 6)) := hck 9 (by decide)
  have a10 : w.cell? ⟨g0, i * 11 + 10, none⟩ = some (.int .i64 (r.f 7)) := hck 10 (by decide)
  have HI := Lib.hid (len_pred hi)
  have hwg : ¬ w.heap.size = g0 := by omega
  have hgw : ¬ g0 = w.heap.size := by omega
  unfold maxLen at hcm0
  clear hc hcc0 hck
  go_enter Try.func11, Try.ntmps11
  go_wp2_with fail
  refine (outside_any _ _ _ _).mono ?_
  rintro e w' ⟨rfl, rfl⟩
  rw [HI.out]
  go_wp2_with fail
  clear a0 a1 a2 a3 a4 a5 a6 a7 a8 a9 a10
  have HBA : Hid (Below w.heap.size w ((w.alloc (.cells #[.int .i64 0, .int .i64 0, .int .i64 0, .int .i64 0, .int .i64 0, .int .i64 0, .int .i64 0, .int .i64 0, .int .i64 0, .int .i64 0, .int .i64 0] 41)).alloc (.cells #[.int .i64 r.s, .int .i64 r.g, .int .i64 r.m, .int .i64 (r.f 0), .int .i64 (r.f 1), .int .i64 (r.f 2), .int .i64 (r.f 3), .int .i64 (r.f 4), .int .i64 (r.f 5), .int .i64 (r.f 6), .int .i64 (r.f 7)] 41))) := Lib.hid (nb_alloc (nb_alloc (Below.refl _ _) _) _)
  refine (copyRow_any _ rows _ (HC.out.later HBA.out).own hl).mono ?_
  rintro e w1 ⟨v1, rfl, ho1, hb1⟩
  have hb : Below w.heap.size w w1 := HBA.out.trans (hb1.mono HBA.out.size)
  have hc1 := HC.out.later hb
  have hrb1 : w1.heap[w.heap.size]? = some (.cells #[.int .i64 0, .int .i64 0, .int .i64 0, .int .i64 0, .int .i64 0, .int .i64 0, .int .i64 0, .int .i64 0, .int .i64 0, .int .i64 0, .int .i64 0] 41) := by rw [hb1.block _ (by simp; omega)]; exact heap_alloc2_old w _ _
  have hrr1 : w1.heap[w.heap.size + 1]? = some (.cells #[.int .i64 r.s, .int .i64 r.g, .int .i64 r.m, .int .i64 (r.f 0), .int .i64 (r.f 1), .int .i64 (r.f 2), .int .i64 (r.f 3), .int .i64 (r.f 4), .int .i64 (r.f 5), .int .i64 (r.f 6), .int .i64 (r.f 7)] 41) := by rw [hb1.block _ (by simp)]; exact heap_alloc2_new w _ _
  have cq1 := hc1.cell
  have fq1 := hc1.frz 1
  have hq1 := hc1.lt
  obtain ⟨g, cap1, rfl, hgB, hgl, hlc, hcm1, hfz, hcc⟩ := ho1.at11 (by omega)
  have hgB' : w.heap.size + 2 ≤ g := by simpa using hgB
  generalize hlast : rows.getD (rows.length - 1) rowZ = last at *
  have hci := hcc i hi
  have hcl := hcc (rows.length - 1) (by omega)
  rw [hlast] at hcl
  rw [hr] at hci
  have d0 : w1.cell? ⟨g, i * 11, none⟩ = some (.int .i64 r.s) := hci 0 (by decide)
  have d1 : w1.cell? ⟨g, i * 11 + 1, none⟩ = some (.int .i64 r.g) := hci 1 (by decide)
  have d2 : w1.cell? ⟨g, i * 11 + 2, none⟩ = some (.int .i64 r.m) := hci 2 (by decide)
  have d3 : w1.cell? ⟨g, i * 11 + 3, none⟩ = some (.int .i64 (r.f 0)) := hci 3 (by decide)
  have d4 : w1.cell? ⟨g, i * 11 + 4, none⟩ = some (.int .i64 (r.f 1)) := hci 4 (by decide)
  have d5 : w1.cell? ⟨g, i * 11 + 5, none⟩ = some (.int .i64 (r.f 2)) := hci 5 (by decide)
  have d6 : w1.cell? ⟨g, i * 11 + 6, none⟩ = some (.int .i64 (r.f 3)) := hci 6 (by decide)
  have d7 : w1.cell? ⟨g, i * 11 + 7, none⟩ = some (.int .i64 (r.f 4)) := hci 7 (by decide)
  have d8 : w1.cell? ⟨g, i * 11 + 8, none⟩ = some (.int .i64 (r.f 5)) := hci 8 (by decide)
  have d9 : w1.cell? ⟨g, i * 11 + 9, none⟩ = some (.int .i64 (r.f 6)) := hci 9 (by decide)
  have d10 : w1.cell? ⟨g, i * 11 + 10, none⟩ = some (.int .i64 (r.f 7)) := hci 10 (by decide)
  have e0 : w1.cell? ⟨g, (rows.length - 1) * 11, none⟩ = some (.int .i64 last.s) := hcl 0 (by decide)
  have e1 : w1.cell? ⟨g, (rows.length - 1) * 11 + 1, none⟩ = some (.int .i64 last.g) := hcl 1 (by decide)
  have e2 : w1.cell? ⟨g, (rows.length - 1) * 11 + 2, none⟩ = some (.int .i64 last.m) := hcl 2 (by decide)
  have e3 : w1.cell? ⟨g, (rows.length - 1) * 11 + 3, none⟩ = some (.int .i64 (last.f 0)) := hcl 3 (by decide)
  have e4 : w1.cell? ⟨g, (rows.length - 1) * 11 + 4, none⟩ = some (.int .i64 (last.f 1)) := hcl 4 (by decide)
  have e5 : w1.cell? ⟨g, (rows.length - 1) * 11 + 5, none⟩ = some (.int .i64 (last.f 2)) := hcl 5 (by decide)
  have e6 : w1.cell? ⟨g, (rows.length - 1) * 11 + 6, none⟩ = some (.int .i64 (last.f 3)) := hcl 6 (by decide)
  have e7 : w1.cell? ⟨g, (rows.length - 1) * 11 + 7, none⟩ = some (.int .i64 (last.f 4)) := hcl 7 (by decide)
  have e8 : w1.cell? ⟨g, (rows.length - 1) * 11 + 8, none⟩ = some (.int .i64 (last.f 5)) := hcl 8 (by decide)
  have e9 : w1.cell? ⟨g, (rows.length - 1) * 11 + 9, none⟩ = some (.int .i64 (last.f 6)) := hcl 9 (by decide)
  have e10 : w1.cell? ⟨g, (rows.length - 1) * 11 + 10, none⟩ = some (.int .i64 (last.f 7)) := hcl 10 (by decide)
  have k0 : w1.cell? ⟨w.heap.size, 0, none⟩ = some (.int .i64 0) := by rw [cell_of_row _ _ _ _ _ _ hrb1]; rfl
  have k1 : w1.cell? ⟨w.heap.size, 1, none⟩ = some (.int .i64 0) := by rw [cell_of_row _ _ _ _ _ _ hrb1]; rfl
  have k2 : w1.cell? ⟨w.heap.size, 2, none⟩ = some (.int .i64 0) := by rw [cell_of_row _ _ _ _ _ _ hrb1]; rfl
  have k3 : w1.cell? ⟨w.heap.size, 3, none⟩ = some (.int .i64 0) := by rw [cell_of_row _ _ _ _ _ _ hrb1]; rfl
  have k4 : w1.cell? ⟨w.heap.size, 4, none⟩ = some (.int .i64 0) := by rw [cell_of_row _ _ _ _ _ _ hrb1]; rfl
  have k5 : w1.cell? ⟨w.heap.size, 5, none⟩ = some (.int .i64 0) := by rw [cell_of_row _ _ _ _ _ _ hrb1]; rfl
  have k6 : w1.cell? ⟨w.heap.size, 6, none⟩ = some (.int .i64 0) := by rw [cell_of_row _ _ _ _ _ _ hrb1]; rfl
  have k7 : w1.cell? ⟨w.heap.size, 7, none⟩ = some (.int .i64 0) := by rw [cell_of_row _ _ _ _ _ _ hrb1]; rfl
  have k8 : w1.cell? ⟨w.heap.size, 8, none⟩ = some (.int .i64 0) := by rw [cell_of_row _ _ _ _ _ _ hrb1]; rfl
  have k9 : w1.cell? ⟨w.heap.size, 9, none⟩ = some (.int .i64 0) := by rw [cell_of_row _ _ _ _ _ _ hrb1]; rfl
  have k10 : w1.cell? ⟨w.heap.size, 10, none⟩ = some (.int .i64 0) := by rw [cell_of_row _ _ _ _ _ _ hrb1]; rfl
  have p0 : w1.cell? ⟨(w.heap.size + 1), 0, none⟩ = some (.int .i64 r.s) := by rw [cell_of_row _ _ _ _ _ _ hrr1]; rfl
  have p1 : w1.cell? ⟨(w.heap.size + 1), 1, none⟩ = some (.int .i64 r.g) := by rw [cell_of_row _ _ _ _ _ _ hrr1]; rfl
  have p2 : w1.cell? ⟨(w.heap.size + 1), 2, none⟩ = some (.int .i64 r.m) := by rw [cell_of_row _ _ _ _ _ _ hrr1]; rfl
  have p3 : w1.cell? ⟨(w.heap.size + 1), 3, none⟩ = some (.int .i64 (r.f 0)) := by rw [cell_of_row _ _ _ _ _ _ hrr1]; rfl
  have p4 : w1.cell? ⟨(w.heap.size + 1), 4, none⟩ = some (.int .i64 (r.f 1)) := by rw [cell_of_row _ _ _ _ _ _ hrr1]; rfl
  have p5 : w1.cell? ⟨(w.heap.size + 1), 5, none⟩ = some (.int .i64 (r.f 2)) := by rw [cell_of_row _ _ _ _ _ _ hrr1]; rfl
  have p6 : w1.cell? ⟨(w.heap.size + 1), 6, none⟩ = some (.int .i64 (r.f 3)) := by rw [cell_of_row _ _ _ _ _ _ hrr1]; rfl
  have p7 : w1.cell? ⟨(w.heap.size + 1), 7, none⟩ = some (.int .i64 (r.f 4)) := by rw [cell_of_row _ _ _ _ _ _ hrr1]; rfl
  have p8 : w1.cell? ⟨(w.heap.size + 1), 8, none⟩ = some (.int .i64 (r.f 5)) := by rw [cell_of_row _ _ _ _ _ _ hrr1]; rfl
  have p9 : w1.cell? ⟨(w.heap.size + 1), 9, none⟩ = some (.int .i64 (r.f 6)) := by rw [cell_of_row _ _ _ _ _ _ hrr1]; rfl
  have p10 : w1.cell? ⟨(w.heap.size + 1), 10, none⟩ = some (.int .i64 (r.f 7)) := by rw [cell_of_row _ _ _ _ _ _ hrr1]; rfl
  have fz : ∀ j, w1.frozen? ⟨w.heap.size, j, none⟩ = false := fun j => frozen_of_row _ _ _ _ _ hrb1
  have hks := kept_set11 (F := fun b => b = g) (Kept.refl _ w1) g i last (.inl rfl)
  have ho2 := ho1.stored11 i last hi
  have ho3 := ho2.cut
  rw [show (rows.set i last).dropLast = rmL rows i rowZ by unfold rmL; rw [hlast]] at ho3
  have hqh := heap_setCell_same ((((((((((((w1.setCell ⟨g, i * 11, none⟩ (.int .i64 last.s)).setCell ⟨g, i * 11 + 1, none⟩ (.int .i64 last.g)).setCell ⟨g, i * 11 + 2, none⟩ (.int .i64 last.m)).setCell ⟨g, i * 11 + 3, none⟩ (.int .i64 (last.f 0))).setCell ⟨g, i * 11 + 4, none⟩ (.int .i64 (last.f 1))).setCell ⟨g, i * 11 + 5, none⟩ (.int .i64 (last.f 2))).setCell ⟨g, i * 11 + 6, none⟩ (.int .i64 (last.f 3))).setCell ⟨g, i * 11 + 7, none⟩ (.int .i64 (last.f 4))).setCell ⟨g, i * 11 + 8, none⟩ (.int .i64 (last.f 5))).setCell ⟨g, i * 11 + 9, none⟩ (.int .i64 (last.f 6))).setCell ⟨g, i * 11 + 10, none⟩ (.int .i64 (last.f 7)))) q 1 _ _ (.slice (some ⟨g, 0, none⟩) (rows.length - 1) cap1) (by rw [hks.block q hq1 (by omega)]; exact hc1.heap)
  have HEND : Hid (∀ X, Kept (fun k => k = w.heap.size) ((((((((((((w1.setCell ⟨g, i * 11, none⟩ (.int .i64 last.s)).setCell ⟨g, i * 11 + 1, none⟩ (.int .i64 last.g)).setCell ⟨g, i * 11 + 2, none⟩ (.int .i64 last.m)).setCell ⟨g, i * 11 + 3, none⟩ (.int .i64 (last.f 0))).setCell ⟨g, i * 11 + 4, none⟩ (.int .i64 (last.f 1))).setCell ⟨g, i * 11 + 5, none⟩ (.int .i64 (last.f 2))).setCell ⟨g, i * 11 + 6, none⟩ (.int .i64 (last.f 3))).setCell ⟨g, i * 11 + 7, none⟩ (.int .i64 (last.f 4))).setCell ⟨g, i * 11 + 8, none⟩ (.int .i64 (last.f 5))).setCell ⟨g, i * 11 + 9, none⟩ (.int .i64 (last.f 6))).setCell ⟨g, i * 11 + 10, none⟩ (.int .i64 (last.f 7))).setCell ⟨q, 1, none⟩ (.slice (some ⟨g, 0, none⟩) (rows.length - 1) cap1)) X → RRemPost w q G m rows i r 0 (.returned (.tuple #[.agg #[.int .i64 r.s, .int .i64 r.g, .int .i64 r.m, .int .i64 (r.f 0), .int .i64 (r.f 1), .int .i64 (r.f 2), .int .i64 (r.f 3), .int .i64 (r.f 4), .int .i64 (r.f 5), .int .i64 (r.f 6), .int .i64 (r.f 7)], .int .i64 0])) X) := Lib.hid (fun X hX => by
    have hk2 : Kept (fun b => b = q) ((((((((((((w1.setCell ⟨g, i * 11, none⟩ (.int .i64 last.s)).setCell ⟨g, i * 11 + 1, none⟩ (.int .i64 last.g)).setCell ⟨g, i * 11 + 2, none⟩ (.int .i64 last.m)).setCell ⟨g, i * 11 + 3, none⟩ (.int .i64 (last.f 0))).setCell ⟨g, i * 11 + 4, none⟩ (.int .i64 (last.f 1))).setCell ⟨g, i * 11 + 5, none⟩ (.int .i64 (last.f 2))).setCell ⟨g, i * 11 + 6, none⟩ (.int .i64 (last.f 3))).setCell ⟨g, i * 11 + 7, none⟩ (.int .i64 (last.f 4))).setCell ⟨g, i * 11 + 8, none⟩ (.int .i64 (last.f 5))).setCell ⟨g, i * 11 + 9, none⟩ (.int .i64 (last.f 6))).setCell ⟨g, i * 11 + 10, none⟩ (.int .i64 (last.f 7)))) ((((((((((((w1.setCell ⟨g, i * 11, none⟩ (.int .i64 last.s)).setCell ⟨g, i * 11 + 1, none⟩ (.int .i64 last.g)).setCell ⟨g, i * 11 + 2, none⟩ (.int .i64 last.m)).setCell ⟨g, i * 11 + 3, none⟩ (.int .i64 (last.f 0))).setCell ⟨g, i * 11 + 4, none⟩ (.int .i64 (last.f 1))).setCell ⟨g, i * 11 + 5, none⟩ (.int .i64 (last.f 2))).setCell ⟨g, i * 11 + 6, none⟩ (.int .i64 (last.f 3))).setCell ⟨g, i * 11 + 7, none⟩ (.int .i64 (last.f 4))).setCell ⟨g, i * 11 + 8, none⟩ (.int .i64 (last.f 5))).setCell ⟨g, i * 11 + 9, none⟩ (.int .i64 (last.f 6))).setCell ⟨g, i * 11 + 10, none⟩ (.int .i64 (last.f 7))).setCell ⟨q, 1, none⟩ (.slice (some ⟨g, 0, none⟩) (rows.length - 1) cap1)) := Kept.setCell (F := fun b => b = q) _ (p := ⟨q, 1, none⟩) rfl _
    have hkw : Kept (fun b => b = q) w X := ((((Kept.ofBelow (F := fun b => b = q) hb).trans hks (fun b e => .inr (by omega))).trans hk2 (fun _ h => .inl h))).trans hX (fun b e => .inr (by omega))
    have hoX := ((ho3.kept hk2 (fun b e => by simp [Value.ownBlock] at e; omega)).kept hX (fun b e => by simp [Value.ownBlock] at e; omega)).weaken (B := w.heap.size) HBA.out.size
    have hqX : X.heap[q]? = some (.cells #[.int .i64 m, .slice (some ⟨g, 0, none⟩) (rows.length - 1) cap1] 30) := by
      rw [hX.block q (by have := hks.size; have := hk2.size; omega) (by omega), hqh]; rfl
    obtain ⟨G', hR, hK, hM⟩ := HT.out.step hkw hqX hoX
    exact ⟨rfl, G', by rw [HRL.out]; exact hR, hK, hM⟩)
  have hb0 : w.heap.size < w1.heap.size := by omega
  have hb1l : w.heap.size + 1 < w1.heap.size := by omega
  have n1 : ¬ g = q := by omega
  have n2 : ¬ q = g := by omega
  have n3 : ¬ w.heap.size = g := by omega
  have n4 : ¬ g = w.heap.size := by omega
  have n5 : ¬ w.heap.size + 1 = g := by omega
  have n6 : ¬ g = w.heap.size + 1 := by omega
  have n7 : ¬ w.heap.size = q := by omega
  have n8 : ¬ q = w.heap.size := by omega
  have n9 : ¬ w.heap.size + 1 = q := by omega
  have n10 : ¬ q = w.heap.size + 1 := by omega
  clear hc1 ho1 hb1 hcc hks ho2 ho3 hqh cq hci hcl hlast hr hrb1 hrr1 hb
  unfold maxLen at hcm1
  generalize hn : rows.length = n at *
  obtain ⟨t, rfl⟩ : ∃ t, n = t + 1 := ⟨n - 1, by omega⟩
  rw [show t + 1 - 1 = t by omega] at e0 e1 e2 e3 e4 e5 e6 e7 e8 e9 e10 HEND
  go_wp2
  refine bodyPost_ret (v := .tuple #[.agg #[.int .i64 r.s, .int .i64 r.g, .int .i64 r.m, .int .i64 (r.f 0), .int .i64 (r.f 1), .int .i64 (r.f 2), .int .i64 (r.f 3), .int .i64 (r.f 4), .int .i64 (r.f 5), .int .i64 (r.f 6), .int .i64 (r.f 7)], .int .i64 0]) (by simp [results, Try.results11, go_sem, k0, k1, k2, k3, k4, k5, k6, k7, k8, k9, k10]) rfl (HEND.out _ ?_)
  iterate 11 (refine kept_set ?_ _ _ _ (.inl rfl))
  exact Kept.refl _ _

theorem refRemove_any (q : Nat) (G : Nat → Prop) (m : Int) (rows : List Rw) (i : Int) (r : Rw) (x : Int) (w : World) (h : RefTab w q G m rows) (hl : rows.length * 88 ≤ 140737488355328) (hr : rowR rows i = r) (hx : rowE rows i = x) :
    Calls Try.prog 11 #[.pointer (some ⟨q, 0, none⟩), .int .i64 i] w (RRemPost w q G m rows i r x) := by
  cases hi : inB i 0 (rows.length - 1)
  · obtain ⟨h1, h2⟩ := rowR_out hi
    rw [h1] at hr; rw [h2] at hx
    subst hr hx
    exact refRemove_no q G m rows i w h hi
  · obtain ⟨b1, b2⟩ := inB_t hi
    obtain ⟨j, rfl⟩ := Int.eq_ofNat_of_zero_le b1
    obtain ⟨h1, h2⟩ := rowR_in (rows := rows) (i := j) (by omega)
    rw [h2] at hx
    subst hx
    exact refRemove_yes q G m rows j r w h hl (by omega) (by rw [← h1]; exact hr)
end Go.Proofs.Ytdlbljheobkfaaa

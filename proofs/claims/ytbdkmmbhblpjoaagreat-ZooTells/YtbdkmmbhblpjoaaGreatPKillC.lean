/- Remove of tables, remove and Kill of worlds: of the blocks from n0 on only cells are in use. -/
import Derived.Test.YtbdkmmbhblpjoaaGreatGroundE
namespace Go.Proofs.YtbdkmmbhblpjoaaGreat
set_option maxRecDepth 8000
set_option maxRecDepth 8000
open Go.RowKit

theorem NewC.later {n0 : Nat} {w w' : World} {F : Nat → Prop} (h : NewC n0 w F) (hl : ∀ b, F b → b < w.heap.size) (hb : Below w.heap.size w w') : NewC n0 w' F := fun b hF => (h b hF).imp id (fun hc => by
  obtain ⟨cs, T, z, e⟩ := hc
  exact ⟨cs, T, z, by rw [hb.block b (hl b hF)]; exact e⟩)
/-- A map's block is no block of cells. -/
theorem NewC.mapLt {n0 b n : Nat} {w : World} {F : Nat → Prop} {α : Type} {k : TypeId} {K : KeyEnc α k} {ks : List α} {f : α → Value} (h : NewC n0 w F) (hF : F b) (hm : MapIs K w b n ks f) : b < n0 := by
  rcases h b hF with e | ⟨cs, T, z, e⟩
  · exact e
  · obtain ⟨D, ⟨es, clock, hh, -⟩, -⟩ := hm
    rw [e] at hh; cases hh
/-- as RemPost, and from n0 on only cells -/
def RemPostN (n0 : Nat) (w : World) (p : Nat) (F : Nat → Prop) (m : Int) (rows : List Rw) (i : Int) (r : Rw) (x : Int) (e : Ending) (w' : World) : Prop :=
  e = .returned (.tuple #[.agg #[.int .i64 r.s, .int .i64 r.g, .int .i64 r.m, .int .i64 (r.f 0), .int .i64 (r.f 1), .int .i64 (r.f 2), .int .i64 (r.f 3), .int .i64 (r.f 4), .int .i64 (r.f 5), .int .i64 (r.f 6), .int .i64 (r.f 7)], .int .i64 x]) ∧ ∃ F', TableAt w' p F' m (remL rows i) ∧ Kept F w w' ∧ Moves w F F' ∧ NewC n0 w' F'
def RemWPostN (n0 : Nat) (ZT : TypeId) (zr : List Value) (w : World) (p : Nat) (F : Nat → Prop) (l : List (Int × Bool)) (R : Rw → Prop) (a b : Int) (e : Ending) (w' : World) : Prop :=
  e = .returned (.tuple #[]) ∧ ∃ F', WldIn ZT zr w' p F' l (fun r => R r ∧ hd r ≠ (a, b)) ∧ Kept F w w' ∧ Moves w F F' ∧ NewC n0 w' F'
def KillPostN (n0 : Nat) (ZT : TypeId) (zr : List Value) (w : World) (p : Nat) (F : Nat → Prop) (l : List (Int × Bool)) (rows : List Rw) (a b : Int) (e : Ending) (w' : World) : Prop :=
  e = .returned (.int .i64 (killE rows a b)) ∧ ∃ F', WldIn ZT zr w' p F' (freeL l a b) (· ∈ killR rows a b) ∧ Kept F w w' ∧ Moves w F F' ∧ NewC n0 w' F'

set_option maxHeartbeats 2000000 in
theorem tabRemove_noN (p : Nat) (F : Nat → Prop) (m : Int) (rows : List Rw) (i : Int) (n0 : Nat) (w : World) (hnc : NewC n0 w F) (h : TableAt w p F m rows) (ok : TabOk m rows) (hi : inB i 0 (rows.length - 1) = false) :
    Calls Tryz.prog 142 #[.pointer (some ⟨p, 0, none⟩), .int .i64 i] w (RemPostN n0 w p F m rows i rowZ 5) := by
  have HNC := Lib.hid hnc
  have HT := Lib.hid h
  clear hnc
  have HI := Lib.hid hi
  have HOK := Lib.hid ok
  have HRL : Hid (remL rows i = rows) := Lib.hid (by rw [remL, hi]; rfl)
  clear h hi ok
  go_enter Tryz.func142, Tryz.ntmps142
  go_wp2_with fail
  refine (tabRow_any p F m rows i rowZ 5 _ (HT.out.later (nb_alloc (Below.refl _ _) _)) HOK.out (rowR_out HI.out).1 (rowR_out HI.out).2).mono ?_
  rintro e w' ⟨rfl, hb'⟩
  have hrb : w'.heap[w.heap.size]? = some (.cells #[.int .i64 0, .int .i64 0, .int .i64 0, .int .i64 0, .int .i64 0, .int .i64 0, .int .i64 0, .int .i64 0, .int .i64 0, .int .i64 0, .int .i64 0] 65) := by rw [hb'.block _ (by simp)]; exact heap_alloc_new w _
  have k0 : w'.cell? ⟨w.heap.size, 0, none⟩ = some (.int .i64 0) := by rw [cell_of_row _ _ _ _ _ _ hrb]; rfl
  have k1 : w'.cell? ⟨w.heap.size, 1, none⟩ = some (.int .i64 0) := by rw [cell_of_row _ _ _ _ _ _ hrb]; rfl
  have k2 : w'.cell? ⟨w.heap.size, 2, none⟩ = some (.int .i64 0) := by rw [cell_of_row _ _ _ _ _ _ hrb]; rfl
  have k3 : w'.cell? ⟨w.heap.size, 3, none⟩ = some (.int .i64 0) := by rw [cell_of_row _ _ _ _ _ _ hrb]; rfl
  have k4 : w'.cell? ⟨w.heap.size, 4, none⟩ = some (.int .i64 0) := by rw [cell_of_row _ _ _ _ _ _ hrb]; rfl
  have k5 : w'.cell? ⟨w.heap.size, 5, none⟩ = some (.int .i64 0) := by rw [cell_of_row _ _ _ _ _ _ hrb]; rfl
  have k6 : w'.cell? ⟨w.heap.size, 6, none⟩ = some (.int .i64 0) := by rw [cell_of_row _ _ _ _ _ _ hrb]; rfl
  have k7 : w'.cell? ⟨w.heap.size, 7, none⟩ = some (.int .i64 0) := by rw [cell_of_row _ _ _ _ _ _ hrb]; rfl
  have k8 : w'.cell? ⟨w.heap.size, 8, none⟩ = some (.int .i64 0) := by rw [cell_of_row _ _ _ _ _ _ hrb]; rfl
  have k9 : w'.cell? ⟨w.heap.size, 9, none⟩ = some (.int .i64 0) := by rw [cell_of_row _ _ _ _ _ _ hrb]; rfl
  have k10 : w'.cell? ⟨w.heap.size, 10, none⟩ = some (.int .i64 0) := by rw [cell_of_row _ _ _ _ _ _ hrb]; rfl
  have fz : ∀ j, w'.frozen? ⟨w.heap.size, j, none⟩ = false := fun j => frozen_of_row _ _ _ _ _ hrb
  have hl1 := (Array.getElem?_eq_some_iff.1 hrb).1
  have HB := Lib.hid (nb_trans (nb_alloc (Below.refl _ _) _) hb')
  clear hrb hb'
  go_wp2
  refine bodyPost_ret (v := .tuple #[.agg #[.int .i64 rowZ.s, .int .i64 rowZ.g, .int .i64 rowZ.m, .int .i64 (rowZ.f 0), .int .i64 (rowZ.f 1), .int .i64 (rowZ.f 2), .int .i64 (rowZ.f 3), .int .i64 (rowZ.f 4), .int .i64 (rowZ.f 5), .int .i64 (rowZ.f 6), .int .i64 (rowZ.f 7)], .int .i64 5]) (by simp [results, Tryz.results142, go_sem, rowZ, hl1, k0, k1, k2, k3, k4, k5, k6, k7, k8, k9, k10]) rfl ⟨rfl, F, ?_, ?_, Moves.refl _ _, ?_⟩
  · rw [HRL.out]
    refine TableAt.later HT.out ?_
    refine nb_alloc ?_ _
    iterate 11 (refine nb_set ?_ _ _ _ (Nat.le_refl _))
    exact HB.out
  · refine Kept.ofBelow ?_
    refine nb_alloc ?_ _
    iterate 11 (refine nb_set ?_ _ _ _ (Nat.le_refl _))
    exact HB.out
  · refine HNC.out.later HT.out.lt ?_
    refine nb_alloc ?_ _
    iterate 11 (refine nb_set ?_ _ _ _ (Nat.le_refl _))
    exact HB.out

set_option maxHeartbeats 4000000 in
theorem tabRemove_yesN (p : Nat) (F : Nat → Prop) (m : Int) (rows : List Rw) (i : Nat) (r : Rw) (n0 : Nat) (w : World) (hnc : NewC n0 w F) (h : TableAt w p F m rows) (ok : TabOk m rows) (hi : i < rows.length) (hr : rows.getD i rowZ = r) :
    Calls Tryz.prog 142 #[.pointer (some ⟨p, 0, none⟩), .int .i64 i] w (RemPostN n0 w p F m rows i r 0) := by
  have HNC := Lib.hid hnc
  have HT := Lib.hid h
  clear hnc
  have HOK := Lib.hid ok
  have HR := Lib.hid hr
  have HI := Lib.hid hi
  have hne : rows ≠ [] := by rintro rfl; simp at hi
  have HRL : Hid (remL rows i = rmL rows i rowZ) := Lib.hid (by rw [remL, show inB (i : Int) 0 (rows.length - 1) = true by simp [inB]; omega, if_pos rfl, Int.toNat_natCast])
  have HNE := Lib.hid hne
  clear ok hr hne
  obtain ⟨v, mb, n, cb, c, h⟩ := h
  have HTI := Lib.hid h
  clear h
  go_enter Tryz.func142, Tryz.ntmps142
  go_wp2_with fail
  refine (tabRow_any p F m rows i r 0 _ (HT.out.later (nb_alloc (Below.refl _ _) _)) HOK.out ((rowR_in HI.out).1.trans HR.out) (rowR_in HI.out).2).mono ?_
  rintro e w' ⟨rfl, hb'⟩
  have hrb : w'.heap[w.heap.size]? = some (.cells #[.int .i64 0, .int .i64 0, .int .i64 0, .int .i64 0, .int .i64 0, .int .i64 0, .int .i64 0, .int .i64 0, .int .i64 0, .int .i64 0, .int .i64 0] 65) := by rw [hb'.block _ (by simp)]; exact heap_alloc_new w _
  have hl1 := (Array.getElem?_eq_some_iff.1 hrb).1
  have hb : Below w.heap.size w w' := nb_trans (nb_alloc (Below.refl _ _) _) hb'
  have hpl : p < w'.heap.size := Nat.lt_of_lt_of_le (HTI.out.lt p HTI.out.fp.1) hb.size
  have HB := Lib.hid hb
  have HRB := Lib.hid hrb
  have HTX := Lib.hid (HTI.out.later (nb_alloc hb (.cells #[.int .i64 r.s, .int .i64 r.g, .int .i64 r.m, .int .i64 (r.f 0), .int .i64 (r.f 1), .int .i64 (r.f 2), .int .i64 (r.f 3), .int .i64 (r.f 4), .int .i64 (r.f 5), .int .i64 (r.f 6), .int .i64 (r.f 7)] 65)))
  clear hrb hb' hb
  go_wp2_with fail
  refine (hcolRemove_any 1 i _ HTX.out.hcol (by rw [hsOf_len]; exact HI.out)).mono ?_
  rintro e w2 ⟨rfl, hp⟩
  obtain ⟨v2, ht2, hk2⟩ := HTX.out.hstep hp
  have hx := HB.out.size
  have hsx : (w'.alloc (.cells #[.int .i64 r.s, .int .i64 r.g, .int .i64 r.m, .int .i64 (r.f 0), .int .i64 (r.f 1), .int .i64 (r.f 2), .int .i64 (r.f 3), .int .i64 (r.f 4), .int .i64 (r.f 5), .int .i64 (r.f 6), .int .i64 (r.f 7)] 65)).heap.size = w'.heap.size + 1 := by simp
  have hn1 : ∀ b, w.heap.size ≤ b → b < w'.heap.size + 1 → ¬ growF F (w'.alloc (.cells #[.int .i64 r.s, .int .i64 r.g, .int .i64 r.m, .int .i64 (r.f 0), .int .i64 (r.f 1), .int .i64 (r.f 2), .int .i64 (r.f 3), .int .i64 (r.f 4), .int .i64 (r.f 5), .int .i64 (r.f 6), .int .i64 (r.f 7)] 65)) w2 b := fun b h1 h2 e => by
    rcases e with e | e
    · have := HT.out.lt _ e; omega
    · omega
  have hrb2 : w2.heap[w.heap.size]? = some (.cells #[.int .i64 0, .int .i64 0, .int .i64 0, .int .i64 0, .int .i64 0, .int .i64 0, .int .i64 0, .int .i64 0, .int .i64 0, .int .i64 0, .int .i64 0] 65) := by
    rw [hk2.block _ (by omega) (fun e => by have := HT.out.lt _ e; omega), Below.heap_alloc _ _ _ hl1]; exact HRB.out
  have hrr2 : w2.heap[w'.heap.size]? = some (.cells #[.int .i64 r.s, .int .i64 r.g, .int .i64 r.m, .int .i64 (r.f 0), .int .i64 (r.f 1), .int .i64 (r.f 2), .int .i64 (r.f 3), .int .i64 (r.f 4), .int .i64 (r.f 5), .int .i64 (r.f 6), .int .i64 (r.f 7)] 65) := by
    rw [hk2.block _ (by omega) (fun e => by have := HT.out.lt _ e; omega)]; exact heap_alloc_new w' _
  have HK2 : Hid (Kept F w w2) := Lib.hid ((Kept.ofBelow (nb_alloc HB.out _)).trans hk2 (fun _ h => .inl h))
  have HM2 : Hid (Moves w F (growF F (w'.alloc (.cells #[.int .i64 r.s, .int .i64 r.g, .int .i64 r.m, .int .i64 (r.f 0), .int .i64 (r.f 1), .int .i64 (r.f 2), .int .i64 (r.f 3), .int .i64 (r.f 4), .int .i64 (r.f 5), .int .i64 (r.f 6), .int .i64 (r.f 7)] 65)) w2)) := Lib.hid (fun b e => e.imp id (fun h => by omega))
  have HSZ : Hid (w'.heap.size + 1 ≤ w2.heap.size) := Lib.hid (by have := hk2.size; omega)
  have c2 := ht2.cell2
  have HT2 := Lib.hid ht2
  have HN1 := Lib.hid hn1
  have HRB2 := Lib.hid hrb2
  have HRR2 := Lib.hid hrr2
  have HX := Lib.hid hx
  clear hp ht2 hk2 hx hsx hn1 hrb2 hrr2 HTX HRB
  generalize growF F (w'.alloc (.cells #[.int .i64 r.s, .int .i64 r.g, .int .i64 r.m, .int .i64 (r.f 0), .int .i64 (r.f 1), .int .i64 (r.f 2), .int .i64 (r.f 3), .int .i64 (r.f 4), .int .i64 (r.f 5), .int .i64 (r.f 6), .int .i64 (r.f 7)] 65)) w2 = F2 at *
  generalize growC c (w'.alloc (.cells #[.int .i64 r.s, .int .i64 r.g, .int .i64 r.m, .int .i64 (r.f 0), .int .i64 (r.f 1), .int .i64 (r.f 2), .int .i64 (r.f 3), .int .i64 (r.f 4), .int .i64 (r.f 5), .int .i64 (r.f 6), .int .i64 (r.f 7)] 65)) (-3) = cc2 at *
  go_wp2_with (first | (at_range; refine wpList_range_is (K := kInt) _ rfl _ 184 rfl _ Tryz.underlying184 rfl HT2.out.map ?_))
  intro w3 hrg hb3 hsz3
  have HCL := Lib.hid (ColLoop.start (ys := fun k => colOf (rmL rows i rowZ) k.toNat) HT2.out hrg hb3)
  clear hrg hb3 hsz3
  go_wp2
  go_loopw [9] (fun _ wr => ∃ todo cnt, Hid (ColLoop w2 wr p F2 m (rmL (hsOf rows) i (0, 0)) (fun k => colOf rows k.toNat) (fun k => colOf (rmL rows i rowZ) k.toNat) v2 mb n cb w2.heap.size todo cnt)) (fun _ wr => wr.rangeLeft mb w2.heap.size)
  case atStart => exact ⟨_, _, HCL⟩
  case round =>
    obtain ⟨todo, cnt, hcl⟩ := hrel
    clear HCL
    go_wp2_with (first | (at_next; refine wpList_next_is (K := kInt) _ rfl _ rfl rfl hcl.out.range ?_ ?_))
    case refine_1 =>
      rintro rfl
      obtain ⟨F3, c3, ht3, hk3, hm3⟩ := hcl.out.done
      have hs := HSZ.out
      have hrb : wr.heap[w.heap.size]? = some (.cells #[.int .i64 0, .int .i64 0, .int .i64 0, .int .i64 0, .int .i64 0, .int .i64 0, .int .i64 0, .int .i64 0, .int .i64 0, .int .i64 0, .int .i64 0] 65) := by rw [hk3.block _ (by omega) (HN1.out _ (Nat.le_refl _) (by omega))]; exact HRB2.out
      have hrr : wr.heap[w'.heap.size]? = some (.cells #[.int .i64 r.s, .int .i64 r.g, .int .i64 r.m, .int .i64 (r.f 0), .int .i64 (r.f 1), .int .i64 (r.f 2), .int .i64 (r.f 3), .int .i64 (r.f 4), .int .i64 (r.f 5), .int .i64 (r.f 6), .int .i64 (r.f 7)] 65) := by rw [hk3.block _ (by omega) (HN1.out _ HX.out (by omega))]; exact HRR2.out
      have k0 : wr.cell? ⟨w.heap.size, 0, none⟩ = some (.int .i64 0) := by rw [cell_of_row _ _ _ _ _ _ hrb]; rfl
      have k1 : wr.cell? ⟨w.heap.size, 1, none⟩ = some (.int .i64 0) := by rw [cell_of_row _ _ _ _ _ _ hrb]; rfl
      have k2 : wr.cell? ⟨w.heap.size, 2, none⟩ = some (.int .i64 0) := by rw [cell_of_row _ _ _ _ _ _ hrb]; rfl
      have k3 : wr.cell? ⟨w.heap.size, 3, none⟩ = some (.int .i64 0) := by rw [cell_of_row _ _ _ _ _ _ hrb]; rfl
      have k4 : wr.cell? ⟨w.heap.size, 4, none⟩ = some (.int .i64 0) := by rw [cell_of_row _ _ _ _ _ _ hrb]; rfl
      have k5 : wr.cell? ⟨w.heap.size, 5, none⟩ = some (.int .i64 0) := by rw [cell_of_row _ _ _ _ _ _ hrb]; rfl
      have k6 : wr.cell? ⟨w.heap.size, 6, none⟩ = some (.int .i64 0) := by rw [cell_of_row _ _ _ _ _ _ hrb]; rfl
      have k7 : wr.cell? ⟨w.heap.size, 7, none⟩ = some (.int .i64 0) := by rw [cell_of_row _ _ _ _ _ _ hrb]; rfl
      have k8 : wr.cell? ⟨w.heap.size, 8, none⟩ = some (.int .i64 0) := by rw [cell_of_row _ _ _ _ _ _ hrb]; rfl
      have k9 : wr.cell? ⟨w.heap.size, 9, none⟩ = some (.int .i64 0) := by rw [cell_of_row _ _ _ _ _ _ hrb]; rfl
      have k10 : wr.cell? ⟨w.heap.size, 10, none⟩ = some (.int .i64 0) := by rw [cell_of_row _ _ _ _ _ _ hrb]; rfl
      have q0 : wr.cell? ⟨w'.heap.size, 0, none⟩ = some (.int .i64 r.s) := by rw [cell_of_row _ _ _ _ _ _ hrr]; rfl
      have q1 : wr.cell? ⟨w'.heap.size, 1, none⟩ = some (.int .i64 r.g) := by rw [cell_of_row _ _ _ _ _ _ hrr]; rfl
      have q2 : wr.cell? ⟨w'.heap.size, 2, none⟩ = some (.int .i64 r.m) := by rw [cell_of_row _ _ _ _ _ _ hrr]; rfl
      have q3 : wr.cell? ⟨w'.heap.size, 3, none⟩ = some (.int .i64 (r.f 0)) := by rw [cell_of_row _ _ _ _ _ _ hrr]; rfl
      have q4 : wr.cell? ⟨w'.heap.size, 4, none⟩ = some (.int .i64 (r.f 1)) := by rw [cell_of_row _ _ _ _ _ _ hrr]; rfl
      have q5 : wr.cell? ⟨w'.heap.size, 5, none⟩ = some (.int .i64 (r.f 2)) := by rw [cell_of_row _ _ _ _ _ _ hrr]; rfl
      have q6 : wr.cell? ⟨w'.heap.size, 6, none⟩ = some (.int .i64 (r.f 3)) := by rw [cell_of_row _ _ _ _ _ _ hrr]; rfl
      have q7 : wr.cell? ⟨w'.heap.size, 7, none⟩ = some (.int .i64 (r.f 4)) := by rw [cell_of_row _ _ _ _ _ _ hrr]; rfl
      have q8 : wr.cell? ⟨w'.heap.size, 8, none⟩ = some (.int .i64 (r.f 5)) := by rw [cell_of_row _ _ _ _ _ _ hrr]; rfl
      have q9 : wr.cell? ⟨w'.heap.size, 9, none⟩ = some (.int .i64 (r.f 6)) := by rw [cell_of_row _ _ _ _ _ _ hrr]; rfl
      have q10 : wr.cell? ⟨w'.heap.size, 10, none⟩ = some (.int .i64 (r.f 7)) := by rw [cell_of_row _ _ _ _ _ _ hrr]; rfl
      have fz : ∀ j, wr.frozen? ⟨w.heap.size, j, none⟩ = false := fun j => frozen_of_row _ _ _ _ _ hrb
      have hl2 := (Array.getElem?_eq_some_iff.1 hrb).1
      have hl3 := (Array.getElem?_eq_some_iff.1 hrr).1
      have hnF : ¬ F3 w.heap.size := fun e => by
        rcases hm3 _ e with e | e
        · exact HN1.out _ (Nat.le_refl _) (by omega) e
        · omega
      have HEND : Hid (∀ X, Kept (fun k => k = w.heap.size) wr X → RemPostN n0 w p F m rows i r 0 (.returned (.tuple #[.agg #[.int .i64 r.s, .int .i64 r.g, .int .i64 r.m, .int .i64 (r.f 0), .int .i64 (r.f 1), .int .i64 (r.f 2), .int .i64 (r.f 3), .int .i64 (r.f 4), .int .i64 (r.f 5), .int .i64 (r.f 6), .int .i64 (r.f 7)], .int .i64 0])) X) := Lib.hid (fun X hX => by
        refine ⟨rfl, fun b => F3 b ∧ (b < n0 ∨ CellsAt X b), ⟨v2, mb, n, cb, c3, ?_⟩, (HK2.out.trans hk3 HM2.out).trans hX (fun k e => .inr (by omega)), fun b hb => HM2.out.trans hm3 (by have := HX.out; omega) b hb.1, fun b hb => hb.2⟩
        have := (ht3.kept hX (fun k hk e => hnF (e ▸ hk))).cellsOnly (n0 := n0) (HNC.out.mapLt HTI.out.fm.1 HTI.out.map)
        rw [hsOf_rm rows i HNE.out] at this
        rw [HRL.out]; exact this)
      have hwx : ¬ w.heap.size = w'.heap.size := by omega
      clear ht3 hk3 hm3 hcl hrb hrr hnF
      go_wp2
      refine bodyPost_ret (v := .tuple #[.agg #[.int .i64 r.s, .int .i64 r.g, .int .i64 r.m, .int .i64 (r.f 0), .int .i64 (r.f 1), .int .i64 (r.f 2), .int .i64 (r.f 3), .int .i64 (r.f 4), .int .i64 (r.f 5), .int .i64 (r.f 6), .int .i64 (r.f 7)], .int .i64 0]) (by simp [results, Tryz.results142, go_sem, k0, k1, k2, k3, k4, k5, k6, k7, k8, k9, k10]) rfl (HEND.out _ ?_)
      iterate 11 (refine kept_set ?_ _ _ _ (.inl rfl))
      exact Kept.refl _ _
    case refine_2 =>
      intro k w4 cnt' hk hkm hrg hlt hkp hsz hen
      obtain ⟨u, hc, hnext⟩ := hcl.out.next hk (Nat.le_refl _) hrg hkp hsz
      obtain ⟨j, hj, rfl, -⟩ := mem_kindsTo.1 hkm
      have HC := Lib.hid hc
      have HNX := Lib.hid hnext
      have HLT := Lib.hid hlt
      have hcb := hc.lt
      replace hen : (Instr.entry (.pointer (some ⟨w2.heap.size, 0, none⟩))).run Tryz.prog w4 = .ok (.tuple #[.int .i64 j, .pointer (some ⟨cb j, 0, none⟩)]) w4 := hen
      simp only [ptrOf, show kInt.val (j : Int) = .int .i64 j from rfl]
      clear hc hnext hkp hrg hlt hsz hk hkm
      go_wp2_with fail
      refine (colRemove_any 0 i _ HC.out (by rw [colOf_len]; exact HI.out)).mono ?_
      rintro e w5 ⟨rfl, hp⟩
      have HN := Lib.hid (HNX.out w5 (by rw [colOf_rm _ _ _ HNE.out] at hp; exact hp))
      clear hp
      go_wp2
      go_roundw
      case rel => exact ⟨_, _, HN⟩
      case measure => rw [HN.out.range.left_eq, hcl.out.range.left_eq]; exact HLT.out

theorem tabRemove_anyN (p : Nat) (F : Nat → Prop) (m : Int) (rows : List Rw) (i : Int) (r : Rw) (x : Int) (n0 : Nat) (w : World) (hnc : NewC n0 w F) (h : TableAt w p F m rows) (ok : TabOk m rows) (hr : rowR rows i = r) (hx : rowE rows i = x) :
    Calls Tryz.prog 142 #[.pointer (some ⟨p, 0, none⟩), .int .i64 i] w (RemPostN n0 w p F m rows i r x) := by
  cases hi : inB i 0 (rows.length - 1)
  · obtain ⟨h1, h2⟩ := rowR_out hi
    rw [h1] at hr; rw [h2] at hx
    subst hr hx
    exact tabRemove_noN p F m rows i n0 w hnc h ok hi
  · obtain ⟨b1, b2⟩ := inB_t hi
    obtain ⟨j, rfl⟩ := Int.eq_ofNat_of_zero_le b1
    obtain ⟨h1, h2⟩ := rowR_in (rows := rows) (i := j) (by omega)
    rw [h2] at hx
    subst hx
    exact tabRemove_yesN p F m rows j r n0 w hnc h ok (by omega) (by rw [← h1]; exact hr)

section
variable {ZT : TypeId} {zr : List Value} {w w' : World} {p : Nat} {F : Nat → Prop} {c : Nat → Int} {l : List (Int × Bool)} {tm pm : Value} {ks : List Int} {tb : Int → Nat} {tr : Int → List Rw} {hk : List (Int × Int)} {pl : Int × Int → Int × Nat} {R : Rw → Prop}
theorem WldIs.delRowN {x : Int × Int} {k : Int} {i : Nat} {mp : Nat} {F' : Nat → Prop} {w'' : World} {pl' : Int × Int → Int × Nat} (h : WldIs ZT zr w p F c l tm (.map (some mp)) ks tb tr hk pl R) (hx : x ∈ hk) (hp : pl x = (k, i))
    (hpl : ∀ y, y ≠ x → pl' y = if i < (tr k).length - 1 ∧ y = hd ((tr k).getD ((tr k).length - 1) rowZ) then (k, i) else pl y)
    (ht : TableAt w' (tb k) F' k (rmL (tr k) i rowZ)) (hk1 : Kept (fun b => F b ∧ c b = k) w w') (hm1 : Moves w (fun b => F b ∧ c b = k) F')
    (hk2 : Kept (fun b => b = mp) w' w'') (hmp : MapIs kHand w'' mp (hk.filter (fun y => !decide (y = x))).length (hk.filter (fun y => !decide (y = x))) (plV tb pl')) :
    ∃ c'', WldIs ZT zr w'' p (fun b => (F b ∧ c b ≠ k) ∨ F' b) c'' l tm (.map (some mp)) ks tb (fun j => if j = k then rmL (tr k) i rowZ else tr j) (hk.filter (fun y => !decide (y = x))) pl' (fun r => R r ∧ hd r ≠ x) ∧ Kept F w w'' := by
  have hkF : Kept F w w' := hk1.mono (fun b hb => .inl hb.1)
  have hkk : k ∈ ks := by have := (h.laid.at_ x hx).1; rw [hp] at this; exact this
  have h0 := (h.laid.key _ hkk).1
  rcases h.maps with ⟨_, e, _⟩ | ⟨mt, mp', rfl, e, m1, m2, c1, c2⟩
  · cases e
  obtain rfl : mp = mp' := by simpa using e
  have hold : ∀ b, F b → c b ≠ k → ((F b ∧ c b ≠ k) ∨ F' b) ∧ growC c w k b = c b := fun b hb hc => ⟨.inl ⟨hb, hc⟩, growC_old (h.lt b hb)⟩
  have hl : ∀ b, ((F b ∧ c b ≠ k) ∨ F' b) → b < w'.heap.size := fun b hb => hb.elim (fun e => Nat.lt_of_lt_of_le (h.lt b e.1) hk1.size) (fun e => ht.lt b e)
  have hl2 : ∀ b, ((F b ∧ c b ≠ k) ∨ F' b) → b < w''.heap.size := fun b hb' => Nat.lt_of_lt_of_le (hl b hb') hk2.size
  have hfam : ∀ j ∈ ks, TableAt w' (tb j) (fun b => ((F b ∧ c b ≠ k) ∨ F' b) ∧ growC c w k b = j) j (if j = k then rmL (tr k) i rowZ else tr j) := fun j hj => by
    by_cases ej : j = k
    · subst ej
      rw [if_pos rfl]
      exact ht.mono (fun b hb => ⟨.inr hb, (hm1 b hb).elim (fun e => (growC_old (h.lt b e.1)).trans e.2) (fun e => growC_new e)⟩) (fun b hb => hl b hb.1)
    · rw [if_neg ej]
      exact ((h.tabs j hj).kept hk1 (fun b hb e => ej (by rw [← hb.2, e.2]))).mono (fun b hb => ⟨(hold b hb.1 (by rw [hb.2]; exact ej)).1, (hold b hb.1 (by rw [hb.2]; exact ej)).2.trans hb.2⟩) (fun b hb => hl b hb.1)
  refine ⟨growC c w k, ⟨?_, ?_, ?_, h.laid.del hx hp hpl, hl2⟩, hkF.trans hk2 (fun b e => .inl (by rw [e]; exact c2.1))⟩
  · refine ((h.slots.kept hk1 (fun b hb' e => ?_)).kept hk2 (fun b hb' e => ?_)).mono (fun b hb' => ⟨(hold b hb'.1 (by rw [hb'.2]; omega)).1, (hold b hb'.1 (by rw [hb'.2]; omega)).2.trans hb'.2⟩) (fun b hb' => hl2 b hb'.1)
    · rw [hb'.2] at e; omega
    · rw [e, c2.2] at hb'; exact absurd hb'.2 (by decide)
  · refine .inr ⟨mt, mp, rfl, rfl, ?_, hmp, ⟨(hold mt c1.1 (by rw [c1.2]; omega)).1, (hold mt c1.1 (by rw [c1.2]; omega)).2.trans c1.2⟩, ⟨(hold mp c2.1 (by rw [c2.2]; omega)).1, (hold mp c2.1 (by rw [c2.2]; omega)).2.trans c2.2⟩⟩
    refine (m1.kept hk1 (fun e => ?_)).kept hk2 (fun e => ?_)
    · rw [c1.2] at e; omega
    · rw [e, c2.2] at c1; exact absurd c1.2 (by decide)
  · intro j hj
    refine (hfam j hj).kept hk2 (fun b hb' e => ?_)
    rw [e, growC_old (h.lt mp c2.1), c2.2] at hb'
    have := (h.laid.key j hj).1
    omega
end
variable {ZT : TypeId} {zr : List Value}
set_option maxHeartbeats 4000000 in
theorem worldRemove_anyN (p : Nat) (F : Nat → Prop) (l : List (Int × Bool)) (R : Rw → Prop) (a b : Int) (n0 : Nat) (w : World) (hnc : NewC n0 w F) (h : WldIn ZT zr w p F l R) (ha : I64r a) (hb : I64r b) (hin : ∃ x, R x ∧ hd x = (a, b)) (hfew : Few R) :
    Calls Tryz.prog 121 #[.pointer (some ⟨p, 0, none⟩), .agg #[.int .i64 a, .int .i64 b]] w (RemWPostN n0 ZT zr w p F l R a b) := by
  have HNC0 := Lib.hid hnc
  clear hnc
  obtain ⟨c, tm, pm, ks, tb, tr, hk, pl, h⟩ := h
  have hm : (a, b) ∈ hk := by obtain ⟨x, hx, e⟩ := hin; rw [← e]; exact (h.laid.is hx).1
  obtain ⟨mp, rfl⟩ : ∃ mp, pm = .map (some mp) := by
    rcases h.maps with ⟨_, _, _, rfl⟩ | ⟨mt, mp, _, e, _⟩
    · simp at hm
    · exact ⟨mp, e⟩
  obtain ⟨hkk, hil, hdx⟩ := h.laid.at_ _ hm
  obtain ⟨k, hkq⟩ : ∃ k, (pl (a, b)).1 = k := ⟨_, rfl⟩
  obtain ⟨i, hiq⟩ : ∃ i, (pl (a, b)).2 = i := ⟨_, rfl⟩
  obtain ⟨q, hqq⟩ : ∃ q, tb k = q := ⟨_, rfl⟩
  rw [hkq] at hkk
  rw [hkq, hiq] at hil hdx
  have HP : Hid (pl (a, b) = (k, i)) := Lib.hid (by rw [← hkq, ← hiq])
  have HQ := Lib.hid hqq
  have HKK := Lib.hid hkk
  have HM := Lib.hid hm
  have HIL := Lib.hid hil
  have HDX := Lib.hid hdx
  have HTOK := Lib.hid (h.laid.tab hkk)
  obtain ⟨hr1, hr2⟩ := rowR_in hil
  have HR1 := Lib.hid hr1
  have HR2 := Lib.hid hr2
  have h0k := (h.laid.key k hkk).1
  have H0K := Lib.hid h0k
  have HAB : Hid (I64r a ∧ I64r b) := Lib.hid ⟨ha, hb⟩
  obtain ⟨rws, hr60, hrin⟩ := hfew
  have HTL : Hid ((tr k).length ≤ 60) := Lib.hid (Nat.le_trans (h.laid.trLen hrin hkk) hr60)
  have HHL : Hid (hk.length ≤ 60) := Lib.hid (Nat.le_trans (h.laid.hkLen h.mapP.1.nodup hrin) hr60)
  have hi60 : i < 60 := Nat.lt_of_lt_of_le hil HTL.out
  have hlt := h.lt
  have hX : Below w.heap.size w (w.alloc (.cells #[.int .i64 a, .int .i64 b] 38)) := nb_alloc (Below.refl _ _) _
  have hhb : (w.alloc (.cells #[.int .i64 a, .int .i64 b] 38)).heap[w.heap.size]? = some (.cells #[.int .i64 a, .int .i64 b] 38) := heap_alloc_new _ _
  have hsz : (w.alloc (.cells #[.int .i64 a, .int .i64 b] 38)).heap.size = w.heap.size + 1 := by simp
  have HW := Lib.hid (h.later hX)
  have HX := Lib.hid hX
  have HLT := Lib.hid hlt
  clear h hX hr60 hrin hil hdx hkk hr1 hr2 h0k hlt hin
  go_enter Tryz.func121, Tryz.ntmps121
  go_wp2_with fail
  generalize (w.alloc (.cells #[.int .i64 a, .int .i64 b] 38)) = X at *
  have c2 := HW.out.cell2
  have hpl := HW.out.plt
  have kh0 : X.cell? ⟨w.heap.size, 0, none⟩ = some (.int .i64 a) := by rw [cell_of_row _ _ _ _ _ _ hhb]; rfl
  have kh1 : X.cell? ⟨w.heap.size, 1, none⟩ = some (.int .i64 b) := by rw [cell_of_row _ _ _ _ _ _ hhb]; rfl
  have hlk : (Instr.lookup 83 (.map (some mp)) (.agg #[.int .i64 a, .int .i64 b]) false).run Tryz.prog X.drew = .ok (.agg #[.pointer (some ⟨q, 0, none⟩), .int .i64 i]) X.drew := by
    have := (HW.out.later (Below.refl _ _).drew).look1i a b ha hb hm
    rw [plV, hkq, hiq, hqq] at this; exact this
  have hlk1 : (Instr.lookup 83 (.map (some mp)) (.agg #[.int .i64 a, .int .i64 b]) false).run Tryz.prog (X.alloc (.cells #[.pointer none, .int .i64 0] 131)).drew = .ok (.agg #[.pointer (some ⟨q, 0, none⟩), .int .i64 i]) (X.alloc (.cells #[.pointer none, .int .i64 0] 131)).drew := by
    have := (HW.out.later (nb_alloc (Below.refl _ _) (.cells #[.pointer none, .int .i64 0] 131)).drew).look1i a b ha hb hm
    rw [plV, hkq, hiq, hqq] at this; exact this
  have hhl : w.heap.size < X.heap.size := by omega
  have HHB := Lib.hid hhb
  clear hhb hm hkq hiq hqq hsz
  go_region
  all_goals
    clear hlk hlk1 kh0 kh1 c2
    have HWV : Hid (WldIs ZT zr (X.alloc (.cells #[.pointer (some ⟨q, 0, none⟩), .int .i64 i] 131)).drew p F c l tm (.map (some mp)) ks tb tr hk pl R) := Lib.hid (HW.out.later (nb_alloc (Below.refl _ _) _).drew)
    have HVX : Hid (Below w.heap.size w (X.alloc (.cells #[.pointer (some ⟨q, 0, none⟩), .int .i64 i] 131)).drew) := Lib.hid (nb_alloc HX.out _).drew
    have HB1 : Hid ((X.alloc (.cells #[.pointer (some ⟨q, 0, none⟩), .int .i64 i] 131)).drew.heap[w.heap.size]? = some (.cells #[.int .i64 a, .int .i64 b] 38)) := Lib.hid ((Below.heap_alloc X _ _ hhl).trans HHB.out)
    have HB2 : Hid ((X.alloc (.cells #[.pointer (some ⟨q, 0, none⟩), .int .i64 i] 131)).drew.heap[X.heap.size]? = some (.cells #[.pointer (some ⟨q, 0, none⟩), .int .i64 i] 131)) := Lib.hid (heap_alloc_new X _)
    have hxs : X.heap.size < (X.alloc (.cells #[.pointer (some ⟨q, 0, none⟩), .int .i64 i] 131)).drew.heap.size := (Array.getElem?_eq_some_iff.1 HB2.out).1
    replace hpl : p < (X.alloc (.cells #[.pointer (some ⟨q, 0, none⟩), .int .i64 i] 131)).drew.heap.size := HWV.out.plt
    clear HW HX HHB
    generalize hV : (X.alloc (.cells #[.pointer (some ⟨q, 0, none⟩), .int .i64 i] 131)).drew = V at *
    clear hV
    have HBOX : Hid (∀ Y, Kept F V Y → Y.heap[w.heap.size]? = some (.cells #[.int .i64 a, .int .i64 b] 38) ∧ Y.heap[X.heap.size]? = some (.cells #[.pointer (some ⟨q, 0, none⟩), .int .i64 i] 131)) := Lib.hid (fun Y hY => ⟨by rw [hY.block _ (by omega) (fun e => by have := HLT.out _ e; omega)]; exact HB1.out, by rw [hY.block _ hxs (fun e => by have := HLT.out _ e; omega)]; exact HB2.out⟩)
    have pv0 : V.cell? ⟨X.heap.size, 0, none⟩ = some (.pointer (some ⟨q, 0, none⟩)) := by rw [cell_of_row _ _ _ _ _ _ HB2.out]; rfl
    have pv1 : V.cell? ⟨X.heap.size, 1, none⟩ = some (.int .i64 i) := by rw [cell_of_row _ _ _ _ _ _ HB2.out]; rfl
    go_wp2_with fail
    refine (tabRemove_anyN q _ k (tr k) i _ 0 n0 _ (fun b (hb : F b ∧ c b = k) => HNC0.out.later HLT.out HVX.out b hb.1) (by rw [← HQ.out]; exact HWV.out.tabs k HKK.out) HTOK.out HR1.out HR2.out).mono ?_
    rintro e w2 ⟨rfl, F2, ht2, hk2, hm2, hc2⟩
    rw [remL_in HIL.out] at ht2
    have hkF2 : Kept F V w2 := hk2.mono (fun b e => .inl e.1)
    obtain ⟨hb1, hb2⟩ := HBOX.out w2 hkF2
    have lh0 : w2.cell? ⟨w.heap.size, 0, none⟩ = some (.int .i64 a) := by rw [cell_of_row _ _ _ _ _ _ hb1]; rfl
    have lh1 : w2.cell? ⟨w.heap.size, 1, none⟩ = some (.int .i64 b) := by rw [cell_of_row _ _ _ _ _ _ hb1]; rfl
    have c22 := (HWV.out.slots.kept hk2 (fun b hb hb' => by rw [hb.2] at hb'; have := H0K.out; omega)).cell.2
    have hpl2 : p < w2.heap.size := Nat.lt_of_lt_of_le hpl hk2.size
    have hhl2 : w.heap.size < w2.heap.size := (Array.getElem?_eq_some_iff.1 hb1).1
    have hmpc := HWV.out.mapP.2
    have HMP : Hid (MapIs kHand w2.drew mp hk.length hk (plV tb pl)) := Lib.hid ((HWV.out.mapP.1.kept hk2 (fun e => by rw [hmpc.2] at e; have := H0K.out; omega)).kept (Kept.drew (fun _ => False) _) id)
    have HT2 := Lib.hid ht2
    have HK2 := Lib.hid hk2
    have HM2 := Lib.hid hm2
    have HNC : Hid (∀ Y, Kept (fun b => b = mp) w2 Y → NewC n0 Y (fun b => (F b ∧ c b ≠ k) ∨ F2 b)) := Lib.hid (fun Y hY b hb => by
      have hmp := HNC0.out.later HLT.out HVX.out
      have hml : mp < n0 := hmp.mapLt HWV.out.mapP.2.1 HWV.out.mapP.1
      by_cases e : b = mp
      · exact .inl (by rw [e]; exact hml)
      · rcases hb with hb | hb
        · exact (hmp b hb.1).imp id (fun hc => (hc.kept hk2 (fun e2 => hb.2 e2.2)).kept hY e)
        · exact (hc2 b hb).imp id (fun hc => hc.kept hY e))
    clear hc2
    have HKF2 := Lib.hid hkF2
    clear ht2 hk2 hm2 hkF2 hb1 hb2 pv0 pv1 hmpc
    go_wp2_with fail
    go_still_tail 5, (by kernel_rfl)
    change wpList _ _ _ _ _ w2.drew
    clear lh0 lh1 c22
    go_wp2_with (first | (at_delete; refine wpList_del_is (K := kHand) _ rfl _ _ 83 rfl 131 Tryz.underlying83 rfl HMP.out (a, b) HAB.out rfl ?_))
    intro w3 hmap3 hk3
    have hk23 : Kept (fun b => b = mp) w2 w3 := (Kept.drew (fun b => b = mp) w2).trans hk3 (fun _ h => .inl h)
    have hkF3 : Kept F V w3 := HKF2.out.trans hk23 (fun b e => .inl (by rw [e]; exact HWV.out.mapP.2.1))
    obtain ⟨hb1, hb2⟩ := HBOX.out w3 hkF3
    have pv0 : w3.cell? ⟨X.heap.size, 0, none⟩ = some (.pointer (some ⟨q, 0, none⟩)) := by rw [cell_of_row _ _ _ _ _ _ hb2]; rfl
    have pv1 : w3.cell? ⟨X.heap.size, 1, none⟩ = some (.int .i64 i) := by rw [cell_of_row _ _ _ _ _ _ hb2]; rfl
    have hxl3 := (Array.getElem?_eq_some_iff.1 hb2).1
    have hT3 : TableAt w3 q F2 k (rmL (tr k) i rowZ) := HT2.out.kept hk23 (fun b hb e => by
      rcases HM2.out b hb with h1 | h1
      · rw [e, HWV.out.mapP.2.2] at h1; have := H0K.out; omega
      · have := HWV.out.lt b (by rw [e]; exact HWV.out.mapP.2.1); omega)
    have HMAP3 := Lib.hid hmap3.tight
    have HK23 := Lib.hid hk23
    have HKF3 := Lib.hid hkF3
    have HT3 := Lib.hid hT3
    have hpl3 : p < w3.heap.size := Nat.lt_of_lt_of_le hpl hkF3.size
    have c23 := (((HWV.out.slots.kept HK2.out (fun b hb hb' => by rw [hb.2] at hb'; have := H0K.out; omega)).kept hk23 (fun b hb e => by rw [e, HWV.out.mapP.2.2] at hb; exact absurd hb.2 (by decide))).cell.2)
    clear hmap3 hk3 hk23 hkF3 hT3 hb1 hb2 HMP
    by_cases hlast : i < (tr k).length - 1
    · as_aux_lemma =>
      obtain ⟨hl1, hl2⟩ := rowR_last hlast
      obtain ⟨rl, hrl⟩ : ∃ rl, (tr k).getD ((tr k).length - 1) rowZ = rl := ⟨_, rfl⟩
      rw [hrl] at hl1
      go_wp2_with fail
      refine (tabRow_any q F2 k _ i rl 0 _ HT3.out (HTOK.out.rm i) hl1 hl2).mono ?_
      rintro e w4 ⟨rfl, hb4⟩
      have HB4 := Lib.hid hb4
      have HRL := Lib.hid hrl
      have HLAST := Lib.hid hlast
      clear hb4 hl1 hl2 hrl hlast pv0 pv1
      have hcells : ∀ Y, Kept F V Y → Y.cell? ⟨X.heap.size, 0, none⟩ = some (.pointer (some ⟨q, 0, none⟩)) ∧ Y.cell? ⟨X.heap.size, 1, none⟩ = some (.int .i64 i) ∧ X.heap.size < Y.heap.size := fun Y hY => by
        obtain ⟨_, hb2⟩ := HBOX.out Y hY
        exact ⟨by rw [cell_of_row _ _ _ _ _ _ hb2]; rfl, by rw [cell_of_row _ _ _ _ _ _ hb2]; rfl, (Array.getElem?_eq_some_iff.1 hb2).1⟩
      obtain ⟨pv0, pv1, hxl4⟩ := hcells w4 (HKF3.out.trans (Kept.ofBelow (F := F) HB4.out) (fun _ h => .inl h))
      have c24 : w4.cell? ⟨p, 2, none⟩ = some (.map (some mp)) := by rw [HB4.out.cell (p := ⟨p, 2, none⟩) hpl3]; exact c23
      have hpl4 : p < w4.heap.size := Nat.lt_of_lt_of_le hpl3 HB4.out.size
      clear hcells c23 hpl3 hxl3
      go_wp2_with fail
      have hy0 : (w4.alloc (.cells #[.int .i64 rl.s, .int .i64 rl.g, .int .i64 rl.m, .int .i64 (rl.f 0), .int .i64 (rl.f 1), .int .i64 (rl.f 2), .int .i64 (rl.f 3), .int .i64 (rl.f 4), .int .i64 (rl.f 5), .int .i64 (rl.f 6), .int .i64 (rl.f 7)] 65)).cell? ⟨w4.heap.size, 0, none⟩ = some (.int .i64 rl.s) := by rw [cell_of_row _ _ _ _ _ _ (heap_alloc_new w4 _)]; rfl
      have hy1 : (w4.alloc (.cells #[.int .i64 rl.s, .int .i64 rl.g, .int .i64 rl.m, .int .i64 (rl.f 0), .int .i64 (rl.f 1), .int .i64 (rl.f 2), .int .i64 (rl.f 3), .int .i64 (rl.f 4), .int .i64 (rl.f 5), .int .i64 (rl.f 6), .int .i64 (rl.f 7)] 65)).cell? ⟨w4.heap.size, 1, none⟩ = some (.int .i64 rl.g) := by rw [cell_of_row _ _ _ _ _ _ (heap_alloc_new w4 _)]; rfl
      have hyl : w4.heap.size < (w4.alloc (.cells #[.int .i64 rl.s, .int .i64 rl.g, .int .i64 rl.m, .int .i64 (rl.f 0), .int .i64 (rl.f 1), .int .i64 (rl.f 2), .int .i64 (rl.f 3), .int .i64 (rl.f 4), .int .i64 (rl.f 5), .int .i64 (rl.f 6), .int .i64 (rl.f 7)] 65)).heap.size := by simp
      have HBY : Hid (Below w4.heap.size w4 (w4.alloc (.cells #[.int .i64 rl.s, .int .i64 rl.g, .int .i64 rl.m, .int .i64 (rl.f 0), .int .i64 (rl.f 1), .int .i64 (rl.f 2), .int .i64 (rl.f 3), .int .i64 (rl.f 4), .int .i64 (rl.f 5), .int .i64 (rl.f 6), .int .i64 (rl.f 7)] 65))) := Lib.hid (nb_alloc (Below.refl _ _) _)
      have hcells : ∀ Y, Below w4.heap.size w4 Y → Y.cell? ⟨X.heap.size, 0, none⟩ = some (.pointer (some ⟨q, 0, none⟩)) ∧ Y.cell? ⟨X.heap.size, 1, none⟩ = some (.int .i64 i) ∧ Y.cell? ⟨p, 2, none⟩ = some (.map (some mp)) ∧ X.heap.size < Y.heap.size ∧ p < Y.heap.size := fun Y hY => ⟨by rw [hY.cell (p := ⟨X.heap.size, 0, none⟩) hxl4]; exact pv0, by rw [hY.cell (p := ⟨X.heap.size, 1, none⟩) hxl4]; exact pv1, by rw [hY.cell (p := ⟨p, 2, none⟩) hpl4]; exact c24, Nat.lt_of_lt_of_le hxl4 hY.size, Nat.lt_of_lt_of_le hpl4 hY.size⟩
      obtain ⟨pw0, pw1, c25, hxl5, hpl5⟩ := hcells _ HBY.out
      clear hcells pv0 pv1 c24
      generalize (w4.alloc (.cells #[.int .i64 rl.s, .int .i64 rl.g, .int .i64 rl.m, .int .i64 (rl.f 0), .int .i64 (rl.f 1), .int .i64 (rl.f 2), .int .i64 (rl.f 3), .int .i64 (rl.f 4), .int .i64 (rl.f 5), .int .i64 (rl.f 6), .int .i64 (rl.f 7)] 65)) = Y at *
      go_still_tail 7, (by kernel_rfl)
      change wpList _ _ _ _ _ Y.drew
      clear hy0 hy1 pw0 pw1 c25
      have hrlm : hd rl ∈ hk ∧ hd rl ≠ (a, b) := by
        obtain ⟨h1, h2⟩ := HWV.out.laid.back k HKK.out ((tr k).length - 1) (by have := HIL.out; omega)
        rw [HRL.out] at h1 h2
        refine ⟨h1, fun e => ?_⟩
        rw [e, HP.out] at h2
        have := congrArg Prod.snd h2
        have h3 := HLAST.out
        simp at this
        omega
      have HRLM := Lib.hid hrlm
      have HOKL : Hid (kHand.ok (rl.s, rl.g)) := Lib.hid (HWV.out.mapP.1.okAt hrlm.1)
      have HMAP5 : Hid (MapIs kHand Y.drew mp (hk.filter (fun y => !decide (y = (a, b)))).length (hk.filter (fun y => !decide (y = (a, b)))) (plV tb pl)) := Lib.hid (((HMAP3.out.later HB4.out).later HBY.out).kept (Kept.drew (fun _ => False) _) id)
      have HFL : Hid ((hk.filter (fun y => !decide (y = (a, b)))).length < maxLen) := Lib.hid (by have := List.length_filter_le (fun y => !decide (y = (a, b))) hk; have := HHL.out; unfold maxLen; omega)
      have HINF : Hid ((rl.s, rl.g) ∈ hk.filter (fun y => !decide (y = (a, b)))) := Lib.hid (List.mem_filter.2 ⟨HRLM.out.1, by rw [Bool.not_eq_true', decide_eq_false_iff_not]; exact HRLM.out.2⟩)
      clear hrlm
      go_wp2_with (first | (at_mapUpdate; refine wpList_put_in (K := kHand) _ rfl _ _ _ 83 rfl 131 Tryz.underlying83 rfl HMAP5.out HFL.out (rl.s, rl.g) HOKL.out (.agg #[.pointer (some ⟨q, 0, none⟩), .int .i64 i]) rfl rfl HINF.out ?_))
      intro w6 hmap6 hk6
      have HEND : Hid (RemWPostN n0 ZT zr w p F l R a b (.returned (.tuple #[])) w6) := Lib.hid (by
        have hk26 : Kept (fun b => b = mp) w2 w6 := (HK23.out.trans (Kept.ofBelow (F := fun b => b = mp) HB4.out) (fun _ h => .inl h)).trans (((Kept.ofBelow (F := fun b => b = mp) HBY.out).trans (Kept.drew (fun b => b = mp) _) (fun _ h => .inl h)).trans hk6 (fun _ h => .inl h)) (fun _ h => .inl h)
        obtain ⟨c6, hw6, hkk6⟩ := HWV.out.delRowN (pl' := fun y => if y = hd rl then (k, i) else pl y) HM.out HP.out (fun y _ => by simp only [HRL.out, HLAST.out, true_and]) (by rw [HQ.out]; exact HT2.out) HK2.out HM2.out hk26 (hmap6.tight.congr (fun y _ => by
          by_cases e : y = (rl.s, rl.g)
          · rw [if_pos e]; simp [plV, hd, e, ← HQ.out]
          · rw [if_neg e]; simp [plV, hd, e]))
        have hXs := HVX.out.size
        exact ⟨rfl, _, ⟨c6, _, _, _, _, _, _, _, hw6⟩, (Kept.ofBelow HVX.out).trans hkk6 (fun _ h => .inl h), fun b hb => hb.elim (fun e => .inl e.1) (fun e => (HM2.out b e).imp And.left (fun e => Nat.le_trans hXs e)), HNC.out w6 hk26⟩)
      clear hmap6 hk6
      go_wp2
      go_end0
      exact HEND.out
    · as_aux_lemma =>
      obtain ⟨hl1, hl2⟩ := rowR_end hlast
      go_wp2_with fail
      refine (tabRow_any q F2 k _ i rowZ 5 _ HT3.out (HTOK.out.rm i) hl1 hl2).mono ?_
      rintro e w4 ⟨rfl, hb4⟩
      have HEND : Hid (∀ w6, Below w4.heap.size w4 w6 → RemWPostN n0 ZT zr w p F l R a b (.returned (.tuple #[])) w6) := Lib.hid (fun w6 h6 => by
        obtain ⟨c6, hw6, hkk6⟩ := HWV.out.delRowN (pl' := pl) HM.out HP.out (fun y _ => by rw [if_neg (fun e => hlast e.1)]) (by rw [HQ.out]; exact HT2.out) HK2.out HM2.out HK23.out HMAP3.out
        have hXs := HVX.out.size
        have hb36 : Below w3.heap.size w3 w6 := nb_trans hb4 h6
        exact ⟨rfl, _, ⟨c6, _, _, _, _, _, _, _, hw6.later hb36⟩, ((Kept.ofBelow HVX.out).trans hkk6 (fun _ h => .inl h)).trans (Kept.ofBelow (F := F) hb36) (fun _ h => .inl h), fun b hb => hb.elim (fun e => .inl e.1) (fun e => (HM2.out b e).imp And.left (fun e => Nat.le_trans hXs e)), HNC.out w6 (HK23.out.trans (Kept.ofBelow (F := fun b => b = mp) hb36) (fun _ h => .inl h))⟩)
      clear hb4 hl1 hl2 hlast pv0 pv1
      go_wp2
      go_end0
      exact HEND.out _ (nb_alloc (Below.refl _ _) _)

set_option maxHeartbeats 4000000 in
theorem worldKill_anyN (p : Nat) (F : Nat → Prop) (l : List (Int × Bool)) (rows : List Rw) (a b : Int) (n0 : Nat) (w : World) (hnc : NewC n0 w F) (h : WldIn ZT zr w p F l (· ∈ rows)) (ok : WOk l rows) (ha : I64r a) (hb : I64r b) :
    Calls Tryz.prog 116 #[.pointer (some ⟨p, 0, none⟩), .agg #[.int .i64 a, .int .i64 b]] w (KillPostN n0 ZT zr w p F l rows a b) := by
  have HNC0 := Lib.hid hnc
  clear hnc
  have H0 := Lib.hid h
  have HOK := Lib.hid ok
  have HAB : Hid (I64r a ∧ I64r b) := Lib.hid ⟨ha, hb⟩
  have HLT := Lib.hid h.lt
  obtain ⟨c, tm, pm, ks, tb, tr, hk, pl, h⟩ := h
  have hX : Below w.heap.size w (w.alloc (.cells #[.int .i64 a, .int .i64 b] 38)) := nb_alloc (Below.refl _ _) _
  have hhb : (w.alloc (.cells #[.int .i64 a, .int .i64 b] 38)).heap[w.heap.size]? = some (.cells #[.int .i64 a, .int .i64 b] 38) := heap_alloc_new _ _
  have hsz : (w.alloc (.cells #[.int .i64 a, .int .i64 b] 38)).heap.size = w.heap.size + 1 := by simp
  have HW := Lib.hid (h.later hX)
  have HWA := Lib.hid (H0.out.later hX)
  have HX := Lib.hid hX
  have hmk := h.laid.hasH a b
  clear h hX ok
  go_enter Tryz.func116, Tryz.ntmps116
  go_wp2_with fail
  generalize (w.alloc (.cells #[.int .i64 a, .int .i64 b] 38)) = X at *
  have c2 := HW.out.cell2
  have hpl := HW.out.plt
  have kh0 : X.cell? ⟨w.heap.size, 0, none⟩ = some (.int .i64 a) := by rw [cell_of_row _ _ _ _ _ _ hhb]; rfl
  have kh1 : X.cell? ⟨w.heap.size, 1, none⟩ = some (.int .i64 b) := by rw [cell_of_row _ _ _ _ _ _ hhb]; rfl
  have hhl : w.heap.size < X.heap.size := by omega
  have HHB := Lib.hid hhb
  clear hhb hsz
  cases hh : hasH rows a b
  · as_aux_lemma =>
    have hm : ¬ (a, b) ∈ hk := of_decide_eq_false (hmk.trans hh)
    have hlk : (Instr.lookup 83 pm (.agg #[.int .i64 a, .int .i64 b]) true).run Tryz.prog X.drew = .ok (.tuple #[.agg #[.pointer none, .int .i64 0], .bool false]) X.drew := (HW.out.later (Below.refl _ _).drew).look2o a b ha hb hm
    have hlk1 : (Instr.lookup 83 pm (.agg #[.int .i64 a, .int .i64 b]) true).run Tryz.prog (X.alloc (.cells #[.pointer none, .int .i64 0] 131)).drew = .ok (.tuple #[.agg #[.pointer none, .int .i64 0], .bool false]) (X.alloc (.cells #[.pointer none, .int .i64 0] 131)).drew := (HW.out.later (nb_alloc (Below.refl _ _) (.cells #[.pointer none, .int .i64 0] 131)).drew).look2o a b ha hb hm
    have HEND : Hid (∀ w', Below X.heap.size X w' → KillPostN n0 ZT zr w p F l rows a b (.returned (.int .i64 7)) w') := Lib.hid (fun w' h' => by
      have hb' : Below w.heap.size w w' := nb_trans HX.out h'
      have hl : liveB l a b = false := by rw [← HOK.out.has a b]; exact hh
      refine ⟨by rw [killE, hh]; rfl, F, ?_, Kept.ofBelow hb', Moves.refl _ _, HNC0.out.later HLT.out hb'⟩
      rw [freeL, hl]
      refine (H0.out.later hb').congr (fun x => ?_)
      rw [mem_killR]
      exact ⟨fun hx => ⟨hx, not_mem_of_hasH hh x hx⟩, And.left⟩)
    clear hmk hh hm HW HWA HHB
    go_region
    all_goals
      clear hlk hlk1 kh0 kh1 c2
      go_wp2
      go_ret
      exact HEND.out _ (nb_alloc (Below.refl _ _) _).drew
  · as_aux_lemma =>
    have hm : (a, b) ∈ hk := of_decide_eq_true (hmk.trans hh)
    obtain ⟨q, hq⟩ : ∃ q, tb (pl (a, b)).1 = q := ⟨_, rfl⟩
    obtain ⟨i, hi⟩ : ∃ i, (pl (a, b)).2 = i := ⟨_, rfl⟩
    have hlk : (Instr.lookup 83 pm (.agg #[.int .i64 a, .int .i64 b]) true).run Tryz.prog X.drew = .ok (.tuple #[.agg #[.pointer (some ⟨q, 0, none⟩), .int .i64 i], .bool true]) X.drew := by
      have := (HW.out.later (Below.refl _ _).drew).look2i a b ha hb hm
      rw [plV, hq, hi] at this; exact this
    have hlk1 : (Instr.lookup 83 pm (.agg #[.int .i64 a, .int .i64 b]) true).run Tryz.prog (X.alloc (.cells #[.pointer none, .int .i64 0] 131)).drew = .ok (.tuple #[.agg #[.pointer (some ⟨q, 0, none⟩), .int .i64 i], .bool true]) (X.alloc (.cells #[.pointer none, .int .i64 0] 131)).drew := by
      have := (HW.out.later (nb_alloc (Below.refl _ _) (.cells #[.pointer none, .int .i64 0] 131)).drew).look2i a b ha hb hm
      rw [plV, hq, hi] at this; exact this
    have HH := Lib.hid hh
    clear hmk hm hq hi HW hh
    go_region
    all_goals
      clear hlk hlk1 kh0 kh1 c2
      have HWV : Hid (WldIn ZT zr (X.alloc (.cells #[.pointer (some ⟨q, 0, none⟩), .int .i64 i] 131)).drew p F l (· ∈ rows)) := Lib.hid (HWA.out.later (nb_alloc (Below.refl _ _) _).drew)
      have HXV : Hid (Below X.heap.size X (X.alloc (.cells #[.pointer (some ⟨q, 0, none⟩), .int .i64 i] 131)).drew) := Lib.hid (nb_alloc (Below.refl _ _) _).drew
      generalize (X.alloc (.cells #[.pointer (some ⟨q, 0, none⟩), .int .i64 i] 131)).drew = V at *
      have hvb : V.heap[w.heap.size]? = some (.cells #[.int .i64 a, .int .i64 b] 38) := by rw [HXV.out.block _ hhl]; exact HHB.out
      have kv0 : V.cell? ⟨w.heap.size, 0, none⟩ = some (.int .i64 a) := by rw [cell_of_row _ _ _ _ _ _ hvb]; rfl
      have kv1 : V.cell? ⟨w.heap.size, 1, none⟩ = some (.int .i64 b) := by rw [cell_of_row _ _ _ _ _ _ hvb]; rfl
      have hvl : w.heap.size < V.heap.size := (Array.getElem?_eq_some_iff.1 hvb).1
      have HVB := Lib.hid hvb
      clear hvb
      go_wp2_with fail
      refine (worldRemove_anyN p F l _ a b n0 _ (HNC0.out.later HLT.out (HX.out.trans (HXV.out.mono HX.out.size))) HWV.out HAB.out.1 HAB.out.2 (mem_of_hasH HH.out) HOK.out.few).mono ?_
      rintro e w2 ⟨rfl, F2, h2, hk2, hm2, hnc2⟩
      have HNC := Lib.hid hnc2
      clear hnc2
      have hb2 : w2.heap[w.heap.size]? = some (.cells #[.int .i64 a, .int .i64 b] 38) := by rw [hk2.block _ hvl (fun e => by have := HLT.out _ e; omega)]; exact HVB.out
      have kw0 : w2.cell? ⟨w.heap.size, 0, none⟩ = some (.int .i64 a) := by rw [cell_of_row _ _ _ _ _ _ hb2]; rfl
      have kw1 : w2.cell? ⟨w.heap.size, 1, none⟩ = some (.int .i64 b) := by rw [cell_of_row _ _ _ _ _ _ hb2]; rfl
      obtain ⟨c2, tm2, pm2, ks2, tb2, tr2, hk2', pl2, hw2⟩ := h2
      have hpl2 := hw2.plt
      have hwl2 : w.heap.size < w2.heap.size := (Array.getElem?_eq_some_iff.1 hb2).1
      have HW2 := Lib.hid hw2
      have HK2 := Lib.hid hk2
      have HM2 := Lib.hid hm2
      clear hw2 hk2 hm2 hb2 kv0 kv1
      go_wp2_with fail
      go_still_tail 4, (by kernel_rfl)
      change wpList _ _ _ _ _ w2.drew
      clear kw0 kw1
      go_wp2_with fail
      refine (free_any p _ l a b _ (HW2.out.slots.kept (Kept.drew (fun _ => False) _) (fun _ _ => id)) HOK.out.slots).mono ?_
      rintro e w3 ⟨rfl, hs3, hk3⟩
      have HEND : Hid (KillPostN n0 ZT zr w p F l rows a b (.returned (.int .i64 (freeE l a b))) w3) := Lib.hid (by
        have hlv : liveB l a b = true := by rw [← HOK.out.has a b]; exact HH.out
        have hk3' : Kept (fun b => F2 b ∧ c2 b = -1) w2 w3 := (Kept.drew _ w2).trans hk3 (fun _ h => .inl h)
        obtain ⟨hw3, hkF3⟩ := HW2.out.slotSame hs3 hk3' HNC.out
        have hXs := HX.out.size
        have hXv := HXV.out.size
        refine ⟨by rw [freeE, killE, hlv, HH.out], _, WldIn.congr ⟨_, _, _, _, _, _, _, _, hw3⟩ (fun x => mem_killR.symm), ?_, fun b hb => (HM2.out b hb.1).imp id (fun h => by omega), fun b hb => hb.2⟩
        exact ((Kept.ofBelow (HX.out.trans (HXV.out.mono hXs))).trans HK2.out (fun _ h => .inl h)).trans hkF3 (fun b hb => (HM2.out b hb).imp id (fun h => by omega)))
      clear hs3 hk3
      go_wp2
      go_ret
      exact HEND.out
end Go.Proofs.YtbdkmmbhblpjoaaGreat

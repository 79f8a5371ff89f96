/- The contracts of Remove, Set, Column and Handles of package table. -/
import Derived.Test.YtakoejopgdaknaaTableRow
namespace Go.Proofs.Ytakoejopgdaknaa
set_option maxRecDepth 8000
open Go.RowKit

theorem kept_set {F : Nat → Prop} {a w : World} (h : Kept F a w) (b j : Nat) (v : Value) (hb : F b ∨ a.heap.size ≤ b) : Kept F a (w.setCell ⟨b, j, none⟩ v) :=
  h.trans (Kept.setCell (F := fun k => k = b) w (p := ⟨b, j, none⟩) rfl v) (fun k e => by rw [e]; exact hb)

/-- An element has been written. -/
theorem col_store {α : Type} {E : El α} {T TT : TypeId} {w w2 : World} {b off g cap n : Nat} {cur : Array Value} {xs ys : List α} (h : ColIs E T w b off cur TT (.slice (some ⟨g, 0, none⟩) n cap) xs) (hk : Kept (fun k => k = g) w w2) (ho : OwnsF E w2 0 T (.slice (some ⟨g, 0, none⟩) n cap) ys) :
    ColPost E T w b off cur TT (.slice (some ⟨g, 0, none⟩) n cap) ys w2 := by
  have hgb : g ≠ b := h.ne g rfl
  have hb2 : w2.heap[b]? = some (.cells cur TT (0, 0)) := by rw [hk.block b h.lt (Ne.symm hgb)]; exact h.heap
  have hcur : cur.setIfInBounds off (.slice (some ⟨g, 0, none⟩) n cap) = cur := by
    have hoff : off < cur.size := (Array.getElem?_eq_some_iff.1 h.at_).1
    have hv := (Array.getElem?_eq_some_iff.1 h.at_).2
    rw [← hv, Array.setIfInBounds_def, dif_pos hoff, Array.set_getElem_self]
  refine ⟨_, ⟨by rw [hcur]; exact hb2, by rw [hcur]; exact h.at_, ho, h.ne⟩, hk.mono (fun k e => .inl (.inr (by rw [e]; rfl))), fun k e => .inl e⟩

theorem hsOf_rm (rows : List Rw) (i : Nat) (h : rows ≠ []) : rmL (hsOf rows) i (0, 0) = hsOf (rmL rows i rowZ) := rmL_map _ _ _ _ _ h
theorem colOf_rm (rows : List Rw) (i k : Nat) (h : rows ≠ []) : rmL (colOf rows k) i 0 = colOf (rmL rows i rowZ) k := rmL_map _ _ _ _ _ h

def RemPost (w : World) (p : Nat) (F : Nat → Prop) (m : Int) (rows : List Rw) (i : Int) (r : Rw) (x : Int) (e : Ending) (w' : World) : Prop :=
  e = .returned (.tuple #[.agg #[.int .i64 r.s, .int .i64 r.g, .int .i64 r.m, .int .i64 (r.f 0), .int .i64 (r.f 1), .int .i64 (r.f 2), .int .i64 (r.f 3), .int .i64 (r.f 4), .int .i64 (r.f 5), .int .i64 (r.f 6), .int .i64 (r.f 7)], .int .i64 x]) ∧ ∃ F', TableAt w' p F' m (remL rows i) ∧ Kept F w w' ∧ Moves w F F'

set_option maxHeartbeats 2000000 in
theorem tabRemove_no (p : Nat) (F : Nat → Prop) (m : Int) (rows : List Rw) (i : Int) (w : World) (h : TableAt w p F m rows) (ok : TabOk m rows) (hi : inB i 0 (rows.length - 1) = false) :
    Calls Try.prog 67 #[.pointer (some ⟨p, 0, none⟩), .int .i64 i] w (RemPost w p F m rows i rowZ 5) := by
  have HT := Lib.hid h
  have HI := Lib.hid hi
  have HOK := Lib.hid ok
  have HRL : Hid (remL rows i = rows) := Lib.hid (by rw [remL, hi]; rfl)
  clear h hi ok
  go_enter Try.func67, Try.ntmps67
  go_wp2_with fail
  refine (tabRow_any p F m rows i rowZ 5 _ (HT.out.later (nb_alloc (Below.refl _ _) _)) HOK.out (rowR_out HI.out).1 (rowR_out HI.out).2).mono ?_
  rintro e w' ⟨rfl, hb'⟩
  have hrb : w'.heap[w.heap.size]? = some (.cells #[.int .i64 0, .int .i64 0, .int .i64 0, .int .i64 0, .int .i64 0, .int .i64 0, .int .i64 0, .int .i64 0, .int .i64 0, .int .i64 0, .int .i64 0] 55) := by rw [hb'.block _ (by simp)]; exact heap_alloc_new w _
  have k0 : w'.cell? ⟨w.heap.size, 0, none⟩ = some (.int .i64 0) := by rw [cell_of_row _ _ _ _ _ _ hrb]; rfl
  have k1 : w'.cell? ⟨w.heap.size, 1, none⟩ = some (.int .i64 0) := by rw [cell_of_row _ _ _ _ _ _ hrb]; rfl
  have k2 : w'.cell? ⟨w.heap.size, 2, none⟩ = some (.int .i64 0) := by rw [cell_of_row _ _ _ _ _ _ hrb]; rfl
  have k3 : w'.cell? ⟨w.heap.size, 3, none⟩ = some (.int .i64 0) := by rw [cell_of_row _ _ _ _ _ _ hrb]; rfl
  have k4 : w'.cell? ⟨w.heap.size, 4, none⟩ = some (.int .i64 0) := by rw [cell_of_row _ _ _ _ _ _ hrb]; rfl
  have k5 : w'.cell? ⟨w.heap.size, 5, none⟩ = some (.int .i64 0) := by rw [cell_of_row _ _ _ _ _ _ hrb]; rfl
  have k6 : w'.cell? ⟨w.heap.size, 6, none⟩ = some (.int .i64 0) := by rw [cell_of_row _ _ _ _ _ _ hrb]; rfl
  have k7 : w'.cell? ⟨w.heap.size, 7, none⟩ = some (.int .i64 0) := by rw [cell_of_row _ _ _ _ _ _ hrb]; rfl
  have k8 : w'.cell? ⟨w.heap.size, 8, none⟩ = some (.int .i64 0) := by rw [cell_of_row _ _ _ _ _ _ hrb]; rfl
  have k9 : w'.cell? ⟨w.heap.size, 9, none⟩ = some (.int .i64 0) := by rw [cell_of_row _ _ _ _ _ _ hrb]; rfl
  have k10 : w'.cell? ⟨w.heap.size, 10, none⟩ = some (.int .i64 0) := by rw [cell_of_row _ _ _ _ _ _ hrb]; rfl
  have fz : ∀ j, w'.frozen? ⟨w.heap.size, j, none⟩ = false := fun j => frozen_of_row _ _ _ _ _ hrb
  have hl1 := (Array.getElem?_eq_some_iff.1 hrb).1
  have HB := Lib.hid (nb_trans (nb_alloc (Below.refl _ _) _) hb')
  clear hrb hb'
  go_wp2
  refine bodyPost_ret (v := .tuple #[.agg #[.int .i64 rowZ.s, .int .i64 rowZ.g, .int .i64 rowZ.m, .int .i64 (rowZ.f 0), .int .i64 (rowZ.f 1), .int .i64 (rowZ.f 2), .int .i64 (rowZ.f 3), .int .i64 (rowZ.f 4), .int .i64 (rowZ.f 5), .int .i64 (rowZ.f 6), .int .i64 (rowZ.f 7)], .int .i64 5]) (by simp [results, Try.results67, go_sem, rowZ, hl1, k0, k1, k2, k3, k4, k5, k6, k7, k8, k9, k10]) rfl ⟨rfl, F, ?_, ?_, Moves.refl _ _⟩
  · rw [HRL.out]
    refine TableAt.later HT.out ?_
    refine nb_alloc ?_ _
    iterate 11 (refine nb_set ?_ _ _ _ (Nat.le_refl _))
    exact HB.out
  · refine Kept.ofBelow ?_
    refine nb_alloc ?_ _
    iterate 11 (refine nb_set ?_ _ _ _ (Nat.le_refl _))
    exact HB.out

set_option maxHeartbeats 4000000 in
theorem tabRemove_yes (p : Nat) (F : Nat → Prop) (m : Int) (rows : List Rw) (i : Nat) (r : Rw) (w : World) (h : TableAt w p F m rows) (ok : TabOk m rows) (hi : i < rows.length) (hr : rows.getD i rowZ = r) :
    Calls Try.prog 67 #[.pointer (some ⟨p, 0, none⟩), .int .i64 i] w (RemPost w p F m rows i r 0) := by
  have HT := Lib.hid h
  have HOK := Lib.hid ok
  have HR := Lib.hid hr
  have HI := Lib.hid hi
  have hne : rows ≠ [] := by rintro rfl; simp at hi
  have HRL : Hid (remL rows i = rmL rows i rowZ) := Lib.hid (by rw [remL, show inB (i : Int) 0 (rows.length - 1) = true by simp [inB]; omega, if_pos rfl, Int.toNat_natCast])
  have HNE := Lib.hid hne
  clear ok hr hne
  obtain ⟨v, mb, n, cb, c, h⟩ := h
  have HTI := Lib.hid h
  clear h
  go_enter Try.func67, Try.ntmps67
  go_wp2_with fail
  refine (tabRow_any p F m rows i r 0 _ (HT.out.later (nb_alloc (Below.refl _ _) _)) HOK.out ((rowR_in HI.out).1.trans HR.out) (rowR_in HI.out).2).mono ?_
  rintro e w' ⟨rfl, hb'⟩
  have hrb : w'.heap[w.heap.size]? = some (.cells #[.int .i64 0, .int .i64 0, .int .i64 0, .int .i64 0, .int .i64 0, .int .i64 0, .int .i64 0, .int .i64 0, .int .i64 0, .int .i64 0, .int .i64 0] 55) := by rw [hb'.block _ (by simp)]; exact heap_alloc_new w _
  have hl1 := (Array.getElem?_eq_some_iff.1 hrb).1
  have hb : Below w.heap.size w w' := nb_trans (nb_alloc (Below.refl _ _) _) hb'
  have hpl : p < w'.heap.size := Nat.lt_of_lt_of_le (HTI.out.lt p HTI.out.fp.1) hb.size
  have HB := Lib.hid hb
  have HRB := Lib.hid hrb
  have HTX := Lib.hid (HTI.out.later (nb_alloc hb (.cells #[.int .i64 r.s, .int .i64 r.g, .int .i64 r.m, .int .i64 (r.f 0), .int .i64 (r.f 1), .int .i64 (r.f 2), .int .i64 (r.f 3), .int .i64 (r.f 4), .int .i64 (r.f 5), .int .i64 (r.f 6), .int .i64 (r.f 7)] 55)))
  clear hrb hb' hb
  go_wp2_with fail
  refine (hcolRemove_any 1 i _ HTX.out.hcol (by rw [hsOf_len]; exact HI.out)).mono ?_
  rintro e w2 ⟨rfl, hp⟩
  obtain ⟨v2, ht2, hk2⟩ := HTX.out.hstep hp
  have hx := HB.out.size
  have hsx : (w'.alloc (.cells #[.int .i64 r.s, .int .i64 r.g, .int .i64 r.m, .int .i64 (r.f 0), .int .i64 (r.f 1), .int .i64 (r.f 2), .int .i64 (r.f 3), .int .i64 (r.f 4), .int .i64 (r.f 5), .int .i64 (r.f 6), .int .i64 (r.f 7)] 55)).heap.size = w'.heap.size + 1 := by simp
  have hn1 : ∀ b, w.heap.size ≤ b → b < w'.heap.size + 1 → ¬ growF F (w'.alloc (.cells #[.int .i64 r.s, .int .i64 r.g, .int .i64 r.m, .int .i64 (r.f 0), .int .i64 (r.f 1), .int .i64 (r.f 2), .int .i64 (r.f 3), .int .i64 (r.f 4), .int .i64 (r.f 5), .int .i64 (r.f 6), .int .i64 (r.f 7)] 55)) w2 b := fun b h1 h2 e => by
    rcases e with e | e
    · have := HT.out.lt _ e; omega
    · omega
  have hrb2 : w2.heap[w.heap.size]? = some (.cells #[.int .i64 0, .int .i64 0, .int .i64 0, .int .i64 0, .int .i64 0, .int .i64 0, .int .i64 0, .int .i64 0, .int .i64 0, .int .i64 0, .int .i64 0] 55) := by
    rw [hk2.block _ (by omega) (fun e => by have := HT.out.lt _ e; omega), Below.heap_alloc _ _ _ hl1]; exact HRB.out
  have hrr2 : w2.heap[w'.heap.size]? = some (.cells #[.int .i64 r.s, .int .i64 r.g, .int .i64 r.m, .int .i64 (r.f 0), .int .i64 (r.f 1), .int .i64 (r.f 2), .int .i64 (r.f 3), .int .i64 (r.f 4), .int .i64 (r.f 5), .int .i64 (r.f 6), .int .i64 (r.f 7)] 55) := by
    rw [hk2.block _ (by omega) (fun e => by have := HT.out.lt _ e; omega)]; exact heap_alloc_new w' _
  have HK2 : Hid (Kept F w w2) := Lib.hid ((Kept.ofBelow (nb_alloc HB.out _)).trans hk2 (fun _ h => .inl h))
  have HM2 : Hid (Moves w F (growF F (w'.alloc (.cells #[.int .i64 r.s, .int .i64 r.g, .int .i64 r.m, .int .i64 (r.f 0), .int .i64 (r.f 1), .int .i64 (r.f 2), .int .i64 (r.f 3), .int .i64 (r.f 4), .int .i64 (r.f 5), .int .i64 (r.f 6), .int .i64 (r.f 7)] 55)) w2)) := Lib.hid (fun b e => e.imp id (fun h => by omega))
  have HSZ : Hid (w'.heap.size + 1 ≤ w2.heap.size) := Lib.hid (by have := hk2.size; omega)
  have c2 := ht2.cell2
  have HT2 := Lib.hid ht2
  have HN1 := Lib.hid hn1
  have HRB2 := Lib.hid hrb2
  have HRR2 := Lib.hid hrr2
  have HX := Lib.hid hx
  clear hp ht2 hk2 hx hsx hn1 hrb2 hrr2 HTX HRB
  generalize growF F (w'.alloc (.cells #[.int .i64 r.s, .int .i64 r.g, .int .i64 r.m, .int .i64 (r.f 0), .int .i64 (r.f 1), .int .i64 (r.f 2), .int .i64 (r.f 3), .int .i64 (r.f 4), .int .i64 (r.f 5), .int .i64 (r.f 6), .int .i64 (r.f 7)] 55)) w2 = F2 at *
  generalize growC c (w'.alloc (.cells #[.int .i64 r.s, .int .i64 r.g, .int .i64 r.m, .int .i64 (r.f 0), .int .i64 (r.f 1), .int .i64 (r.f 2), .int .i64 (r.f 3), .int .i64 (r.f 4), .int .i64 (r.f 5), .int .i64 (r.f 6), .int .i64 (r.f 7)] 55)) (-3) = cc2 at *
  go_wp2_with (first | (at_range; refine wpList_range_is (K := kInt) _ rfl _ 116 rfl _ Try.underlying116 rfl HT2.out.map ?_))
  intro w3 hrg hb3 hsz3
  have HCL := Lib.hid (ColLoop.start (ys := fun k => colOf (rmL rows i rowZ) k.toNat) HT2.out hrg hb3)
  clear hrg hb3 hsz3
  go_wp2
  go_loopw [9] (fun _ wr => ∃ todo cnt, Hid (ColLoop w2 wr p F2 m (rmL (hsOf rows) i (0, 0)) (fun k => colOf rows k.toNat) (fun k => colOf (rmL rows i rowZ) k.toNat) v2 mb n cb w2.heap.size todo cnt)) (fun _ wr => wr.rangeLeft mb w2.heap.size)
  case atStart => exact ⟨_, _, HCL⟩
  case round =>
    obtain ⟨todo, cnt, hcl⟩ := hrel
    clear HCL
    go_wp2_with (first | (at_next; refine wpList_next_is (K := kInt) _ rfl _ rfl rfl hcl.out.range ?_ ?_))
    case refine_1 =>
      rintro rfl
      obtain ⟨F3, c3, ht3, hk3, hm3⟩ := hcl.out.done
      have hs := HSZ.out
      have hrb : wr.heap[w.heap.size]? = some (.cells #[.int .i64 0, .int .i64 0, .int .i64 0, .int .i64 0, .int .i64 0, .int .i64 0, .int .i64 0, .int .i64 0, .int .i64 0, .int .i64 0, .int .i64 0] 55) := by rw [hk3.block _ (by omega) (HN1.out _ (Nat.le_refl _) (by omega))]; exact HRB2.out
      have hrr : wr.heap[w'.heap.size]? = some (.cells #[.int .i64 r.s, .int .i64 r.g, .int .i64 r.m, .int .i64 (r.f 0), .int .i64 (r.f 1), .int .i64 (r.f 2), .int .i64 (r.f 3), .int .i64 (r.f 4), .int .i64 (r.f 5), .int .i64 (r.f 6), .int .i64 (r.f 7)] 55) := by rw [hk3.block _ (by omega) (HN1.out _ HX.out (by omega))]; exact HRR2.out
      have k0 : wr.cell? ⟨w.heap.size, 0, none⟩ = some (.int .i64 0) := by rw [cell_of_row _ _ _ _ _ _ hrb]; rfl
      have k1 : wr.cell? ⟨w.heap.size, 1, none⟩ = some (.int .i64 0) := by rw [cell_of_row _ _ _ _ _ _ hrb]; rfl
      have k2 : wr.cell? ⟨w.heap.size, 2, none⟩ = some (.int .i64 0) := by rw [cell_of_row _ _ _ _ _ _ hrb]; rfl
      have k3 : wr.cell? ⟨w.heap.size, 3, none⟩ = some (.int .i64 0) := by rw [cell_of_row _ _ _ _ _ _ hrb]; rfl
      have k4 : wr.cell? ⟨w.heap.size, 4, none⟩ = some (.int .i64 0) := by rw [cell_of_row _ _ _ _ _ _ hrb]; rfl
      have k5 : wr.cell? ⟨w.heap.size, 5, none⟩ = some (.int .i64 0) := by rw [cell_of_row _ _ _ _ _ _ hrb]; rfl
      have k6 : wr.cell? ⟨w.heap.size, 6, none⟩ = some (.int .i64 0) := by rw [cell_of_row _ _ _ _ _ _ hrb]; rfl
      have k7 : wr.cell? ⟨w.heap.size, 7, none⟩ = some (.int .i64 0) := by rw [cell_of_row _ _ _ _ _ _ hrb]; rfl
      have k8 : wr.cell? ⟨w.heap.size, 8, none⟩ = some (.int .i64 0) := by rw [cell_of_row _ _ _ _ _ _ hrb]; rfl
      have k9 : wr.cell? ⟨w.heap.size, 9, none⟩ = some (.int .i64 0) := by rw [cell_of_row _ _ _ _ _ _ hrb]; rfl
      have k10 : wr.cell? ⟨w.heap.size, 10, none⟩ = some (.int .i64 0) := by rw [cell_of_row _ _ _ _ _ _ hrb]; rfl
      have q0 : wr.cell? ⟨w'.heap.size, 0, none⟩ = some (.int .i64 r.s) := by rw [cell_of_row _ _ _ _ _ _ hrr]; rfl
      have q1 : wr.cell? ⟨w'.heap.size, 1, none⟩ = some (.int .i64 r.g) := by rw [cell_of_row _ _ _ _ _ _ hrr]; rfl
      have q2 : wr.cell? ⟨w'.heap.size, 2, none⟩ = some (.int .i64 r.m) := by rw [cell_of_row _ _ _ _ _ _ hrr]; rfl
      have q3 : wr.cell? ⟨w'.heap.size, 3, none⟩ = some (.int .i64 (r.f 0)) := by rw [cell_of_row _ _ _ _ _ _ hrr]; rfl
      have q4 : wr.cell? ⟨w'.heap.size, 4, none⟩ = some (.int .i64 (r.f 1)) := by rw [cell_of_row _ _ _ _ _ _ hrr]; rfl
      have q5 : wr.cell? ⟨w'.heap.size, 5, none⟩ = some (.int .i64 (r.f 2)) := by rw [cell_of_row _ _ _ _ _ _ hrr]; rfl
      have q6 : wr.cell? ⟨w'.heap.size, 6, none⟩ = some (.int .i64 (r.f 3)) := by rw [cell_of_row _ _ _ _ _ _ hrr]; rfl
      have q7 : wr.cell? ⟨w'.heap.size, 7, none⟩ = some (.int .i64 (r.f 4)) := by rw [cell_of_row _ _ _ _ _ _ hrr]; rfl
      have q8 : wr.cell? ⟨w'.heap.size, 8, none⟩ = some (.int .i64 (r.f 5)) := by rw [cell_of_row _ _ _ _ _ _ hrr]; rfl
      have q9 : wr.cell? ⟨w'.heap.size, 9, none⟩ = some (.int .i64 (r.f 6)) := by rw [cell_of_row _ _ _ _ _ _ hrr]; rfl
      have q10 : wr.cell? ⟨w'.heap.size, 10, none⟩ = some (.int .i64 (r.f 7)) := by rw [cell_of_row _ _ _ _ _ _ hrr]; rfl
      have fz : ∀ j, wr.frozen? ⟨w.heap.size, j, none⟩ = false := fun j => frozen_of_row _ _ _ _ _ hrb
      have hl2 := (Array.getElem?_eq_some_iff.1 hrb).1
      have hl3 := (Array.getElem?_eq_some_iff.1 hrr).1
      have hnF : ¬ F3 w.heap.size := fun e => by
        rcases hm3 _ e with e | e
        · exact HN1.out _ (Nat.le_refl _) (by omega) e
        · omega
      have HEND : Hid (∀ X, Kept (fun k => k = w.heap.size) wr X → RemPost w p F m rows i r 0 (.returned (.tuple #[.agg #[.int .i64 r.s, .int .i64 r.g, .int .i64 r.m, .int .i64 (r.f 0), .int .i64 (r.f 1), .int .i64 (r.f 2), .int .i64 (r.f 3), .int .i64 (r.f 4), .int .i64 (r.f 5), .int .i64 (r.f 6), .int .i64 (r.f 7)], .int .i64 0])) X) := Lib.hid (fun X hX => by
        refine ⟨rfl, F3, ⟨v2, mb, n, cb, c3, ?_⟩, (HK2.out.trans hk3 HM2.out).trans hX (fun k e => .inr (by omega)), HM2.out.trans hm3 (by have := HX.out; omega)⟩
        have := ht3.kept hX (fun k hk e => hnF (e ▸ hk))
        rw [hsOf_rm rows i HNE.out] at this
        rw [HRL.out]; exact this)
      have hwx : ¬ w.heap.size = w'.heap.size := by omega
      clear ht3 hk3 hm3 hcl hrb hrr hnF
      go_wp2
      refine bodyPost_ret (v := .tuple #[.agg #[.int .i64 r.s, .int .i64 r.g, .int .i64 r.m, .int .i64 (r.f 0), .int .i64 (r.f 1), .int .i64 (r.f 2), .int .i64 (r.f 3), .int .i64 (r.f 4), .int .i64 (r.f 5), .int .i64 (r.f 6), .int .i64 (r.f 7)], .int .i64 0]) (by simp [results, Try.results67, go_sem, k0, k1, k2, k3, k4, k5, k6, k7, k8, k9, k10]) rfl (HEND.out _ ?_)
      iterate 11 (refine kept_set ?_ _ _ _ (.inl rfl))
      exact Kept.refl _ _
    case refine_2 =>
      intro k w4 cnt' hk hkm hrg hlt hkp hsz hen
      obtain ⟨u, hc, hnext⟩ := hcl.out.next hk (Nat.le_refl _) hrg hkp hsz
      obtain ⟨j, hj, rfl, -⟩ := mem_kindsTo.1 hkm
      have HC := Lib.hid hc
      have HNX := Lib.hid hnext
      have HLT := Lib.hid hlt
      have hcb := hc.lt
      replace hen : (Instr.entry (.pointer (some ⟨w2.heap.size, 0, none⟩))).run Try.prog w4 = .ok (.tuple #[.int .i64 j, .pointer (some ⟨cb j, 0, none⟩)]) w4 := hen
      simp only [ptrOf, show kInt.val (j : Int) = .int .i64 j from rfl]
      clear hc hnext hkp hrg hlt hsz hk hkm
      go_wp2_with fail
      refine (colRemove_any 0 i _ HC.out (by rw [colOf_len]; exact HI.out)).mono ?_
      rintro e w5 ⟨rfl, hp⟩
      have HN := Lib.hid (HNX.out w5 (by rw [colOf_rm _ _ _ HNE.out] at hp; exact hp))
      clear hp
      go_wp2
      go_roundw
      case rel => exact ⟨_, _, HN⟩
      case measure => rw [HN.out.range.left_eq, hcl.out.range.left_eq]; exact HLT.out

theorem tabRemove_any (p : Nat) (F : Nat → Prop) (m : Int) (rows : List Rw) (i : Int) (r : Rw) (x : Int) (w : World) (h : TableAt w p F m rows) (ok : TabOk m rows) (hr : rowR rows i = r) (hx : rowE rows i = x) :
    Calls Try.prog 67 #[.pointer (some ⟨p, 0, none⟩), .int .i64 i] w (RemPost w p F m rows i r x) := by
  cases hi : inB i 0 (rows.length - 1)
  · obtain ⟨h1, h2⟩ := rowR_out hi
    rw [h1] at hr; rw [h2] at hx
    subst hr hx
    exact tabRemove_no p F m rows i w h ok hi
  · obtain ⟨b1, b2⟩ := inB_t hi
    obtain ⟨j, rfl⟩ := Int.eq_ofNat_of_zero_le b1
    obtain ⟨h1, h2⟩ := rowR_in (rows := rows) (i := j) (by omega)
    rw [h2] at hx
    subst hx
    exact tabRemove_yes p F m rows j r w h ok (by omega) (by rw [← h1]; exact hr)
end Go.Proofs.Ytakoejopgdaknaa

/- The contract of Rows of package world. -/
import Derived.Test.YtlclceiebnnpgaaGreatWorldList
import Derived.Test.YtlclceiebnnpgaaGreatListModel
namespace Go.Proofs.YtlclceiebnnpgaaGreat
set_option maxRecDepth 8000
open Go.RowKit

theorem run_range_nil (x : World) : (Instr.range 62 (.map none)).run Tryz.prog x = .ok (.pointer (some ⟨x.heap.size, 0, none⟩)) (x.alloc (.mapIter none 0 #[] 0)) := by
  simp only [Instr.range, Sem.run_bind, run_underlying Tryz.underlying62, Result.andThen]
  rfl
theorem run_next_nil {x : World} {r : Nat} (h : x.heap[r]? = some (.mapIter none 0 #[] 0)) (ty : TypeId) : (Instr.next (.pointer (some ⟨r, 0, none⟩)) false ty).run Tryz.prog x = .ok (.tuple #[.bool false]) x := by
  simp [Instr.next, getObj, Sem.run_bind, Sem.run, h, Result.andThen]

def RowsPost (w : World) (rows : List Rw) (a b c : Int) (e : Ending) (w' : World) : Prop :=
  ∃ v, e = .returned (.tuple #[v, .int .i64 (qErr a b c)]) ∧ OwnsF elRow w' w.heap.size 45 v (rowsQ rows a b c) ∧ Below w.heap.size w w'
theorem RowsPost.sorted {w w4 w5 : World} {B : Nat} {v : Value} {rows zs : List Rw} {a b c : Int} (hq : qErr a b c = 0) (hz : zs = rows.filter (fun r => matchB r.m a b c)) (ho : OwnsF elRow w5 B 45 v zs) (hB : w.heap.size ≤ B) (hb : Below w.heap.size w w4) (hk : Kept (fun b => v.ownBlock = some b) w4 w5) :
    RowsPost w rows a b c (.returned (.tuple #[v, .int .i64 0])) w5 := by
  refine ⟨v, by rw [hq], ?_, hb.trans (hk.below hb.size (fun k e => by have := ho.ge e; omega))⟩
  rw [rowsQ, if_pos hq, ← hz]
  exact ho.weaken hB

set_option maxHeartbeats 4000000 in
theorem worldRows_any (p : Nat) (F : Nat → Prop) (l : List (Int × Bool)) (rows : List Rw) (a b c : Int) (w : World) (h : WldAt w p F l (· ∈ rows)) (ok : WOk l rows) :
    Calls Tryz.prog 7 #[.pointer (some ⟨p, 0, none⟩), .agg #[.int .i64 a, .int .i64 b, .int .i64 c]] w (RowsPost w rows a b c) := by
  have HOK := Lib.hid ok
  obtain ⟨cc, tm, pm, ks, tb, tr, hk, pl, h⟩ := h
  have HWI := Lib.hid h
  have hplw := h.plt
  have hX : Below w.heap.size w (w.alloc (.cells #[.int .i64 a, .int .i64 b, .int .i64 c] 42)) := nb_alloc (Below.refl _ _) _
  have hxb : (w.alloc (.cells #[.int .i64 a, .int .i64 b, .int .i64 c] 42)).heap[w.heap.size]? = some (.cells #[.int .i64 a, .int .i64 b, .int .i64 c] 42) := heap_alloc_new _ _
  have HX := Lib.hid hX
  have HXB := Lib.hid hxb
  have hxl := (Array.getElem?_eq_some_iff.1 hxb).1
  clear h hX hxb ok
  go_enter Tryz.func7, Tryz.ntmps7
  go_wp2_with fail
  generalize (w.alloc (.cells #[.int .i64 a, .int .i64 b, .int .i64 c] 42)) = X at *
  refine (checkQuery_any _ _ _ _).mono ?_
  rintro e w1 ⟨rfl, hw1⟩
  have hb1 : Below X.heap.size X w1 := by rw [← hw1]; exact nb_alloc (Below.refl _ _) _
  have HB1 : Hid (Below w.heap.size w w1) := Lib.hid (nb_trans HX.out hb1)
  have h1b : w1.heap[w.heap.size]? = some (.cells #[.int .i64 a, .int .i64 b, .int .i64 c] 42) := by rw [hb1.block _ hxl]; exact HXB.out
  have h1l := (Array.getElem?_eq_some_iff.1 h1b).1
  have H1B := Lib.hid h1b
  clear hw1 hb1 h1b
  by_cases hq : qErr a b c = 0
  · rw [hq]
    have HQ := Lib.hid hq
    have hpl1 : p < w1.heap.size := Nat.lt_of_lt_of_le hplw HB1.out.size
    have c1 := (HWI.out.later HB1.out).cell1
    clear hq
    rcases HWI.out.maps with ⟨rfl, rfl, rfl, rfl⟩ | ⟨mt, mp, rfl, rfl, -⟩
    · as_aux_lemma =>
      have hrn := run_range_nil
      have HSZ := Lib.hid (heap_alloc_new w1 (.mapIter none 0 #[] 0))
      have HP0 := Lib.hid (Pick.start [] tr a b c)
      go_wp2
      go_loopw [7] (fun v wr => v = .slice none 0 0 ∧ wr = w1.alloc (.mapIter none 0 #[] 0)) (fun _ _ => 0)
      case atStart => exact ⟨rfl, rfl⟩
      case round =>
        obtain ⟨rfl, rfl⟩ := hrel
        have hnx := run_next_nil HSZ.out
        go_wp2_with fail
        refine (sortRows_any w.heap.size _ [] _ (OwnsF.nil _ _ _ _) (by simp)).mono ?_
        rintro e w5 ⟨rfl, zs, hp, hs, ho, hk5⟩
        have HEND := Lib.hid (RowsPost.sorted HQ.out (HP0.out.done HWI.out.laid HOK.out hp hs) ho (Nat.le_refl _) (nb_alloc HB1.out _) hk5)
        clear hp hs ho hk5 hnx
        go_wp2
        go_ret2
        exact HEND.out
    · have HMT := Lib.hid (HWI.out.later HB1.out).mapT
      go_wp2_with (first | (at_range; refine wpList_range_is (K := kInt) _ rfl _ 62 rfl _ Tryz.underlying62 rfl HMT.out.1 ?_))
      intro w2 hrg hb2 hsz2
      have HRG := Lib.hid hrg
      have HB2 : Hid (Below w.heap.size w w2) := Lib.hid (nb_trans HB1.out hb2)
      have H2B : Hid (w2.heap[w.heap.size]? = some (.cells #[.int .i64 a, .int .i64 b, .int .i64 c] 42)) := Lib.hid (by rw [hb2.block _ h1l]; exact H1B.out)
      have HSZ := Lib.hid hsz2
      have HP0 := Lib.hid (Pick.start ks tr a b c)
      have HMTL : Hid (mt < w.heap.size) := Lib.hid (HWI.out.lt mt HMT.out.2.1)
      clear hrg hb2 hsz2 c1
      go_wp2
      go_loopw [7] (fun v wr => ∃ todo cnt ys, Hid (RangeIs kInt wr mt w1.heap.size ks.length ks (ptrOf tb) todo cnt) ∧ Hid (Pick ks tr a b c todo ys) ∧ Hid (OwnsF elRow wr (w1.heap.size + 1) 45 v ys) ∧ Hid (Below w.heap.size w wr) ∧ Hid (wr.heap[w.heap.size]? = some (.cells #[.int .i64 a, .int .i64 b, .int .i64 c] 42)) ∧ Hid (w1.heap.size + 1 ≤ wr.heap.size)) (fun _ wr => wr.rangeLeft mt w1.heap.size)
      case atStart => exact ⟨_, _, [], HRG, HP0, OwnsF.nil _ _ _ _, HB2, H2B, Lib.hid (by rw [HSZ.out]; exact Nat.le_refl _)⟩
      case round =>
        obtain ⟨todo, cnt, ys, hR, hP, hO, hBw, hqb, hsz⟩ := hrel
        have hyl : ys.length ≤ 60 := Nat.le_trans (hP.out.len HWI.out.laid) HOK.out.len60
        go_wp2_with (first | (at_next; refine wpList_next_is (K := kInt) _ rfl _ rfl rfl hR.out ?_ ?_))
        case refine_1 =>
          rintro rfl
          clear HRG HP0 HB2 H2B HSZ
          go_wp2_with fail
          refine (sortRows_any _ _ ys _ hO.out (by omega)).mono ?_
          rintro e w5 ⟨rfl, zs, hp, hs, ho, hk5⟩
          have HEND := Lib.hid (RowsPost.sorted HQ.out (hP.out.done HWI.out.laid HOK.out hp hs) ho (by have := HB1.out.size; omega) hBw.out hk5)
          clear hp hs ho hk5
          go_wp2
          go_ret2
          exact HEND.out
        case refine_2 =>
          intro k w4 cnt' hkt hkm hrg hlt hkp hsz4 hen
          have hB4 : Below w.heap.size w w4 := hBw.out.trans (hkp.below hBw.out.size (fun k e => by have := HB1.out.size; omega))
          have hq4 : w4.heap[w.heap.size]? = some (.cells #[.int .i64 a, .int .i64 b, .int .i64 c] 42) := by rw [hkp.block _ (Array.getElem?_eq_some_iff.1 hqb.out).1 (by omega)]; exact hqb.out
          have hO4 : OwnsF elRow w4 (w1.heap.size + 1) 45 _ ys := hO.out.kept hkp (fun j e => by have := hO.out.ge e; omega)
          have q0 : w4.cell? ⟨w.heap.size, 0, none⟩ = some (.int .i64 a) := by rw [cell_of_row _ _ _ _ _ _ hq4]; rfl
          have q1 : w4.cell? ⟨w.heap.size, 1, none⟩ = some (.int .i64 b) := by rw [cell_of_row _ _ _ _ _ _ hq4]; rfl
          have q2 : w4.cell? ⟨w.heap.size, 2, none⟩ = some (.int .i64 c) := by rw [cell_of_row _ _ _ _ _ _ hq4]; rfl
          have q4l := (Array.getElem?_eq_some_iff.1 hq4).1
          have HRG4 := Lib.hid hrg
          have HLT := Lib.hid hlt
          have HB4 := Lib.hid hB4
          have HQ4 := Lib.hid hq4
          have HO4 := Lib.hid hO4
          have HKT := Lib.hid hkt
          have HKM := Lib.hid hkm
          have hs4 := hsz.out
          rw [← hsz4] at hs4
          have HS4 := Lib.hid hs4
          replace hen : (Instr.entry (.pointer (some ⟨w1.heap.size, 0, none⟩))).run Tryz.prog w4 = .ok (.tuple #[.int .i64 k, .pointer (some ⟨tb k, 0, none⟩)]) w4 := hen
          simp only [ptrOf, show kInt.val k = .int .i64 k from rfl]
          clear hrg hlt hB4 hq4 hO4 hkt hkm hkp hsz4 hs4 HRG HP0 HB2 H2B HSZ
          go_wp2_with fail
          refine (matches_any k a b c _).mono ?_
          rintro e w5 ⟨rfl, hw5⟩
          have hb5 : Below w4.heap.size w4 w5 := by rw [← hw5]; exact nb_alloc (Below.refl _ _) _
          have hs5 := hb5.size
          have hs4' := HS4.out
          have HB5 : Hid (Below w.heap.size w w5) := Lib.hid (nb_trans HB4.out hb5)
          have HQ5 : Hid (w5.heap[w.heap.size]? = some (.cells #[.int .i64 a, .int .i64 b, .int .i64 c] 42)) := Lib.hid (by rw [hb5.block _ q4l]; exact HQ4.out)
          have HO5 := Lib.hid (HO4.out.later hb5)
          have HRG5 := Lib.hid (HRG4.out.later hb5)
          clear hw5 hb5 q0 q1 q2 hen
          cases hm : matchB k a b c
          · as_aux_lemma =>
            have HPN := Lib.hid (hP.out.skip (k := k) hm)
            go_wp2
            go_roundw
            case rel => exact ⟨_, _, ys, HRG5, HPN, HO5, HB5, HQ5, Lib.hid (by omega)⟩
            case measure => rw [HRG5.out.left_eq, hR.out.left_eq]; exact HLT.out
          · as_aux_lemma =>
            have HPN := Lib.hid (hP.out.next HWI.out.laid HKT.out HKM.out hm)
            have htl : (tr k).length ≤ 60 := Nat.le_trans (HWI.out.laid.trLen (fun _ h => h) HKM.out) HOK.out.len60
            go_wp2_with fail
            refine (appendRows_any (w1.heap.size + 1) _ ys (tb k) _ k (tr k) _ (by omega) HO5.out ((HWI.out.tabs k HKM.out).later HB5.out) (fun b hb => by have := HWI.out.lt b hb.1; have := HB1.out.size; omega) (HWI.out.laid.tab HKM.out) (by omega)).mono ?_
            rintro e w6 ⟨v6, rfl, ho6, hb6⟩
            have hs6 := hb6.size
            have HO6 := Lib.hid ho6
            have h1s := HB1.out.size
            have HB6 : Hid (Below w.heap.size w w6) := Lib.hid (HB5.out.trans (hb6.mono (by omega)))
            have HQ6 : Hid (w6.heap[w.heap.size]? = some (.cells #[.int .i64 a, .int .i64 b, .int .i64 c] 42)) := Lib.hid (by rw [hb6.block _ (by omega)]; exact HQ5.out)
            have HRG6 := Lib.hid (HRG5.out.kept (F := fun b => w1.heap.size + 1 ≤ b) ⟨hb6.os, hb6.tape, hb6.output, hb6.size, fun b hb hf => hb6.block b (by omega)⟩ (by have := HMTL.out; omega) (by omega))
            clear ho6 hb6
            go_wp2
            go_roundw
            case rel => exact ⟨_, _, ys ++ tr k, HRG6, HPN, HO6, HB6, HQ6, Lib.hid (by omega)⟩
            case measure => rw [HRG6.out.left_eq, hR.out.left_eq]; exact HLT.out
  · as_aux_lemma =>
    have hE : qErr a b c = 1 := by unfold qErr at hq ⊢; split at hq <;> simp_all
    rw [hE]
    have HEND : Hid (RowsPost w rows a b c (.returned (.tuple #[.slice none 0 0, .int .i64 1])) w1) := Lib.hid ⟨_, by rw [hE], by rw [rowsQ, if_neg hq]; exact OwnsF.nil _ _ _ _, HB1.out⟩
    clear hq hE
    go_wp2
    go_ret2
    exact HEND.out
end Go.Proofs.YtlclceiebnnpgaaGreat

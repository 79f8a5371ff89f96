
/- Contracts and plain facts, several texts in one. -/
import Derived.Shelf.SlSortCmp.WholeK
import Derived.Shelf.SlicesG.Cmp
import Derived.Shelf.SlGeneric
import Derived.Ground.SlsfProg
import Derived.Ground.SlgcProg
import Derived.Test.YtndhomjfjhohoaaGreatDoorProg
import Derived.Shelf.SlSortCmp.NoneTotal
import Derived.ChangeKeysEq
import Derived.Test.YtndhomjfjhohoaaGreatDoorGroundA
import Derived.Test.YtndhomjfjhohoaaGreatDoorGroundB
import Derived.Test.YtndhomjfjhohoaaGreatDoorGroundC
import Derived.Test.YtndhomjfjhohoaaGreatDoorGroundD
import Derived.Test.YtndhomjfjhohoaaGreatDoorGroundE
/- slices.SortFunc at rows, cmp.Compare at ints: laid at this program. -/
namespace Go.Proofs.YtndhomjfjhohoaaGreatDoor
open Go.Shelf
def cmpLay_ren : Go.Shelf.Ren := ⟨fun | 5 => 57 | 7 => 94 | n => n, fun | 22 => 3 | 3 => 3 | 4 => 4 | n => n, fun | n => n⟩
theorem cmpLay : Go.Proofs.SlLaysC2.n5 Tryz.prog cmpLay_ren := {
  mixed := by kernel_rfl
  f5 := ⟨Tryz.f57.name, by decide, Tryz.func57.trans (congrArg some (by kernel_rfl))⟩
  f7 := ⟨Tryz.f94.name, by decide, Tryz.func94.trans (congrArg some (by kernel_rfl))⟩
  t3 := Tryz.underlying3
  a3 := Tryz.isAgg3
  z3 := Tryz.sizeOf3
  v3 := Tryz.zeroValue3
  t4 := Tryz.underlying4
  a4 := Tryz.isAgg4
  z4 := Tryz.sizeOf4
  v4 := Tryz.zeroValue4
  t22 := Tryz.underlying3
  a22 := Tryz.isAgg3
  z22 := Tryz.sizeOf3
  v22 := Tryz.zeroValue3 }
end Go.Proofs.YtndhomjfjhohoaaGreatDoor

/- Rows are sorted by their slots: slices.SortFunc with the literal of Rows. -/
namespace Go.Proofs.YtndhomjfjhohoaaGreatDoor
set_option maxRecDepth 8000
open Go.RowKit Go.Shelf Go.Lib Go.Sort

instance : Inhabited Rw := ⟨rowZ⟩
theorem getBang {α : Type} [Inhabited α] (xs : List α) (i : Nat) (d : α) (h : i < xs.length) : xs.toArray[i]! = xs.getD i d := by
  rw [getElem!_pos xs.toArray i (by simpa using h), List.getD_eq_getElem?_getD, List.getElem?_eq_getElem h]; rfl
/-- The cells of a row of elements, one by one. -/
theorem flat_at (xs : List Rw) (t : Nat) (h : t < xs.length * 11) : (flatK elRow.enc 11 xs.toArray)[t]! = (xs.flatMap elRow.enc)[t]! := by
  rw [get_flatK _ _ _ _ (by simpa using h)]
  have hq : t / 11 < xs.length := by omega
  have hm : t % 11 < 11 := Nat.mod_lt _ (by decide)
  have e := enc_at elRow xs (t / 11) (t % 11) hq hm
  rw [show elRow.size = 11 from rfl, show t / 11 * 11 + t % 11 = t by omega] at e
  rw [getBang xs (t / 11) elRow.zero hq]
  have l1 : t % 11 < (elRow.enc (xs.getD (t / 11) elRow.zero)).length := by rw [elRow.len]; exact hm
  have l2 : t < (xs.flatMap elRow.enc).length := by rw [length_enc]; exact h
  rw [List.getElem?_eq_getElem l1, List.getElem?_eq_getElem l2] at e
  rw [getElem!_pos (elRow.enc (xs.getD (t / 11) elRow.zero)) (t % 11) l1, getElem!_pos (xs.flatMap elRow.enc) t l2]
  exact (Option.some.inj e).symm

theorem OwnsF.holds {w : World} {B g n cap : Nat} {T : TypeId} {xs : List Rw} (h : OwnsF elRow w B T (.slice (some ⟨g, 0, none⟩) n cap) xs) : HoldsK elRow.enc 11 w g 0 xs.toArray := by
  intro j hj
  have en : n = xs.length := by
    rcases h.owns.form with ⟨h', _⟩ | ⟨g', cap', cur, h', _⟩
    · cases h'
    · simpa using (Value.slice.inj h').2.1
  subst en
  rw [size_flatK] at hj
  have hj' : j < xs.length * 11 := by simpa using hj
  have l2 : j < (xs.flatMap elRow.enc).length := by rw [length_enc]; exact hj'
  refine ⟨?_, ?_⟩
  · rw [flat_at xs j hj', Nat.zero_add, World.ownsRow.cellAt h.owns j hj', List.getElem?_eq_getElem l2, getElem!_pos (xs.flatMap elRow.enc) j l2]; rfl
  · rcases h.2 with ⟨e, _⟩ | ⟨g', cap', cur, e, hb, hh, _⟩
    · cases e
    · simp only [Value.slice.injEq, Option.some.injEq, Addr.mk.injEq] at e
      obtain ⟨⟨rfl, _⟩, _⟩ := e
      exact frozen_of_row _ _ _ _ _ hh

theorem mapBlock_heap (w : World) (blk : Nat) (f : Array Value → Array Value) {c : Array Value} {T : TypeId} {fr : Nat × Nat} (h : w.heap[blk]? = some (.cells c T fr)) : (mapBlock w blk f).heap[blk]? = some (.cells (f c) T fr) := by
  unfold mapBlock
  simp only [Array.getElem?_modify, h, if_true, Option.map_some]
  rfl
theorem mapBlock_size (w : World) (blk : Nat) (f : Array Value → Array Value) : (mapBlock w blk f).heap.size = w.heap.size := by
  unfold mapBlock; simp
theorem grow_heap (w : World) (os : Array Obj) {b : Nat} (h : b < w.heap.size) : (grow w os).heap[b]? = w.heap[b]? := by
  unfold grow; simp [Array.getElem?_append, h]
/-- The row has been laid anew. -/
theorem OwnsF.sorted {w : World} {B g n cap m : Nat} {T : TypeId} {xs ys : List Rw} (h : OwnsF elRow w B T (.slice (some ⟨g, 0, none⟩) n cap) xs) (hl : ys.length = xs.length) (os : Array Obj) :
    OwnsF elRow (sortWorldK elRow.enc 11 w g 0 m ys.toArray os) B T (.slice (some ⟨g, 0, none⟩) n cap) ys := by
  refine ⟨by rw [length_enc], ?_⟩
  rcases h.2 with ⟨e, _⟩ | ⟨g', cap', cur, e, hb, hh, hn, hc, hs, ht⟩
  · cases e
  · simp only [Value.slice.injEq, Option.some.injEq, Addr.mk.injEq, and_true] at e
    obtain ⟨rfl, rfl, rfl⟩ := e
    have hg : g < w.heap.size := (Array.getElem?_eq_some_iff.1 hh).1
    refine .inr ⟨g, cap, putCells id 0 (flatK elRow.enc 11 ys.toArray) cur, by rw [hl], hb, ?_, by rw [hl]; exact hn, hc, by simp [putCells, hs], ?_⟩
    · unfold sortWorldK putRowK putRow
      rw [grow_heap _ _ (by rw [mapBlock_size]; exact hg)]
      exact mapBlock_heap _ _ _ hh
    · have hle : xs.length * 11 ≤ cur.size := by rw [hs]; exact Nat.mul_le_mul_right _ hn
      refine List.ext_getElem (by
        have e1 : (putCells id 0 (flatK elRow.enc 11 ys.toArray) cur).toList.length = cap * elRow.size := by simp [putCells, hs]
        rw [length_enc, List.length_take, e1, hl]
        have := Nat.mul_le_mul_right elRow.size hn
        omega) fun t h1 h2 => ?_
      have ht' : t < ys.length * 11 := by rw [length_enc] at h2; exact h2
      have htc : t < cur.size := by rw [hl] at ht'; omega
      simp only [List.getElem_take, putCells, Array.getElem_toList, Array.getElem_mapIdx, id, size_flatK]
      rw [if_pos ⟨Nat.zero_le _, by simpa using ht'⟩, Nat.sub_zero, flat_at ys t ht', getElem!_pos (ys.flatMap elRow.enc) t h2]

end Go.Proofs.YtndhomjfjhohoaaGreatDoor

/- The contracts of appendRows and Rows of package world. -/
namespace Go.Proofs.YtndhomjfjhohoaaGreatDoor
set_option maxRecDepth 8000
open Go.RowKit

end Go.Proofs.YtndhomjfjhohoaaGreatDoor

/- The contract of Rows of package world. -/
namespace Go.Proofs.YtndhomjfjhohoaaGreatDoor
set_option maxRecDepth 8000
open Go.RowKit
variable {ZT : TypeId} {zr : List Value}

def RowsPost (w : World) (rows : List Rw) (a b c : Int) (e : Ending) (w' : World) : Prop :=
  ∃ v, e = .returned (.tuple #[v, .int .i64 (qErr a b c)]) ∧ OwnsF elRow w' w.heap.size 54 v (rowsQ rows a b c) ∧ Below w.heap.size w w'
theorem RowsPost.sorted {w w4 w5 : World} {B : Nat} {v : Value} {rows zs : List Rw} {a b c : Int} (hq : qErr a b c = 0) (hz : zs = rows.filter (fun r => matchB r.m a b c)) (ho : OwnsF elRow w5 B 54 v zs) (hB : w.heap.size ≤ B) (hb : Below w.heap.size w w4) (hk : Kept (fun b => v.ownBlock = some b) w4 w5) :
    RowsPost w rows a b c (.returned (.tuple #[v, .int .i64 0])) w5 := by
  refine ⟨v, by rw [hq], ?_, hb.trans (hk.below hb.size (fun k e => by have := ho.ge e; omega))⟩
  rw [rowsQ, if_pos hq, ← hz]
  exact ho.weaken hB

end Go.Proofs.YtndhomjfjhohoaaGreatDoor

/- Arrays of eight ints, and rows, compared with themselves. -/
namespace Go.Proofs.YtndhomjfjhohoaaGreatDoor
open Go.RowKit

theorem eq8_at (d : Nat) (f : Nat → Int) (w : World) : (Op.equalIn (d + 2) 50 (.agg #[.int .i64 (f 0), .int .i64 (f 1), .int .i64 (f 2), .int .i64 (f 3), .int .i64 (f 4), .int .i64 (f 5), .int .i64 (f 6), .int .i64 (f 7)]) (.agg #[.int .i64 (f 0), .int .i64 (f 1), .int .i64 (f 2), .int .i64 (f 3), .int .i64 (f 4), .int .i64 (f 5), .int .i64 (f 6), .int .i64 (f 7)])).run Tryz.prog w = .ok true w := by
  obtain ⟨i, hi, _⟩ := info_parts infoInt
  have hc : Tryz.prog.cellsOf 3 = 1 := by kernel_rfl
  have he : ∀ x w, (Op.equalIn (d + 1) 3 (.int .i64 x) (.int .i64 x)).run Tryz.prog w = .ok true w := fun x w => by rw [run_equalIn_int w d 3 .i64 .i64 _ _ Tryz.underlying3]; simp
  rw [run_equalIn_array (P := Tryz.prog) w (d + 1) _ _ Tryz.underlying50 hi, hc]
  simp [List.range, List.range.loop, Op.eqItems, part, isAgg, run_underlying Tryz.underlying3, he]
/-- inside a row -/
theorem eq8_run (f : Nat → Int) (w : World) : (Op.equalIn 9998 50 (.agg #[.int .i64 (f 0), .int .i64 (f 1), .int .i64 (f 2), .int .i64 (f 3), .int .i64 (f 4), .int .i64 (f 5), .int .i64 (f 6), .int .i64 (f 7)]) (.agg #[.int .i64 (f 0), .int .i64 (f 1), .int .i64 (f 2), .int .i64 (f 3), .int .i64 (f 4), .int .i64 (f 5), .int .i64 (f 6), .int .i64 (f 7)])).run Tryz.prog w = .ok true w := eq8_at 9996 f w
end Go.Proofs.YtndhomjfjhohoaaGreatDoor

/- Lists of rows compared with themselves; a row looked for in rows of distinct slots. -/
namespace Go.Proofs.YtndhomjfjhohoaaGreatDoor
set_option maxRecDepth 8000
open Go.RowKit

set_option maxHeartbeats 4000000 in
theorem eqRow_same (u v : Value) (xs : List Rw) (w : World) (hx : Reads elRow w u xs) (hy : Reads elRow w v xs) :
    Calls Tryz.prog 29 #[u, v] w fun e w' => e = .returned (.bool true) ∧ Below w.heap.size w w' := by
  obtain ⟨hm, hx⟩ := hx.open
  obtain ⟨-, hy⟩ := hy.open
  unfold maxLen at hm
  generalize hn : xs.length = n at *
  clear hn
  rcases hx with ⟨a, cap, rfl, hz⟩ | ⟨b, off, cap, rfl, hb, hlc, hcm, hc⟩ <;> rcases hy with ⟨a', cap', rfl, hz'⟩ | ⟨b', off', cap', rfl, hb', hlc', hcm', hc'⟩
  all_goals
    have hne : ((n : Int) != (n : Int)) = false := by simp
    go_enter Tryz.func29, Tryz.ntmps29
    go_wp2
    go_loopw [14] (fun i wr => ∃ k : Nat, k ≤ n ∧ i = .int .i64 k ∧ Hid (Below w.heap.size w wr)) (fun i _ => n - (intOf i).toNat)
    case atStart => exact ⟨0, by omega, rfl, Below.refl _ _⟩
    case round =>
      obtain ⟨k, hk, rfl, hB⟩ := hrel
      by_cases hlt : k < n
      · first
          | omega
          | (have hcr : ∀ jj, jj < 11 → wr.cell? ⟨b, off + k * 11 + jj, none⟩ = (elRow.enc (xs.getD k rowZ))[jj]? := fun jj hjj => by rw [hB.out.cell (p := ⟨b, _, none⟩) hb]; exact hc k hlt jj hjj
             have hcr' : ∀ jj, jj < 11 → wr.cell? ⟨b', off' + k * 11 + jj, none⟩ = (elRow.enc (xs.getD k rowZ))[jj]? := fun jj hjj => by rw [hB.out.cell (p := ⟨b', _, none⟩) hb']; exact hc' k hlt jj hjj
             generalize xs.getD k rowZ = r at *
             obtain ⟨c0, c1, c2, c3, c4, c5, c6, c7, c8, c9, c10⟩ := lRow (O := off + k * 11) (r := r) hcr
             obtain ⟨d0, d1, d2, d3, d4, d5, d6, d7, d8, d9, d10⟩ := lRow (O := off' + k * 11) (r := r) hcr'
             have hbw : b < wr.heap.size := Nat.lt_of_lt_of_le hb hB.out.size
             have hbw' : b' < wr.heap.size := Nat.lt_of_lt_of_le hb' hB.out.size
             have heq8 := eq8_run r.f
             clear hc hc' hcr hcr'
             go_wp2
             go_quiet (fail)
             go_wp2
             go_roundw
             case rel => exact ⟨k + 1, by omega, by go_num, nb_drewN (nb_alloc hB.out _)⟩
             case measure => simp [intOf]; omega)
      · obtain rfl : k = n := by omega
        go_wp2
        go_ret
        exact ⟨rfl, hB.out⟩
end Go.Proofs.YtndhomjfjhohoaaGreatDoor

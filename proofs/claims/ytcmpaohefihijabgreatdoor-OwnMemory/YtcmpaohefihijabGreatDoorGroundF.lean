/- Contracts and plain facts, several texts in one. -/
import Derived.Shelf.SlSortCmp.WholeK
import Derived.Shelf.SlicesG.Cmp
import Derived.Shelf.SlGeneric
import Derived.Ground.SlsfProg
import Derived.Ground.SlgcProg
import Derived.Test.YtcmpaohefihijabGreatDoorProg
import Derived.Shelf.SlSortCmp.NoneTotal
import Derived.ChangeKeysEq
import Derived.Test.YtcmpaohefihijabGreatDoorGroundA
import Derived.Test.YtcmpaohefihijabGreatDoorGroundB
import Derived.Test.YtcmpaohefihijabGreatDoorGroundC
import Derived.Test.YtcmpaohefihijabGreatDoorGroundD
import Derived.Test.YtcmpaohefihijabGreatDoorGroundE
/- slices.SortFunc at rows, cmp.Compare at ints: laid at this program. -/
namespace Go.Proofs.YtcmpaohefihijabGreatDoor
open Go.Shelf
def sortRow_ren : Go.Shelf.Ren := ⟨fun | 6 => 69 | 15 => 52 | 14 => 107 | 28 => 87 | 29 => 88 | 20 => 127 | 21 => 128 | 22 => 129 | 23 => 130 | 24 => 131 | 25 => 132 | 26 => 133 | 27 => 134 | 46 => 149 | 47 => 113 | 48 => 114 | 49 => 150 | 50 => 151 | 57 => 157 | n => n, fun | 22 => 28 | 24 => 39 | 25 => 139 | 3 => 3 | 39 => 118 | 0 => 0 | 53 => 160 | 55 => 162 | 4 => 4 | 46 => 153 | 45 => 152 | 50 => 157 | 5 => 5 | 9 => 9 | 66 => 192 | 70 => 196 | 76 => 221 | 77 => 222 | n => n, fun | n => n⟩
theorem sortRow : Go.Proofs.SlLaysF0.n6 Tryz.prog sortRow_ren := {
  mixed := by kernel_rfl
  f6 := ⟨Tryz.f69.name, by decide, Tryz.func69.trans (congrArg some (by kernel_rfl))⟩
  f14 := ⟨Tryz.f107.name, by decide, Tryz.func107.trans (congrArg some (by kernel_rfl))⟩
  f15 := Tryz.func52.trans (congrArg some (by kernel_rfl))
  f20 := ⟨Tryz.f127.name, by decide, Tryz.func127.trans (congrArg some (by kernel_rfl))⟩
  f21 := ⟨Tryz.f128.name, by decide, Tryz.func128.trans (congrArg some (by kernel_rfl))⟩
  f22 := ⟨Tryz.f129.name, by decide, Tryz.func129.trans (congrArg some (by kernel_rfl))⟩
  f23 := ⟨Tryz.f130.name, by decide, Tryz.func130.trans (congrArg some (by kernel_rfl))⟩
  f24 := ⟨Tryz.f131.name, by decide, Tryz.func131.trans (congrArg some (by kernel_rfl))⟩
  f25 := ⟨Tryz.f132.name, by decide, Tryz.func132.trans (congrArg some (by kernel_rfl))⟩
  f26 := ⟨Tryz.f133.name, by decide, Tryz.func133.trans (congrArg some (by kernel_rfl))⟩
  f27 := ⟨Tryz.f134.name, by decide, Tryz.func134.trans (congrArg some (by kernel_rfl))⟩
  f28 := Tryz.func87.trans (congrArg some (by kernel_rfl))
  f29 := Tryz.func88.trans (congrArg some (by kernel_rfl))
  f46 := ⟨Tryz.f149.name, by decide, Tryz.func149.trans (congrArg some (by kernel_rfl))⟩
  f47 := Tryz.func113.trans (congrArg some (by kernel_rfl))
  f48 := Tryz.func114.trans (congrArg some (by kernel_rfl))
  f49 := ⟨Tryz.f150.name, by decide, Tryz.func150.trans (congrArg some (by kernel_rfl))⟩
  f50 := ⟨Tryz.f151.name, by decide, Tryz.func151.trans (congrArg some (by kernel_rfl))⟩
  f57 := ⟨Tryz.f157.name, by decide, Tryz.func157.trans (congrArg some (by kernel_rfl))⟩
  t0 := Tryz.underlying0
  a0 := Tryz.isAgg0
  z0 := Tryz.sizeOf0
  v0 := Tryz.zeroValue0
  t3 := Tryz.underlying3
  a3 := Tryz.isAgg3
  z3 := Tryz.sizeOf3
  v3 := Tryz.zeroValue3
  t4 := Tryz.underlying4
  a4 := Tryz.isAgg4
  z4 := Tryz.sizeOf4
  v4 := Tryz.zeroValue4
  t5 := Tryz.underlying5
  a5 := Tryz.isAgg5
  z5 := Tryz.sizeOf5
  v5 := Tryz.zeroValue5
  t9 := Tryz.underlying9
  a9 := Tryz.isAgg9
  z9 := Tryz.sizeOf9
  v9 := Tryz.zeroValue9
  t22 := Tryz.underlying28
  a22 := Tryz.isAgg28
  z22 := Tryz.sizeOf28
  v22 := Tryz.zeroValue28
  t25 := Tryz.underlying139
  a25 := Tryz.isAgg139
  z25 := Tryz.sizeOf139
  v25 := Tryz.zeroValue139
  t39 := Tryz.underlying118
  a39 := Tryz.isAgg118
  z39 := Tryz.sizeOf118
  v39 := Tryz.zeroValue118
  t45 := Tryz.underlying152
  a45 := Tryz.isAgg152
  z45 := Tryz.sizeOf152
  v45 := Tryz.zeroValue152
  t46 := Tryz.underlying153
  a46 := Tryz.isAgg153
  z46 := Tryz.sizeOf153
  v46 := Tryz.zeroValue153
  t50 := Tryz.underlying157
  a50 := Tryz.isAgg157
  z50 := Tryz.sizeOf157
  v50 := Tryz.zeroValue157
  t53 := Tryz.underlying160
  a53 := Tryz.isAgg160
  z53 := Tryz.sizeOf160
  v53 := Tryz.zeroValue160
  t55 := Tryz.underlying162
  a55 := Tryz.isAgg162
  z55 := Tryz.sizeOf162
  v55 := Tryz.zeroValue162
  t66 := Tryz.underlying192
  a66 := Tryz.isAgg192
  z66 := Tryz.sizeOf192
  v66 := Tryz.zeroValue192
  t70 := Tryz.underlying196
  a70 := Tryz.isAgg196
  z70 := Tryz.sizeOf196
  v70 := Tryz.zeroValue196
  t76 := Tryz.underlying221
  a76 := Tryz.isAgg221
  z76 := Tryz.sizeOf221
  v76 := Tryz.zeroValue221
  t77 := Tryz.underlying222
  a77 := Tryz.isAgg222
  z77 := Tryz.sizeOf222
  v77 := Tryz.zeroValue222 }
def cmpLay_ren : Go.Shelf.Ren := ⟨fun | 5 => 54 | 7 => 89 | n => n, fun | 22 => 3 | 3 => 3 | 4 => 4 | n => n, fun | n => n⟩
theorem cmpLay : Go.Proofs.SlLaysC2.n5 Tryz.prog cmpLay_ren := {
  mixed := by kernel_rfl
  f5 := ⟨Tryz.f54.name, by decide, Tryz.func54.trans (congrArg some (by kernel_rfl))⟩
  f7 := ⟨Tryz.f89.name, by decide, Tryz.func89.trans (congrArg some (by kernel_rfl))⟩
  t3 := Tryz.underlying3
  a3 := Tryz.isAgg3
  z3 := Tryz.sizeOf3
  v3 := Tryz.zeroValue3
  t4 := Tryz.underlying4
  a4 := Tryz.isAgg4
  z4 := Tryz.sizeOf4
  v4 := Tryz.zeroValue4
  t22 := Tryz.underlying3
  a22 := Tryz.isAgg3
  z22 := Tryz.sizeOf3
  v22 := Tryz.zeroValue3 }
end Go.Proofs.YtcmpaohefihijabGreatDoor

/- Rows are sorted by their slots: slices.SortFunc with the literal of Rows. -/
namespace Go.Proofs.YtcmpaohefihijabGreatDoor
set_option maxRecDepth 8000
open Go.RowKit Go.Shelf Go.Lib Go.Sort

instance : Inhabited Rw := ⟨rowZ⟩
def cfRow (x y : Rw) : Int := Lib.compareInt x.s y.s
set_option maxHeartbeats 1000000 in
theorem rowsLit_any (x y : Rw) (W : World) : Calls Tryz.prog 70 #[.agg #[.int .i64 x.s, .int .i64 x.g, .int .i64 x.m, .int .i64 (x.f 0), .int .i64 (x.f 1), .int .i64 (x.f 2), .int .i64 (x.f 3), .int .i64 (x.f 4), .int .i64 (x.f 5), .int .i64 (x.f 6), .int .i64 (x.f 7)], .agg #[.int .i64 y.s, .int .i64 y.g, .int .i64 y.m, .int .i64 (y.f 0), .int .i64 (y.f 1), .int .i64 (y.f 2), .int .i64 (y.f 3), .int .i64 (y.f 4), .int .i64 (y.f 5), .int .i64 (y.f 6), .int .i64 (y.f 7)]] W fun e w' => e = .returned (.int .i64 (cfRow x y)) ∧ ∃ q os', w' = grow (W.drewN q) os' := by
  have hcon := fun W' => AnyG.cmp_Compare_int cmpLay x.s y.s W'
  change ∀ W', Calls Tryz.prog 54 _ _ _ at hcon
  unfold cfRow
  generalize Lib.compareInt x.s y.s = r at hcon ⊢
  go_enter Tryz.func70, Tryz.ntmps70
  go_wp2_with (go_at_call 54; refine (hcon _).mono ?_; rintro e w' ⟨rfl, rfl⟩)
  go_ret
  exact ⟨rfl, 0, _, by rw [alloc_eq_grow, alloc_eq_grow, grow_grow]; rfl⟩
theorem cmpRows (blk off size : Nat) (w : World) : CmpLays Tryz.prog 70 #[] elRow.enc 11 cfRow blk off size w := fun _ _ _ _ x y => rowsLit_any x y _
theorem ltRow (x y : Rw) : ltOf cfRow x y = decide (x.s < y.s) := by
  unfold ltOf cfRow Lib.compareInt
  by_cases h1 : x.s < y.s
  · simp [h1]
  · by_cases h2 : y.s < x.s <;> simp [h1, h2]
theorem swoRow : SWO (ltOf cfRow) where
  irrefl x := by rw [ltRow]; simp
  trans x y z h1 h2 := by rw [ltRow] at *; simp at *; omega
  ntrans x y z h1 h2 := by rw [ltRow] at *; simp at *; omega

theorem getBang {α : Type} [Inhabited α] (xs : List α) (i : Nat) (d : α) (h : i < xs.length) : xs.toArray[i]! = xs.getD i d := by
  rw [getElem!_pos xs.toArray i (by simpa using h), List.getD_eq_getElem?_getD, List.getElem?_eq_getElem h]; rfl
/-- The cells of a row of elements, one by one. -/
theorem flat_at (xs : List Rw) (t : Nat) (h : t < xs.length * 11) : (flatK elRow.enc 11 xs.toArray)[t]! = (xs.flatMap elRow.enc)[t]! := by
  rw [get_flatK _ _ _ _ (by simpa using h)]
  have hq : t / 11 < xs.length := by omega
  have hm : t % 11 < 11 := Nat.mod_lt _ (by decide)
  have e := enc_at elRow xs (t / 11) (t % 11) hq hm
  rw [show elRow.size = 11 from rfl, show t / 11 * 11 + t % 11 = t by omega] at e
  rw [getBang xs (t / 11) elRow.zero hq]
  have l1 : t % 11 < (elRow.enc (xs.getD (t / 11) elRow.zero)).length := by rw [elRow.len]; exact hm
  have l2 : t < (xs.flatMap elRow.enc).length := by rw [length_enc]; exact h
  rw [List.getElem?_eq_getElem l1, List.getElem?_eq_getElem l2] at e
  rw [getElem!_pos (elRow.enc (xs.getD (t / 11) elRow.zero)) (t % 11) l1, getElem!_pos (xs.flatMap elRow.enc) t l2]
  exact (Option.some.inj e).symm

theorem OwnsF.holds {w : World} {B g n cap : Nat} {T : TypeId} {xs : List Rw} (h : OwnsF elRow w B T (.slice (some ⟨g, 0, none⟩) n cap) xs) : HoldsK elRow.enc 11 w g 0 xs.toArray := by
  intro j hj
  have en : n = xs.length := by
    rcases h.owns.form with ⟨h', _⟩ | ⟨g', cap', cur, h', _⟩
    · cases h'
    · simpa using (Value.slice.inj h').2.1
  subst en
  rw [size_flatK] at hj
  have hj' : j < xs.length * 11 := by simpa using hj
  have l2 : j < (xs.flatMap elRow.enc).length := by rw [length_enc]; exact hj'
  refine ⟨?_, ?_⟩
  · rw [flat_at xs j hj', Nat.zero_add, World.ownsRow.cellAt h.owns j hj', List.getElem?_eq_getElem l2, getElem!_pos (xs.flatMap elRow.enc) j l2]; rfl
  · rcases h.2 with ⟨e, _⟩ | ⟨g', cap', cur, e, hb, hh, _⟩
    · cases e
    · simp only [Value.slice.injEq, Option.some.injEq, Addr.mk.injEq] at e
      obtain ⟨⟨rfl, _⟩, _⟩ := e
      exact frozen_of_row _ _ _ _ _ hh

theorem mapBlock_heap (w : World) (blk : Nat) (f : Array Value → Array Value) {c : Array Value} {T : TypeId} {fr : Nat × Nat} (h : w.heap[blk]? = some (.cells c T fr)) : (mapBlock w blk f).heap[blk]? = some (.cells (f c) T fr) := by
  unfold mapBlock
  simp only [Array.getElem?_modify, h, if_true, Option.map_some]
  rfl
theorem mapBlock_far (w : World) (blk : Nat) (f : Array Value → Array Value) {b : Nat} (h : b ≠ blk) : (mapBlock w blk f).heap[b]? = w.heap[b]? := by
  unfold mapBlock
  simp only [Array.getElem?_modify]
  rw [if_neg (Ne.symm h)]
theorem mapBlock_size (w : World) (blk : Nat) (f : Array Value → Array Value) : (mapBlock w blk f).heap.size = w.heap.size := by
  unfold mapBlock; simp
theorem grow_heap (w : World) (os : Array Obj) {b : Nat} (h : b < w.heap.size) : (grow w os).heap[b]? = w.heap[b]? := by
  unfold grow; simp [Array.getElem?_append, h]
theorem sort_kept (w : World) (g n : Nat) (d : Array Rw) (os : Array Obj) : Kept (fun b => b = g) w (sortWorldK elRow.enc 11 w g 0 n d os) := by
  refine ⟨rfl, rfl, rfl, ?_, fun b hb hne => ?_⟩
  · unfold sortWorldK putRowK putRow
    simp only [grow, Array.size_append, mapBlock_size, Sort.ahead]
    omega
  · unfold sortWorldK putRowK putRow
    rw [grow_heap _ _ (by rw [mapBlock_size]; exact hb), mapBlock_far _ _ _ hne]
    rfl
/-- The row has been laid anew. -/
theorem OwnsF.sorted {w : World} {B g n cap m : Nat} {T : TypeId} {xs ys : List Rw} (h : OwnsF elRow w B T (.slice (some ⟨g, 0, none⟩) n cap) xs) (hl : ys.length = xs.length) (os : Array Obj) :
    OwnsF elRow (sortWorldK elRow.enc 11 w g 0 m ys.toArray os) B T (.slice (some ⟨g, 0, none⟩) n cap) ys := by
  refine ⟨by rw [length_enc], ?_⟩
  rcases h.2 with ⟨e, _⟩ | ⟨g', cap', cur, e, hb, hh, hn, hc, hs, ht⟩
  · cases e
  · simp only [Value.slice.injEq, Option.some.injEq, Addr.mk.injEq, and_true] at e
    obtain ⟨rfl, rfl, rfl⟩ := e
    have hg : g < w.heap.size := (Array.getElem?_eq_some_iff.1 hh).1
    refine .inr ⟨g, cap, putCells id 0 (flatK elRow.enc 11 ys.toArray) cur, by rw [hl], hb, ?_, by rw [hl]; exact hn, hc, by simp [putCells, hs], ?_⟩
    · unfold sortWorldK putRowK putRow
      rw [grow_heap _ _ (by rw [mapBlock_size]; exact hg)]
      exact mapBlock_heap _ _ _ hh
    · have hle : xs.length * 11 ≤ cur.size := by rw [hs]; exact Nat.mul_le_mul_right _ hn
      refine List.ext_getElem (by
        have e1 : (putCells id 0 (flatK elRow.enc 11 ys.toArray) cur).toList.length = cap * elRow.size := by simp [putCells, hs]
        rw [length_enc, List.length_take, e1, hl]
        have := Nat.mul_le_mul_right elRow.size hn
        omega) fun t h1 h2 => ?_
      have ht' : t < ys.length * 11 := by rw [length_enc] at h2; exact h2
      have htc : t < cur.size := by rw [hl] at ht'; omega
      simp only [List.getElem_take, putCells, Array.getElem_toList, Array.getElem_mapIdx, id, size_flatK]
      rw [if_pos ⟨Nat.zero_le _, by simpa using ht'⟩, Nat.sub_zero, flat_at ys t ht', getElem!_pos (ys.flatMap elRow.enc) t h2]

set_option maxHeartbeats 1000000 in
theorem sortRows_any (B : Nat) (v : Value) (xs : List Rw) (w : World) (h : OwnsF elRow w B 39 v xs) (hsm : xs.length ≤ 1000000) :
    Calls Tryz.prog 69 #[v, .func (.func 70) #[] #[]] w fun e w' => e = .returned (.tuple #[]) ∧ ∃ ys : List Rw, ys.Perm xs ∧ ys.Pairwise (fun x y => ¬ y.s < x.s) ∧ OwnsF elRow w' B 39 v ys ∧ Kept (fun b => v.ownBlock = some b) w w' := by
  rcases h.owns.form with ⟨rfl, rfl⟩ | ⟨g, cap, cur, rfl, hh, hg, hn, hcap, hsz⟩
  · have hcon := AnyF.slices_SortFunc_none sortRow none 0 (.func (.func 70) #[] #[]) w
    change Calls Tryz.prog 69 _ _ _ at hcon
    refine hcon.mono fun e w' ⟨he, hw⟩ => ⟨he, [], List.Perm.refl _, by simp, OwnsF.nil _ _ _ _, ?_⟩
    rw [hw]; exact Kept.refl _ _
  · have eg : ∀ args w, (callFunc 70 args).run Tryz.prog w = .ok (.enter 70 args) w := enters_of Tryz.func70 (by kernel_rfl) rfl
    have hcon := AnyQ.slices_SortFunc sortRow 11 Tryz.isAgg39 Tryz.sizeOf39 elRow.enc elRow.len elRow.one cfRow swoRow 70 #[] g 0 cap xs.toArray w eg (cmpRows g 0 _ w) h.holds hg (by simp; omega)
    change Calls Tryz.prog 69 _ _ _ at hcon
    rw [List.size_toArray] at hcon
    refine hcon.mono fun e w' ⟨he, d', m, os, hp, hs, hw⟩ => ⟨he, d'.toList, ?_, ?_, ?_, ?_⟩
    · obtain ⟨p1, _, p3⟩ := hp
      have e1 : d'.extract 0 xs.length = d' := by rw [← List.size_toArray, ← p1]; simp
      have e2 : xs.toArray.extract 0 xs.length = xs.toArray := by rw [← List.size_toArray]; simp
      rw [e1, e2] at p3
      simpa using p3
    · rw [List.pairwise_iff_getElem]
      intro i j hi hj hij
      have hj' : j < xs.length := by rw [← List.size_toArray, ← hp.1]; simpa using hj
      have := hs i j (Nat.zero_le _) hij hj'
      rw [ltRow, getElem!_pos d' j (by simpa using hj), getElem!_pos d' i (by simpa using hi)] at this
      simpa using this
    · rw [hw]
      exact h.sorted (ys := d'.toList) (by rw [Array.length_toList, hp.1, List.size_toArray]) os
    · rw [hw]
      exact (sort_kept w g m d' os).mono (fun b e => .inl (by rw [e]; rfl))
end Go.Proofs.YtcmpaohefihijabGreatDoor

/- The contracts of appendRows and Rows of package world. -/
namespace Go.Proofs.YtcmpaohefihijabGreatDoor
set_option maxRecDepth 8000
open Go.RowKit

set_option maxHeartbeats 2000000 in
theorem appendRows_any (B : Nat) (v : Value) (xs : List Rw) (q : Nat) (G : Nat → Prop) (k : Int) (rows : List Rw) (w : World) (hB : B ≤ w.heap.size) (ho : OwnsF elRow w B 39 v xs) (ht : TableAt w q G k rows) (hG : ∀ b, G b → b < B) (ok : TabOk k rows) (hl : xs.length + rows.length ≤ 1000000) :
    Calls Tryz.prog 68 #[v, .pointer (some ⟨q, 0, none⟩)] w fun e w' => ∃ v', e = .returned v' ∧ OwnsF elRow w' B 39 v' (xs ++ rows) ∧ Below B w w' := by
  obtain ⟨i0, hi0, hz0, hz1, hz2⟩ := info_parts infoRow
  have HT := Lib.hid ht
  have HO := Lib.hid ho
  have HG := Lib.hid hG
  have HOK := Lib.hid ok
  have HLL := Lib.hid hl
  obtain ⟨n, hn⟩ : ∃ n, rows.length = n := ⟨_, rfl⟩
  have HN := Lib.hid hn
  have hn6 : n ≤ 1000000 := by omega
  clear ht ho hG ok hl hn
  go_enter Tryz.func68, Tryz.ntmps68
  go_wp2_with fail
  refine (tabHandles_any q G k rows _ HT.out (by rw [HN.out]; omega)).mono ?_
  rintro e w1 ⟨vh, rfl, hoh, hb1⟩
  obtain ⟨ah, caph, rfl, -⟩ := hoh.reads
  rw [hsOf_len, HN.out]
  have HB1 := Lib.hid hb1
  have hs1 := hb1.size
  clear hoh hb1
  go_wp2
  go_loopw [0, 11] (fun u i wr => ∃ t : Nat, t ≤ n ∧ i = .int .i64 t ∧ Hid (OwnsF elRow wr B 39 u (xs ++ rows.take t)) ∧ Hid (Below B w wr)) (fun _ i _ => n - (intOf i).toNat)
  case atStart => exact ⟨0, by omega, rfl, by rw [List.take_zero, List.append_nil]; exact HO.out.later HB1.out, HB1.out.mono hB⟩
  case round =>
    obtain ⟨t, htn, rfl, hO, hBw⟩ := hrel
    by_cases hlt : t < n
    · obtain ⟨r, hr⟩ : ∃ r, rows.getD t rowZ = r := ⟨_, rfl⟩
      have htl : t < rows.length := by rw [HN.out]; exact hlt
      obtain ⟨r1, r2⟩ := rowR_in htl
      rw [hr] at r1
      have HTK : Hid (xs ++ rows.take (t + 1) = (xs ++ rows.take t) ++ [r]) := Lib.hid (by
        rw [List.take_add_one, List.getElem?_eq_getElem htl, List.append_assoc, ← hr, List.getD_eq_getElem?_getD, List.getElem?_eq_getElem htl]; rfl)
      have HLEN : Hid ((xs ++ rows.take t).length ≤ 1000000) := Lib.hid (by have := HLL.out; rw [List.length_append, List.length_take, HN.out]; rw [HN.out] at this; omega)
      have hTw : TableAt wr q G k rows := HT.out.kept (H := fun b => B ≤ b) ⟨hBw.out.os, hBw.out.tape, hBw.out.output, hBw.out.size, fun b hb hf => hBw.out.block b (by omega)⟩ (fun b hb e => by have := HG.out b hb; omega)
      obtain ⟨ys, hys⟩ : ∃ ys, xs ++ rows.take t = ys := ⟨_, rfl⟩
      rw [hys] at hO HTK HLEN
      clear hys
      have HTW := Lib.hid hTw
      have HR1 := Lib.hid r1
      have HR2 := Lib.hid r2
      have hwr : B ≤ wr.heap.size := Nat.le_trans hB hBw.out.size
      clear hr r1 r2 hTw
      go_wp2_with fail
      refine (tabRow_any q G k rows t r 0 _ HTW.out HOK.out HR1.out HR2.out).mono ?_
      rintro e w3 ⟨rfl, hb3⟩
      have HO3 := Lib.hid (hO.out.later hb3)
      have HB3 := Lib.hid (hBw.out.trans (hb3.mono hwr))
      have hw3 : B ≤ w3.heap.size := Nat.le_trans hwr hb3.size
      clear hb3
      go_wp2_with (first | (at_builtin; refine wpList_append_own _ rfl _ _ 28 rfl B 39 i0 _ 11 88 Tryz.underlying28 hi0 hz0 hz1 hz2 rfl (by decide) _ _ _ rfl (World.ownsRow.alloc (World.ownsRow.alloc HO3.out _) _) ⟨w3.heap.size + 1, 0, none⟩ 1 1 (elRow.enc r) rfl rfl (by exact World.news_of_block (heap_alloc2_new w3 _ _)) (elRow.one r) (by have := HLEN.out; unfold maxLen; omega) (by have := HLEN.out; omega) (by simp; omega) ?_))
      intro v' w4 hown hgr _
      have HO4 : Hid (OwnsF elRow w4 B 39 v' (ys ++ [r])) := Lib.hid (OwnsF.snoc (x := r) hown)
      have HB4 : Hid (Below B w w4) := Lib.hid (((HB3.out.alloc hw3 _).alloc (by simp; omega) _).grown hgr (by simp; omega) (fun jj hjj => HO3.out.ge hjj))
      clear hown hgr
      go_wp2
      go_roundw
      case rel => exact ⟨t + 1, by omega, by go_num, by rw [HTK.out]; exact HO4, HB4⟩
      case measure => simp [intOf]; omega
    · obtain rfl : t = n := by omega
      have HALL : Hid (xs ++ rows.take t = xs ++ rows) := Lib.hid (by rw [List.take_of_length_le (by rw [HN.out]; exact Nat.le_refl _)])
      go_wp2
      go_ret
      exact ⟨_, rfl, by rw [← HALL.out]; exact hO.out, hBw.out⟩
end Go.Proofs.YtcmpaohefihijabGreatDoor

/- The contract of Rows of package world. -/
namespace Go.Proofs.YtcmpaohefihijabGreatDoor
set_option maxRecDepth 8000
open Go.RowKit
variable {ZT : TypeId} {zr : List Value}

theorem run_range_nil (x : World) : (Instr.range 68 (.map none)).run Tryz.prog x = .ok (.pointer (some ⟨x.heap.size, 0, none⟩)) (x.alloc (.mapIter none 0 #[] 0)) := by
  simp only [Instr.range, Sem.run_bind, run_underlying Tryz.underlying68, Result.andThen]
  rfl
theorem run_next_nil {x : World} {r : Nat} (h : x.heap[r]? = some (.mapIter none 0 #[] 0)) (ty : TypeId) : (Instr.next (.pointer (some ⟨r, 0, none⟩)) false ty).run Tryz.prog x = .ok (.tuple #[.bool false]) x := by
  simp [Instr.next, getObj, Sem.run_bind, Sem.run, h, Result.andThen]

def RowsPost (w : World) (rows : List Rw) (a b c : Int) (e : Ending) (w' : World) : Prop :=
  ∃ v, e = .returned (.tuple #[v, .int .i64 (qErr a b c)]) ∧ OwnsF elRow w' w.heap.size 39 v (rowsQ rows a b c) ∧ Below w.heap.size w w'
theorem RowsPost.sorted {w w4 w5 : World} {B : Nat} {v : Value} {rows zs : List Rw} {a b c : Int} (hq : qErr a b c = 0) (hz : zs = rows.filter (fun r => matchB r.m a b c)) (ho : OwnsF elRow w5 B 39 v zs) (hB : w.heap.size ≤ B) (hb : Below w.heap.size w w4) (hk : Kept (fun b => v.ownBlock = some b) w4 w5) :
    RowsPost w rows a b c (.returned (.tuple #[v, .int .i64 0])) w5 := by
  refine ⟨v, by rw [hq], ?_, hb.trans (hk.below hb.size (fun k e => by have := ho.ge e; omega))⟩
  rw [rowsQ, if_pos hq, ← hz]
  exact ho.weaken hB

set_option maxHeartbeats 4000000 in
theorem worldRows_any (p : Nat) (F : Nat → Prop) (l : List (Int × Bool)) (rows : List Rw) (a b c : Int) (w : World) (h : WldIn ZT zr w p F l (· ∈ rows)) (ok : WOk l rows) :
    Calls Tryz.prog 41 #[.pointer (some ⟨p, 0, none⟩), .agg #[.int .i64 a, .int .i64 b, .int .i64 c]] w (RowsPost w rows a b c) := by
  have HOK := Lib.hid ok
  obtain ⟨cc, tm, pm, ks, tb, tr, hk, pl, h⟩ := h
  have HWI := Lib.hid h
  have hplw := h.plt
  have hX : Below w.heap.size w (w.alloc (.cells #[.int .i64 a, .int .i64 b, .int .i64 c] 63)) := nb_alloc (Below.refl _ _) _
  have hxb : (w.alloc (.cells #[.int .i64 a, .int .i64 b, .int .i64 c] 63)).heap[w.heap.size]? = some (.cells #[.int .i64 a, .int .i64 b, .int .i64 c] 63) := heap_alloc_new _ _
  have HX := Lib.hid hX
  have HXB := Lib.hid hxb
  have hxl := (Array.getElem?_eq_some_iff.1 hxb).1
  clear h hX hxb ok
  go_enter Tryz.func41, Tryz.ntmps41
  go_wp2_with fail
  generalize (w.alloc (.cells #[.int .i64 a, .int .i64 b, .int .i64 c] 63)) = X at *
  refine (checkQuery_any _ _ _ _).mono ?_
  rintro e w1 ⟨rfl, hw1⟩
  have hb1 : Below X.heap.size X w1 := by rw [← hw1]; exact nb_alloc (Below.refl _ _) _
  have HB1 : Hid (Below w.heap.size w w1) := Lib.hid (nb_trans HX.out hb1)
  have h1b : w1.heap[w.heap.size]? = some (.cells #[.int .i64 a, .int .i64 b, .int .i64 c] 63) := by rw [hb1.block _ hxl]; exact HXB.out
  have h1l := (Array.getElem?_eq_some_iff.1 h1b).1
  have H1B := Lib.hid h1b
  clear hw1 hb1 h1b
  by_cases hq : qErr a b c = 0
  · rw [hq]
    have HQ := Lib.hid hq
    have hpl1 : p < w1.heap.size := Nat.lt_of_lt_of_le hplw HB1.out.size
    have c1 := (HWI.out.later HB1.out).cell1
    clear hq
    rcases HWI.out.maps with ⟨rfl, rfl, rfl, rfl⟩ | ⟨mt, mp, rfl, rfl, -⟩
    · as_aux_lemma =>
      have hrn := run_range_nil
      have HSZ := Lib.hid (heap_alloc_new w1 (.mapIter none 0 #[] 0))
      have HP0 := Lib.hid (Pick.start [] tr a b c)
      go_wp2
      go_loopw [7] (fun v wr => v = .slice none 0 0 ∧ wr = w1.alloc (.mapIter none 0 #[] 0)) (fun _ _ => 0)
      case atStart => exact ⟨rfl, rfl⟩
      case round =>
        obtain ⟨rfl, rfl⟩ := hrel
        have hnx := run_next_nil HSZ.out
        go_wp2_with fail
        refine (sortRows_any w.heap.size _ [] _ (OwnsF.nil _ _ _ _) (by simp)).mono ?_
        rintro e w5 ⟨rfl, zs, hp, hs, ho, hk5⟩
        have HEND := Lib.hid (RowsPost.sorted HQ.out (HP0.out.done HWI.out.laid HOK.out hp hs) ho (Nat.le_refl _) (nb_alloc HB1.out _) hk5)
        clear hp hs ho hk5 hnx
        go_wp2
        go_ret2
        exact HEND.out
    · have HMT := Lib.hid (HWI.out.later HB1.out).mapT
      go_wp2_with (first | (at_range; refine wpList_range_is (K := kInt) _ rfl _ 68 rfl _ Tryz.underlying68 rfl HMT.out.1 ?_))
      intro w2 hrg hb2 hsz2
      have HRG := Lib.hid hrg
      have HB2 : Hid (Below w.heap.size w w2) := Lib.hid (nb_trans HB1.out hb2)
      have H2B : Hid (w2.heap[w.heap.size]? = some (.cells #[.int .i64 a, .int .i64 b, .int .i64 c] 63)) := Lib.hid (by rw [hb2.block _ h1l]; exact H1B.out)
      have HSZ := Lib.hid hsz2
      have HP0 := Lib.hid (Pick.start ks tr a b c)
      have HMTL : Hid (mt < w.heap.size) := Lib.hid (HWI.out.lt mt HMT.out.2.1)
      clear hrg hb2 hsz2 c1
      go_wp2
      go_loopw [7] (fun v wr => ∃ todo cnt ys, Hid (RangeIs kInt wr mt w1.heap.size ks.length ks (ptrOf tb) todo cnt) ∧ Hid (Pick ks tr a b c todo ys) ∧ Hid (OwnsF elRow wr (w1.heap.size + 1) 39 v ys) ∧ Hid (Below w.heap.size w wr) ∧ Hid (wr.heap[w.heap.size]? = some (.cells #[.int .i64 a, .int .i64 b, .int .i64 c] 63)) ∧ Hid (w1.heap.size + 1 ≤ wr.heap.size)) (fun _ wr => wr.rangeLeft mt w1.heap.size)
      case atStart => exact ⟨_, _, [], HRG, HP0, OwnsF.nil _ _ _ _, HB2, H2B, Lib.hid (by rw [HSZ.out]; exact Nat.le_refl _)⟩
      case round =>
        obtain ⟨todo, cnt, ys, hR, hP, hO, hBw, hqb, hsz⟩ := hrel
        have hyl : ys.length ≤ 60 := Nat.le_trans (hP.out.len HWI.out.laid) HOK.out.len60
        go_wp2_with (first | (at_next; refine wpList_next_is (K := kInt) _ rfl _ rfl rfl hR.out ?_ ?_))
        case refine_1 =>
          rintro rfl
          clear HRG HP0 HB2 H2B HSZ
          go_wp2_with fail
          refine (sortRows_any _ _ ys _ hO.out (by omega)).mono ?_
          rintro e w5 ⟨rfl, zs, hp, hs, ho, hk5⟩
          have HEND := Lib.hid (RowsPost.sorted HQ.out (hP.out.done HWI.out.laid HOK.out hp hs) ho (by have := HB1.out.size; omega) hBw.out hk5)
          clear hp hs ho hk5
          go_wp2
          go_ret2
          exact HEND.out
        case refine_2 =>
          intro k w4 cnt' hkt hkm hrg hlt hkp hsz4 hen
          have hB4 : Below w.heap.size w w4 := hBw.out.trans (hkp.below hBw.out.size (fun k e => by have := HB1.out.size; omega))
          have hq4 : w4.heap[w.heap.size]? = some (.cells #[.int .i64 a, .int .i64 b, .int .i64 c] 63) := by rw [hkp.block _ (Array.getElem?_eq_some_iff.1 hqb.out).1 (by omega)]; exact hqb.out
          have hO4 : OwnsF elRow w4 (w1.heap.size + 1) 39 _ ys := hO.out.kept hkp (fun j e => by have := hO.out.ge e; omega)
          have q0 : w4.cell? ⟨w.heap.size, 0, none⟩ = some (.int .i64 a) := by rw [cell_of_row _ _ _ _ _ _ hq4]; rfl
          have q1 : w4.cell? ⟨w.heap.size, 1, none⟩ = some (.int .i64 b) := by rw [cell_of_row _ _ _ _ _ _ hq4]; rfl
          have q2 : w4.cell? ⟨w.heap.size, 2, none⟩ = some (.int .i64 c) := by rw [cell_of_row _ _ _ _ _ _ hq4]; rfl
          have q4l := (Array.getElem?_eq_some_iff.1 hq4).1
          have HRG4 := Lib.hid hrg
          have HLT := Lib.hid hlt
          have HB4 := Lib.hid hB4
          have HQ4 := Lib.hid hq4
          have HO4 := Lib.hid hO4
          have HKT := Lib.hid hkt
          have HKM := Lib.hid hkm
          have hs4 := hsz.out
          rw [← hsz4] at hs4
          have HS4 := Lib.hid hs4
          replace hen : (Instr.entry (.pointer (some ⟨w1.heap.size, 0, none⟩))).run Tryz.prog w4 = .ok (.tuple #[.int .i64 k, .pointer (some ⟨tb k, 0, none⟩)]) w4 := hen
          simp only [ptrOf, show kInt.val k = .int .i64 k from rfl]
          clear hrg hlt hB4 hq4 hO4 hkt hkm hkp hsz4 hs4 HRG HP0 HB2 H2B HSZ
          go_wp2_with fail
          refine (matches_any k a b c _).mono ?_
          rintro e w5 ⟨rfl, hw5⟩
          have hb5 : Below w4.heap.size w4 w5 := by rw [← hw5]; exact nb_alloc (Below.refl _ _) _
          have hs5 := hb5.size
          have hs4' := HS4.out
          have HB5 : Hid (Below w.heap.size w w5) := Lib.hid (nb_trans HB4.out hb5)
          have HQ5 : Hid (w5.heap[w.heap.size]? = some (.cells #[.int .i64 a, .int .i64 b, .int .i64 c] 63)) := Lib.hid (by rw [hb5.block _ q4l]; exact HQ4.out)
          have HO5 := Lib.hid (HO4.out.later hb5)
          have HRG5 := Lib.hid (HRG4.out.later hb5)
          clear hw5 hb5 q0 q1 q2 hen
          cases hm : matchB k a b c
          · as_aux_lemma =>
            have HPN := Lib.hid (hP.out.skip (k := k) hm)
            go_wp2
            go_roundw
            case rel => exact ⟨_, _, ys, HRG5, HPN, HO5, HB5, HQ5, Lib.hid (by omega)⟩
            case measure => rw [HRG5.out.left_eq, hR.out.left_eq]; exact HLT.out
          · as_aux_lemma =>
            have HPN := Lib.hid (hP.out.next HWI.out.laid HKT.out HKM.out hm)
            have htl : (tr k).length ≤ 60 := Nat.le_trans (HWI.out.laid.trLen (fun _ h => h) HKM.out) HOK.out.len60
            go_wp2_with fail
            refine (appendRows_any (w1.heap.size + 1) _ ys (tb k) _ k (tr k) _ (by omega) HO5.out ((HWI.out.tabs k HKM.out).later HB5.out) (fun b hb => by have := HWI.out.lt b hb.1; have := HB1.out.size; omega) (HWI.out.laid.tab HKM.out) (by omega)).mono ?_
            rintro e w6 ⟨v6, rfl, ho6, hb6⟩
            have hs6 := hb6.size
            have HO6 := Lib.hid ho6
            have h1s := HB1.out.size
            have HB6 : Hid (Below w.heap.size w w6) := Lib.hid (HB5.out.trans (hb6.mono (by omega)))
            have HQ6 : Hid (w6.heap[w.heap.size]? = some (.cells #[.int .i64 a, .int .i64 b, .int .i64 c] 63)) := Lib.hid (by rw [hb6.block _ (by omega)]; exact HQ5.out)
            have HRG6 := Lib.hid (HRG5.out.kept (F := fun b => w1.heap.size + 1 ≤ b) ⟨hb6.os, hb6.tape, hb6.output, hb6.size, fun b hb hf => hb6.block b (by omega)⟩ (by have := HMTL.out; omega) (by omega))
            clear ho6 hb6
            go_wp2
            go_roundw
            case rel => exact ⟨_, _, ys ++ tr k, HRG6, HPN, HO6, HB6, HQ6, Lib.hid (by omega)⟩
            case measure => rw [HRG6.out.left_eq, hR.out.left_eq]; exact HLT.out
  · as_aux_lemma =>
    have hE : qErr a b c = 1 := by unfold qErr at hq ⊢; split at hq <;> simp_all
    rw [hE]
    have HEND : Hid (RowsPost w rows a b c (.returned (.tuple #[.slice none 0 0, .int .i64 1])) w1) := Lib.hid ⟨_, by rw [hE], by rw [rowsQ, if_neg hq]; exact OwnsF.nil _ _ _ _, HB1.out⟩
    clear hq hE
    go_wp2
    go_ret2
    exact HEND.out
end Go.Proofs.YtcmpaohefihijabGreatDoor

/- Arrays of eight ints, and rows, compared with themselves. -/
namespace Go.Proofs.YtcmpaohefihijabGreatDoor
open Go.RowKit

theorem eq8_at (d : Nat) (f : Nat → Int) (w : World) : (Op.equalIn (d + 2) 35 (.agg #[.int .i64 (f 0), .int .i64 (f 1), .int .i64 (f 2), .int .i64 (f 3), .int .i64 (f 4), .int .i64 (f 5), .int .i64 (f 6), .int .i64 (f 7)]) (.agg #[.int .i64 (f 0), .int .i64 (f 1), .int .i64 (f 2), .int .i64 (f 3), .int .i64 (f 4), .int .i64 (f 5), .int .i64 (f 6), .int .i64 (f 7)])).run Tryz.prog w = .ok true w := by
  obtain ⟨i, hi, _⟩ := info_parts infoInt
  have hc : Tryz.prog.cellsOf 3 = 1 := by kernel_rfl
  have he : ∀ x w, (Op.equalIn (d + 1) 3 (.int .i64 x) (.int .i64 x)).run Tryz.prog w = .ok true w := fun x w => by rw [run_equalIn_int w d 3 .i64 .i64 _ _ Tryz.underlying3]; simp
  rw [run_equalIn_array (P := Tryz.prog) w (d + 1) _ _ Tryz.underlying35 hi, hc]
  simp [List.range, List.range.loop, Op.eqItems, part, isAgg, run_underlying Tryz.underlying3, he]
/-- inside a row -/
theorem eq8_run (f : Nat → Int) (w : World) : (Op.equalIn 9998 35 (.agg #[.int .i64 (f 0), .int .i64 (f 1), .int .i64 (f 2), .int .i64 (f 3), .int .i64 (f 4), .int .i64 (f 5), .int .i64 (f 6), .int .i64 (f 7)]) (.agg #[.int .i64 (f 0), .int .i64 (f 1), .int .i64 (f 2), .int .i64 (f 3), .int .i64 (f 4), .int .i64 (f 5), .int .i64 (f 6), .int .i64 (f 7)])).run Tryz.prog w = .ok true w := eq8_at 9996 f w
/-- inside a beast -/
theorem eq8b_run (f : Nat → Int) (w : World) : (Op.equalIn 9999 35 (.agg #[.int .i64 (f 0), .int .i64 (f 1), .int .i64 (f 2), .int .i64 (f 3), .int .i64 (f 4), .int .i64 (f 5), .int .i64 (f 6), .int .i64 (f 7)]) (.agg #[.int .i64 (f 0), .int .i64 (f 1), .int .i64 (f 2), .int .i64 (f 3), .int .i64 (f 4), .int .i64 (f 5), .int .i64 (f 6), .int .i64 (f 7)])).run Tryz.prog w = .ok true w := eq8_at 9997 f w
end Go.Proofs.YtcmpaohefihijabGreatDoor

/- Lists of rows compared with themselves; a row looked for in rows of distinct slots. -/
namespace Go.Proofs.YtcmpaohefihijabGreatDoor
set_option maxRecDepth 8000
open Go.RowKit

set_option maxHeartbeats 4000000 in
theorem eqRow_same (u v : Value) (xs : List Rw) (w : World) (hx : Reads elRow w u xs) (hy : Reads elRow w v xs) :
    Calls Tryz.prog 22 #[u, v] w fun e w' => e = .returned (.bool true) ∧ Below w.heap.size w w' := by
  obtain ⟨hm, hx⟩ := hx.open
  obtain ⟨-, hy⟩ := hy.open
  unfold maxLen at hm
  generalize hn : xs.length = n at *
  clear hn
  rcases hx with ⟨a, cap, rfl, hz⟩ | ⟨b, off, cap, rfl, hb, hlc, hcm, hc⟩ <;> rcases hy with ⟨a', cap', rfl, hz'⟩ | ⟨b', off', cap', rfl, hb', hlc', hcm', hc'⟩
  all_goals
    have hne : ((n : Int) != (n : Int)) = false := by simp
    go_enter Tryz.func22, Tryz.ntmps22
    go_wp2
    go_loopw [14] (fun i wr => ∃ k : Nat, k ≤ n ∧ i = .int .i64 k ∧ Hid (Below w.heap.size w wr)) (fun i _ => n - (intOf i).toNat)
    case atStart => exact ⟨0, by omega, rfl, Below.refl _ _⟩
    case round =>
      obtain ⟨k, hk, rfl, hB⟩ := hrel
      by_cases hlt : k < n
      · first
          | omega
          | (have hcr : ∀ jj, jj < 11 → wr.cell? ⟨b, off + k * 11 + jj, none⟩ = (elRow.enc (xs.getD k rowZ))[jj]? := fun jj hjj => by rw [hB.out.cell (p := ⟨b, _, none⟩) hb]; exact hc k hlt jj hjj
             have hcr' : ∀ jj, jj < 11 → wr.cell? ⟨b', off' + k * 11 + jj, none⟩ = (elRow.enc (xs.getD k rowZ))[jj]? := fun jj hjj => by rw [hB.out.cell (p := ⟨b', _, none⟩) hb']; exact hc' k hlt jj hjj
             generalize xs.getD k rowZ = r at *
             obtain ⟨c0, c1, c2, c3, c4, c5, c6, c7, c8, c9, c10⟩ := lRow (O := off + k * 11) (r := r) hcr
             obtain ⟨d0, d1, d2, d3, d4, d5, d6, d7, d8, d9, d10⟩ := lRow (O := off' + k * 11) (r := r) hcr'
             have hbw : b < wr.heap.size := Nat.lt_of_lt_of_le hb hB.out.size
             have hbw' : b' < wr.heap.size := Nat.lt_of_lt_of_le hb' hB.out.size
             have heq8 := eq8_run r.f
             clear hc hc' hcr hcr'
             go_wp2
             go_quiet (fail)
             go_wp2
             go_roundw
             case rel => exact ⟨k + 1, by omega, by go_num, nb_drewN (nb_alloc hB.out _)⟩
             case measure => simp [intOf]; omega)
      · obtain rfl : k = n := by omega
        go_wp2
        go_ret
        exact ⟨rfl, hB.out⟩
end Go.Proofs.YtcmpaohefihijabGreatDoor

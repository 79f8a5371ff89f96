/- Rows are sorted by their slots: slices.SortFunc with the literal of Rows. -/
import Derived.Test.YtlclceiebnnpgaaGreatShelf
import Derived.Shelf.SlSortCmp.NoneTotal
import Derived.Test.YtlclceiebnnpgaaGreatGroundC
namespace Go.Proofs.YtlclceiebnnpgaaGreat
set_option maxRecDepth 8000
open Go.RowKit Go.Shelf Go.Lib Go.Sort

instance : Inhabited Rw := ⟨rowZ⟩
def cfRow (x y : Rw) : Int := Lib.compareInt x.s y.s
set_option maxHeartbeats 1000000 in
theorem rowsLit_any (x y : Rw) (W : World) : Calls Tryz.prog 30 #[.agg #[.int .i64 x.s, .int .i64 x.g, .int .i64 x.m, .int .i64 (x.f 0), .int .i64 (x.f 1), .int .i64 (x.f 2), .int .i64 (x.f 3), .int .i64 (x.f 4), .int .i64 (x.f 5), .int .i64 (x.f 6), .int .i64 (x.f 7)], .agg #[.int .i64 y.s, .int .i64 y.g, .int .i64 y.m, .int .i64 (y.f 0), .int .i64 (y.f 1), .int .i64 (y.f 2), .int .i64 (y.f 3), .int .i64 (y.f 4), .int .i64 (y.f 5), .int .i64 (y.f 6), .int .i64 (y.f 7)]] W fun e w' => e = .returned (.int .i64 (cfRow x y)) ∧ ∃ q os', w' = grow (W.drewN q) os' := by
  have hcon := fun W' => AnyG.cmp_Compare_int cmpLay x.s y.s W'
  change ∀ W', Calls Tryz.prog 31 _ _ _ at hcon
  unfold cfRow
  generalize Lib.compareInt x.s y.s = r at hcon ⊢
  go_enter Tryz.func30, Tryz.ntmps30
  go_wp2_with (go_at_call 31; refine (hcon _).mono ?_; rintro e w' ⟨rfl, rfl⟩)
  go_ret
  exact ⟨rfl, 0, _, by rw [alloc_eq_grow, alloc_eq_grow, grow_grow]; rfl⟩
theorem cmpRows (blk off size : Nat) (w : World) : CmpLays Tryz.prog 30 #[] elRow.enc 11 cfRow blk off size w := fun _ _ _ _ x y => rowsLit_any x y _
theorem ltRow (x y : Rw) : ltOf cfRow x y = decide (x.s < y.s) := by
  unfold ltOf cfRow Lib.compareInt
  by_cases h1 : x.s < y.s
  · simp [h1]
  · by_cases h2 : y.s < x.s <;> simp [h1, h2]
theorem swoRow : SWO (ltOf cfRow) where
  irrefl x := by rw [ltRow]; simp
  trans x y z h1 h2 := by rw [ltRow] at *; simp at *; omega
  ntrans x y z h1 h2 := by rw [ltRow] at *; simp at *; omega

theorem getBang {α : Type} [Inhabited α] (xs : List α) (i : Nat) (d : α) (h : i < xs.length) : xs.toArray[i]! = xs.getD i d := by
  rw [getElem!_pos xs.toArray i (by simpa using h), List.getD_eq_getElem?_getD, List.getElem?_eq_getElem h]; rfl
/-- The cells of a row of elements, one by one. -/
theorem flat_at (xs : List Rw) (t : Nat) (h : t < xs.length * 11) : (flatK elRow.enc 11 xs.toArray)[t]! = (xs.flatMap elRow.enc)[t]! := by
  rw [get_flatK _ _ _ _ (by simpa using h)]
  have hq : t / 11 < xs.length := by omega
  have hm : t % 11 < 11 := Nat.mod_lt _ (by decide)
  have e := enc_at elRow xs (t / 11) (t % 11) hq hm
  rw [show elRow.size = 11 from rfl, show t / 11 * 11 + t % 11 = t by omega] at e
  rw [getBang xs (t / 11) elRow.zero hq]
  have l1 : t % 11 < (elRow.enc (xs.getD (t / 11) elRow.zero)).length := by rw [elRow.len]; exact hm
  have l2 : t < (xs.flatMap elRow.enc).length := by rw [length_enc]; exact h
  rw [List.getElem?_eq_getElem l1, List.getElem?_eq_getElem l2] at e
  rw [getElem!_pos (elRow.enc (xs.getD (t / 11) elRow.zero)) (t % 11) l1, getElem!_pos (xs.flatMap elRow.enc) t l2]
  exact (Option.some.inj e).symm

theorem OwnsF.holds {w : World} {B g n cap : Nat} {T : TypeId} {xs : List Rw} (h : OwnsF elRow w B T (.slice (some ⟨g, 0, none⟩) n cap) xs) : HoldsK elRow.enc 11 w g 0 xs.toArray := by
  intro j hj
  have en : n = xs.length := by
    rcases h.owns.form with ⟨h', _⟩ | ⟨g', cap', cur, h', _⟩
    · cases h'
    · simpa using (Value.slice.inj h').2.1
  subst en
  rw [size_flatK] at hj
  have hj' : j < xs.length * 11 := by simpa using hj
  have l2 : j < (xs.flatMap elRow.enc).length := by rw [length_enc]; exact hj'
  refine ⟨?_, ?_⟩
  · rw [flat_at xs j hj', Nat.zero_add, World.ownsRow.cellAt h.owns j hj', List.getElem?_eq_getElem l2, getElem!_pos (xs.flatMap elRow.enc) j l2]; rfl
  · rcases h.2 with ⟨e, _⟩ | ⟨g', cap', cur, e, hb, hh, _⟩
    · cases e
    · simp only [Value.slice.injEq, Option.some.injEq, Addr.mk.injEq] at e
      obtain ⟨⟨rfl, _⟩, _⟩ := e
      exact frozen_of_row _ _ _ _ _ hh

theorem mapBlock_heap (w : World) (blk : Nat) (f : Array Value → Array Value) {c : Array Value} {T : TypeId} {fr : Nat × Nat} (h : w.heap[blk]? = some (.cells c T fr)) : (mapBlock w blk f).heap[blk]? = some (.cells (f c) T fr) := by
  unfold mapBlock
  simp only [Array.getElem?_modify, h, if_true, Option.map_some]
  rfl
theorem mapBlock_far (w : World) (blk : Nat) (f : Array Value → Array Value) {b : Nat} (h : b ≠ blk) : (mapBlock w blk f).heap[b]? = w.heap[b]? := by
  unfold mapBlock
  simp only [Array.getElem?_modify]
  rw [if_neg (Ne.symm h)]
theorem mapBlock_size (w : World) (blk : Nat) (f : Array Value → Array Value) : (mapBlock w blk f).heap.size = w.heap.size := by
  unfold mapBlock; simp
theorem grow_heap (w : World) (os : Array Obj) {b : Nat} (h : b < w.heap.size) : (grow w os).heap[b]? = w.heap[b]? := by
  unfold grow; simp [Array.getElem?_append, h]
theorem sort_kept (w : World) (g n : Nat) (d : Array Rw) (os : Array Obj) : Kept (fun b => b = g) w (sortWorldK elRow.enc 11 w g 0 n d os) := by
  refine ⟨rfl, rfl, rfl, ?_, fun b hb hne => ?_⟩
  · unfold sortWorldK putRowK putRow
    simp only [grow, Array.size_append, mapBlock_size, Sort.ahead]
    omega
  · unfold sortWorldK putRowK putRow
    rw [grow_heap _ _ (by rw [mapBlock_size]; exact hb), mapBlock_far _ _ _ hne]
    rfl
/-- The row has been laid anew. -/
theorem OwnsF.sorted {w : World} {B g n cap m : Nat} {T : TypeId} {xs ys : List Rw} (h : OwnsF elRow w B T (.slice (some ⟨g, 0, none⟩) n cap) xs) (hl : ys.length = xs.length) (os : Array Obj) :
    OwnsF elRow (sortWorldK elRow.enc 11 w g 0 m ys.toArray os) B T (.slice (some ⟨g, 0, none⟩) n cap) ys := by
  refine ⟨by rw [length_enc], ?_⟩
  rcases h.2 with ⟨e, _⟩ | ⟨g', cap', cur, e, hb, hh, hn, hc, hs, ht⟩
  · cases e
  · simp only [Value.slice.injEq, Option.some.injEq, Addr.mk.injEq, and_true] at e
    obtain ⟨rfl, rfl, rfl⟩ := e
    have hg : g < w.heap.size := (Array.getElem?_eq_some_iff.1 hh).1
    refine .inr ⟨g, cap, putCells id 0 (flatK elRow.enc 11 ys.toArray) cur, by rw [hl], hb, ?_, by rw [hl]; exact hn, hc, by simp [putCells, hs], ?_⟩
    · unfold sortWorldK putRowK putRow
      rw [grow_heap _ _ (by rw [mapBlock_size]; exact hg)]
      exact mapBlock_heap _ _ _ hh
    · have hle : xs.length * 11 ≤ cur.size := by rw [hs]; exact Nat.mul_le_mul_right _ hn
      refine List.ext_getElem (by
        have e1 : (putCells id 0 (flatK elRow.enc 11 ys.toArray) cur).toList.length = cap * elRow.size := by simp [putCells, hs]
        rw [length_enc, List.length_take, e1, hl]
        have := Nat.mul_le_mul_right elRow.size hn
        omega) fun t h1 h2 => ?_
      have ht' : t < ys.length * 11 := by rw [length_enc] at h2; exact h2
      have htc : t < cur.size := by rw [hl] at ht'; omega
      simp only [List.getElem_take, putCells, Array.getElem_toList, Array.getElem_mapIdx, id, size_flatK]
      rw [if_pos ⟨Nat.zero_le _, by simpa using ht'⟩, Nat.sub_zero, flat_at ys t ht', getElem!_pos (ys.flatMap elRow.enc) t h2]

set_option maxHeartbeats 1000000 in
theorem sortRows_any (B : Nat) (v : Value) (xs : List Rw) (w : World) (h : OwnsF elRow w B 45 v xs) (hsm : xs.length ≤ 1000000) :
    Calls Tryz.prog 29 #[v, .func (.func 30) #[] #[]] w fun e w' => e = .returned (.tuple #[]) ∧ ∃ ys : List Rw, ys.Perm xs ∧ ys.Pairwise (fun x y => ¬ y.s < x.s) ∧ OwnsF elRow w' B 45 v ys ∧ Kept (fun b => v.ownBlock = some b) w w' := by
  rcases h.owns.form with ⟨rfl, rfl⟩ | ⟨g, cap, cur, rfl, hh, hg, hn, hcap, hsz⟩
  · have hcon := AnyF.slices_SortFunc_none sortRow none 0 (.func (.func 30) #[] #[]) w
    change Calls Tryz.prog 29 _ _ _ at hcon
    refine hcon.mono fun e w' ⟨he, hw⟩ => ⟨he, [], List.Perm.refl _, by simp, OwnsF.nil _ _ _ _, ?_⟩
    rw [hw]; exact Kept.refl _ _
  · have eg : ∀ args w, (callFunc 30 args).run Tryz.prog w = .ok (.enter 30 args) w := enters_of Tryz.func30 (by kernel_rfl) rfl
    have hcon := AnyQ.slices_SortFunc sortRow 11 Tryz.isAgg45 Tryz.sizeOf45 elRow.enc elRow.len elRow.one cfRow swoRow 30 #[] g 0 cap xs.toArray w eg (cmpRows g 0 _ w) h.holds hg (by simp; omega)
    change Calls Tryz.prog 29 _ _ _ at hcon
    rw [List.size_toArray] at hcon
    refine hcon.mono fun e w' ⟨he, d', m, os, hp, hs, hw⟩ => ⟨he, d'.toList, ?_, ?_, ?_, ?_⟩
    · obtain ⟨p1, _, p3⟩ := hp
      have e1 : d'.extract 0 xs.length = d' := by rw [← List.size_toArray, ← p1]; simp
      have e2 : xs.toArray.extract 0 xs.length = xs.toArray := by rw [← List.size_toArray]; simp
      rw [e1, e2] at p3
      simpa using p3
    · rw [List.pairwise_iff_getElem]
      intro i j hi hj hij
      have hj' : j < xs.length := by rw [← List.size_toArray, ← hp.1]; simpa using hj
      have := hs i j (Nat.zero_le _) hij hj'
      rw [ltRow, getElem!_pos d' j (by simpa using hj), getElem!_pos d' i (by simpa using hi)] at this
      simpa using this
    · rw [hw]
      exact h.sorted (ys := d'.toList) (by rw [Array.length_toList, hp.1, List.size_toArray]) os
    · rw [hw]
      exact (sort_kept w g m d' os).mono (fun b e => .inl (by rw [e]; rfl))
end Go.Proofs.YtlclceiebnnpgaaGreat

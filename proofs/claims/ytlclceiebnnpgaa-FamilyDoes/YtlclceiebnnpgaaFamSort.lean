/- Bonds are sorted by their children: slices.SortFunc with the literal of selected. -/
import Derived.Test.YtlclceiebnnpgaaFamShelf
import Derived.Shelf.SlSortCmp.NoneTotal
import Derived.Test.YtlclceiebnnpgaaFamBond
import Derived.Deep.RegionHeld3
namespace Go.Proofs.Ytlclceiebnnpgaa
set_option maxRecDepth 8000
open Go.RowKit Go.Shelf Go.Lib Go.Sort

instance : Inhabited Bd := ⟨bdZ⟩
def cfHand (x y : Hd) : Int := if Lib.compareInt x.1 y.1 = 0 then Lib.compareInt x.2 y.2 else Lib.compareInt x.1 y.1
def cfBond (x y : Bd) : Int := cfHand x.1 y.1
set_option maxHeartbeats 2000000 in
theorem compare_any (x y : Hd) (W : World) : Calls Try.prog 44 #[.agg #[.int .i64 x.1, .int .i64 x.2], .agg #[.int .i64 y.1, .int .i64 y.2]] W fun e w' => e = .returned (.int .i64 (cfHand x y)) ∧ ∃ q os', w' = grow (W.drewN q) os' := by
  obtain ⟨a, b⟩ := x
  obtain ⟨c, d⟩ := y
  have hcon := fun m n W' => AnyG.cmp_Compare_int cmpLay m n W'
  change ∀ m n W', Calls Try.prog 50 _ _ _ at hcon
  have HCON := Lib.hid hcon
  obtain ⟨r, hr⟩ : ∃ r, Lib.compareInt a c = r := ⟨_, rfl⟩
  obtain ⟨s, hs⟩ : ∃ s, Lib.compareInt b d = s := ⟨_, rfl⟩
  obtain ⟨t, ht⟩ : ∃ t, (if r = 0 then s else r) = t := ⟨_, rfl⟩
  have HP : Hid (cfHand (a, b) (c, d) = t) := Lib.hid (by rw [cfHand, hr, hs]; exact ht)
  have HT := Lib.hid ht
  have HR := Lib.hid (fun W' => hcon a c W')
  have HS := Lib.hid (fun W' => hcon b d W')
  rw [hr] at HR
  rw [hs] at HS
  have HEQ : Hid (∀ os, ∃ q os', ((W.alloc (.cells #[.int .i64 a, .int .i64 b] 38)).alloc (.cells #[.int .i64 c, .int .i64 d] 38)).drew.alloc os = grow (W.drewN q) os') := Lib.hid (fun os => ⟨1, _, by
    rw [alloc_eq_grow, alloc_eq_grow, alloc_eq_grow]
    show grow (grow (grow (W.drewN 1) _) _) _ = _
    rw [grow_grow, grow_grow]⟩)
  have hB : ((W.alloc (.cells #[.int .i64 a, .int .i64 b] 38)).alloc (.cells #[.int .i64 c, .int .i64 d] 38)).heap[W.heap.size + 1]? = some (.cells #[.int .i64 c, .int .i64 d] 38) := heap_alloc2_new _ _ _
  have hA : ((W.alloc (.cells #[.int .i64 a, .int .i64 b] 38)).alloc (.cells #[.int .i64 c, .int .i64 d] 38)).heap[W.heap.size]? = some (.cells #[.int .i64 a, .int .i64 b] 38) := heap_alloc2_old _ _ _
  clear hcon hr hs ht HCON
  go_enter Try.func44, Try.ntmps44
  go_wp2_with fail
  generalize ((W.alloc (.cells #[.int .i64 a, .int .i64 b] 38)).alloc (.cells #[.int .i64 c, .int .i64 d] 38)) = X at *
  have k0 : X.cell? ⟨W.heap.size, 0, none⟩ = some (.int .i64 a) := by rw [cell_of_row _ _ _ _ _ _ hA]; rfl
  have k1 : X.cell? ⟨W.heap.size, 1, none⟩ = some (.int .i64 b) := by rw [cell_of_row _ _ _ _ _ _ hA]; rfl
  have l0 : X.cell? ⟨W.heap.size + 1, 0, none⟩ = some (.int .i64 c) := by rw [cell_of_row _ _ _ _ _ _ hB]; rfl
  have l1 : X.cell? ⟨W.heap.size + 1, 1, none⟩ = some (.int .i64 d) := by rw [cell_of_row _ _ _ _ _ _ hB]; rfl
  have hl1 := (Array.getElem?_eq_some_iff.1 hA).1
  have hl2 := (Array.getElem?_eq_some_iff.1 hB).1
  have HI2 : Hid (Ints (X.drew.alloc (.cells #[.int .i64 r, .int .i64 s] 3)) (.slice (some ⟨X.heap.size, 0, none⟩) 2 2) [r, s]) := Lib.hid (by
    refine ⟨_, 2, rfl, by simp, by simp [maxLen], fun k hk => ⟨_, _, rfl, by simp, ?_⟩⟩
    simp at hk
    rcases (show k = 0 ∨ k = 1 by omega) with rfl | rfl
    · exact cell_of_row _ _ _ _ _ _ (heap_alloc_new X.drew _)
    · exact cell_of_row _ _ _ _ _ _ (heap_alloc_new X.drew _))
  clear hA hB
  go_region_held3 (fun x => (x.cell? ⟨W.heap.size, 0, none⟩ = some (.int .i64 a) ∧ x.cell? ⟨W.heap.size, 1, none⟩ = some (.int .i64 b) ∧ x.cell? ⟨W.heap.size + 1, 0, none⟩ = some (.int .i64 c) ∧ x.cell? ⟨W.heap.size + 1, 1, none⟩ = some (.int .i64 d))) (first | go_keep) (first
    | ((go_at_call 50; refine (HR.out _).mono ?_; clear HR; rintro e x1 ⟨rfl, rfl⟩))
    | ((go_at_call 50; refine (HS.out _).mono ?_; clear HS; rintro e x1 ⟨rfl, rfl⟩))
    | ((go_at_call 49; refine (orInt_any _ r s t _ HT.out HI2.out).mono ?_; rintro e x1 ⟨rfl, rfl⟩)))
  go_wp2
  go_ret
  exact ⟨ret_int HP.out.symm, HEQ.out _⟩
set_option maxHeartbeats 1000000 in
theorem selLit_any (x y : Bd) (W : World) : Calls Try.prog 43 #[.agg #[.int .i64 x.1.1, .int .i64 x.1.2, .int .i64 x.2.1, .int .i64 x.2.2], .agg #[.int .i64 y.1.1, .int .i64 y.1.2, .int .i64 y.2.1, .int .i64 y.2.2]] W fun e w' => e = .returned (.int .i64 (cfBond x y)) ∧ ∃ q os', w' = grow (W.drewN q) os' := by
  have HGR : Hid (∀ o o' q os, ∃ q' os', grow (((W.alloc o).alloc o').drewN q) os = grow (W.drewN q') os') := Lib.hid (fun o o' q os => ⟨q, _, by rw [alloc_eq_grow, alloc_eq_grow, grow_grow]; exact (grow_grow (W.drewN q) _ os)⟩)
  go_enter Try.func43, Try.ntmps43
  go_wp2_with (go_at_call 44; refine (compare_any x.1 y.1 _).mono ?_; rintro e w' ⟨rfl, q, os, rfl⟩)
  go_ret
  exact ⟨rfl, HGR.out _ _ _ _⟩
theorem cmpBonds (blk off size : Nat) (w : World) : CmpLays Try.prog 43 #[] elBond.enc 4 cfBond blk off size w := fun _ _ _ _ x y => selLit_any x y _
theorem cmp_lt (a b : Int) : (Lib.compareInt a b = 0 ↔ a = b) ∧ (Lib.compareInt a b < 0 ↔ a < b) := by
  unfold Lib.compareInt
  by_cases h1 : a < b
  · simp [h1]; omega
  · by_cases h2 : b < a
    · simp [h1, h2]; omega
    · simp [h1, h2]; omega
theorem ltBond (x y : Bd) : ltOf cfBond x y = decide (hlt x.1 y.1) := by
  have key : cfBond x y < 0 ↔ hlt x.1 y.1 := by
    unfold cfBond cfHand hlt
    obtain ⟨e1, l1⟩ := cmp_lt x.1.1 y.1.1
    obtain ⟨_, l2⟩ := cmp_lt x.1.2 y.1.2
    by_cases h : x.1.1 = y.1.1
    · rw [if_pos (e1.2 h), l2]; omega
    · rw [if_neg (fun q => h (e1.1 q)), l1]; omega
  exact decide_eq_decide.2 key
theorem swoBond : SWO (ltOf cfBond) where
  irrefl x := by rw [ltBond]; exact decide_eq_false (hlt_irrefl _)
  trans x y z h1 h2 := by rw [ltBond] at *; exact decide_eq_true (hlt_trans (of_decide_eq_true h1) (of_decide_eq_true h2))
  ntrans x y z h1 h2 := by
    rw [ltBond] at *
    have h1 := of_decide_eq_false h1
    have h2 := of_decide_eq_false h2
    refine decide_eq_false (fun h => ?_)
    unfold hlt at *
    omega

theorem getBang {α : Type} [Inhabited α] (xs : List α) (i : Nat) (d : α) (h : i < xs.length) : xs.toArray[i]! = xs.getD i d := by
  rw [getElem!_pos xs.toArray i (by simpa using h), List.getD_eq_getElem?_getD, List.getElem?_eq_getElem h]; rfl
/-- The cells of a row of elements, one by one. -/
theorem flat_at (xs : List Bd) (t : Nat) (h : t < xs.length * 4) : (flatK elBond.enc 4 xs.toArray)[t]! = (xs.flatMap elBond.enc)[t]! := by
  rw [get_flatK _ _ _ _ (by simpa using h)]
  have hq : t / 4 < xs.length := by omega
  have hm : t % 4 < 4 := Nat.mod_lt _ (by decide)
  have e := enc_at elBond xs (t / 4) (t % 4) hq hm
  rw [show elBond.size = 4 from rfl, show t / 4 * 4 + t % 4 = t by omega] at e
  rw [getBang xs (t / 4) elBond.zero hq]
  have l1 : t % 4 < (elBond.enc (xs.getD (t / 4) elBond.zero)).length := by rw [elBond.len]; exact hm
  have l2 : t < (xs.flatMap elBond.enc).length := by rw [length_enc]; exact h
  rw [List.getElem?_eq_getElem l1, List.getElem?_eq_getElem l2] at e
  rw [getElem!_pos (elBond.enc (xs.getD (t / 4) elBond.zero)) (t % 4) l1, getElem!_pos (xs.flatMap elBond.enc) t l2]
  exact (Option.some.inj e).symm

theorem OwnsF.holds {w : World} {B g n cap : Nat} {T : TypeId} {xs : List Bd} (h : OwnsF elBond w B T (.slice (some ⟨g, 0, none⟩) n cap) xs) : HoldsK elBond.enc 4 w g 0 xs.toArray := by
  intro j hj
  have en : n = xs.length := by
    rcases h.owns.form with ⟨h', _⟩ | ⟨g', cap', cur, h', _⟩
    · cases h'
    · simpa using (Value.slice.inj h').2.1
  subst en
  rw [size_flatK] at hj
  have hj' : j < xs.length * 4 := by simpa using hj
  have l2 : j < (xs.flatMap elBond.enc).length := by rw [length_enc]; exact hj'
  refine ⟨?_, ?_⟩
  · rw [flat_at xs j hj', Nat.zero_add, World.ownsRow.cellAt h.owns j hj', List.getElem?_eq_getElem l2, getElem!_pos (xs.flatMap elBond.enc) j l2]; rfl
  · rcases h.2 with ⟨e, _⟩ | ⟨g', cap', cur, e, hb, hh, _⟩
    · cases e
    · simp only [Value.slice.injEq, Option.some.injEq, Addr.mk.injEq] at e
      obtain ⟨⟨rfl, _⟩, _⟩ := e
      exact frozen_of_row _ _ _ _ _ hh

theorem mapBlock_heap (w : World) (blk : Nat) (f : Array Value → Array Value) {c : Array Value} {T : TypeId} {fr : Nat × Nat} (h : w.heap[blk]? = some (.cells c T fr)) : (mapBlock w blk f).heap[blk]? = some (.cells (f c) T fr) := by
  unfold mapBlock
  simp only [Array.getElem?_modify, h, if_true, Option.map_some]
  rfl
theorem mapBlock_far (w : World) (blk : Nat) (f : Array Value → Array Value) {b : Nat} (h : b ≠ blk) : (mapBlock w blk f).heap[b]? = w.heap[b]? := by
  unfold mapBlock
  simp only [Array.getElem?_modify]
  rw [if_neg (Ne.symm h)]
theorem mapBlock_size (w : World) (blk : Nat) (f : Array Value → Array Value) : (mapBlock w blk f).heap.size = w.heap.size := by
  unfold mapBlock; simp
theorem grow_heap (w : World) (os : Array Obj) {b : Nat} (h : b < w.heap.size) : (grow w os).heap[b]? = w.heap[b]? := by
  unfold grow; simp [Array.getElem?_append, h]
theorem sort_kept (w : World) (g n : Nat) (d : Array Bd) (os : Array Obj) : Kept (fun b => b = g) w (sortWorldK elBond.enc 4 w g 0 n d os) := by
  refine ⟨rfl, rfl, rfl, ?_, fun b hb hne => ?_⟩
  · unfold sortWorldK putRowK putRow
    simp only [grow, Array.size_append, mapBlock_size, Sort.ahead]
    omega
  · unfold sortWorldK putRowK putRow
    rw [grow_heap _ _ (by rw [mapBlock_size]; exact hb), mapBlock_far _ _ _ hne]
    rfl
/-- The row has been laid anew. -/
theorem OwnsF.sorted {w : World} {B g n cap m : Nat} {T : TypeId} {xs ys : List Bd} (h : OwnsF elBond w B T (.slice (some ⟨g, 0, none⟩) n cap) xs) (hl : ys.length = xs.length) (os : Array Obj) :
    OwnsF elBond (sortWorldK elBond.enc 4 w g 0 m ys.toArray os) B T (.slice (some ⟨g, 0, none⟩) n cap) ys := by
  refine ⟨by rw [length_enc], ?_⟩
  rcases h.2 with ⟨e, _⟩ | ⟨g', cap', cur, e, hb, hh, hn, hc, hs, ht⟩
  · cases e
  · simp only [Value.slice.injEq, Option.some.injEq, Addr.mk.injEq, and_true] at e
    obtain ⟨rfl, rfl, rfl⟩ := e
    have hg : g < w.heap.size := (Array.getElem?_eq_some_iff.1 hh).1
    refine .inr ⟨g, cap, putCells id 0 (flatK elBond.enc 4 ys.toArray) cur, by rw [hl], hb, ?_, by rw [hl]; exact hn, hc, by simp [putCells, hs], ?_⟩
    · unfold sortWorldK putRowK putRow
      rw [grow_heap _ _ (by rw [mapBlock_size]; exact hg)]
      exact mapBlock_heap _ _ _ hh
    · have hle : xs.length * 4 ≤ cur.size := by rw [hs]; exact Nat.mul_le_mul_right _ hn
      refine List.ext_getElem (by
        have e1 : (putCells id 0 (flatK elBond.enc 4 ys.toArray) cur).toList.length = cap * elBond.size := by simp [putCells, hs]
        rw [length_enc, List.length_take, e1, hl]
        have := Nat.mul_le_mul_right elBond.size hn
        omega) fun t h1 h2 => ?_
      have ht' : t < ys.length * 4 := by rw [length_enc] at h2; exact h2
      have htc : t < cur.size := by rw [hl] at ht'; omega
      simp only [List.getElem_take, putCells, Array.getElem_toList, Array.getElem_mapIdx, id, size_flatK]
      rw [if_pos ⟨Nat.zero_le _, by simpa using ht'⟩, Nat.sub_zero, flat_at ys t ht', getElem!_pos (ys.flatMap elBond.enc) t h2]

set_option maxHeartbeats 1000000 in
theorem sortBonds_any (B : Nat) (v : Value) (xs : List Bd) (w : World) (h : OwnsF elBond w B 44 v xs) (hsm : xs.length ≤ 4000000000000000000) :
    Calls Try.prog 42 #[v, .func (.func 43) #[] #[]] w fun e w' => e = .returned (.tuple #[]) ∧ ∃ ys : List Bd, ys.Perm xs ∧ ys.Pairwise (fun x y => ¬ hlt y.1 x.1) ∧ OwnsF elBond w' B 44 v ys ∧ Kept (fun b => v.ownBlock = some b) w w' := by
  rcases h.owns.form with ⟨rfl, rfl⟩ | ⟨g, cap, cur, rfl, hh, hg, hn, hcap, hsz⟩
  · have hcon := AnyF.slices_SortFunc_none sortBond none 0 (.func (.func 43) #[] #[]) w
    change Calls Try.prog 42 _ _ _ at hcon
    refine hcon.mono fun e w' ⟨he, hw⟩ => ⟨he, [], List.Perm.refl _, by simp, OwnsF.nil _ _ _ _, ?_⟩
    rw [hw]; exact Kept.refl _ _
  · have eg : ∀ args w, (callFunc 43 args).run Try.prog w = .ok (.enter 43 args) w := enters_of Try.func43 (by kernel_rfl) rfl
    have hcon := AnyQ.slices_SortFunc sortBond 4 Try.isAgg44 Try.sizeOf44 elBond.enc elBond.len elBond.one cfBond swoBond 43 #[] g 0 cap xs.toArray w eg (cmpBonds g 0 _ w) h.holds hg (by simp; omega)
    change Calls Try.prog 42 _ _ _ at hcon
    rw [List.size_toArray] at hcon
    refine hcon.mono fun e w' ⟨he, d', m, os, hp, hs, hw⟩ => ⟨he, d'.toList, ?_, ?_, ?_, ?_⟩
    · obtain ⟨p1, _, p3⟩ := hp
      have e1 : d'.extract 0 xs.length = d' := by rw [← List.size_toArray, ← p1]; simp
      have e2 : xs.toArray.extract 0 xs.length = xs.toArray := by rw [← List.size_toArray]; simp
      rw [e1, e2] at p3
      simpa using p3
    · rw [List.pairwise_iff_getElem]
      intro i j hi hj hij
      have hj' : j < xs.length := by rw [← List.size_toArray, ← hp.1]; simpa using hj
      have := hs i j (Nat.zero_le _) hij hj'
      rw [ltBond, getElem!_pos d' j (by simpa using hj), getElem!_pos d' i (by simpa using hi)] at this
      simpa using this
    · rw [hw]
      exact h.sorted (ys := d'.toList) (by rw [Array.length_toList, hp.1, List.size_toArray]) os
    · rw [hw]
      exact (sort_kept w g m d' os).mono (fun b e => .inl (by rw [e]; rfl))
end Go.Proofs.Ytlclceiebnnpgaa

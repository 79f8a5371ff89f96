/- Rows and changes are sorted by their handles: slices.SortFunc with the literals of package diff. -/
import Derived.Test.YtnmlapoiilckhaaDoorDiffShelf
import Derived.Test.YtnmlapoiilckhaaDoorDiffEls
import Derived.Test.YtnmlapoiilckhaaDoorGroundA
import Derived.Shelf.SlSortCmp.NoneTotal
import Derived.Deep.RegionHeld3
namespace Go.Proofs.YtnmlapoiilckhaaDoor
set_option maxRecDepth 8000
open Go.RowKit Go.Shelf Go.Lib Go.Sort

theorem orI_any (v : Value) (a b r : Int) (w : World) (hr : (if a = 0 then b else a) = r) (h : Ints w v [a, b]) :
    Calls Tryd.prog 39 #[v] w fun e w' => e = .returned (.int .i64 r) ∧ w = w' := by
  obtain ⟨ad, cap, rfl, hl, hm, hc⟩ := h
  obtain ⟨bl, off, rfl, hb, c0⟩ := hc 0 (by simp)
  obtain ⟨bl', off', e, _, c1⟩ := hc 1 (by simp)
  simp only [Option.some.injEq, Addr.mk.injEq, and_true] at e
  obtain ⟨rfl, rfl⟩ := e
  have hcc : ∀ k : Nat, k < 2 → w.cell? ⟨bl, off + k, none⟩ = some (.int .i64 (if k = 0 then a else b)) := fun k hk => by
    rcases (show k = 0 ∨ k = 1 by omega) with rfl | rfl
    · simpa using c0
    · simpa using c1
  have HCC := Lib.hid hcc
  have HRR := Lib.hid hr
  clear hr c0 c1 hc hcc hl hm
  go_enter Tryd.func39, Tryd.ntmps39
  go_wp2
  go_loopw [8] (fun i wr => ∃ k : Nat, k ≤ 2 ∧ i = .int .i64 k ∧ Hid (k ≠ 0 → a = 0) ∧ Hid (k = 2 → b = 0) ∧ wr = w) (fun i _ => 2 - (intOf i).toNat)
  case atStart => exact ⟨0, by omega, rfl, Lib.hid (fun h => absurd rfl h), Lib.hid (fun h => by omega), rfl⟩
  case round =>
    obtain ⟨k, hk, rfl, h0, h2, rfl⟩ := hrel
    by_cases hlt : k < 2
    · have hlt' : (k : Int) < 2 := by omega
      have ck := HCC.out k hlt
      obtain ⟨x, hx⟩ : ∃ x, (if k = 0 then a else b) = x := ⟨_, rfl⟩
      rw [hx] at ck
      have HX := Lib.hid hx
      clear hx
      cases hn : (x != 0)
      · have HN := Lib.hid hn
        go_wp2
        go_roundw
        case rel =>
          have hx0 : x = 0 := by simpa using HN.out
          refine ⟨k + 1, by omega, by go_num, Lib.hid (fun _ => ?_), Lib.hid (fun e => ?_), by simp⟩
          · by_cases e : k = 0
            · have := HX.out; rw [if_pos e] at this; omega
            · exact h0.out e
          · have := HX.out; rw [if_neg (by omega)] at this; omega
        case measure => simp [intOf]; omega
      · have HN := Lib.hid hn
        go_wp2
        go_ret
        refine ⟨ret_int ?_, rfl⟩
        have hx0 : x ≠ 0 := by simpa using HN.out
        by_cases e : k = 0
        · have := HX.out; rw [if_pos e] at this; rw [← HRR.out, if_neg (by omega), this]
        · have := HX.out; rw [if_neg e] at this; rw [← HRR.out, if_pos (h0.out e), this]
    · obtain rfl : k = 2 := by omega
      go_wp2
      go_ret
      exact ⟨ret_int (by rw [← HRR.out, if_pos (h0.out (by decide)), h2.out (by simp)]), rfl⟩
def cfH (x y : Hd) : Int := if Lib.compareInt x.1 y.1 = 0 then Lib.compareInt x.2 y.2 else Lib.compareInt x.1 y.1
set_option maxHeartbeats 2000000 in
theorem dcompare_any (x y : Hd) (W : World) : Calls Tryd.prog 24 #[.agg #[.int .i64 x.1, .int .i64 x.2], .agg #[.int .i64 y.1, .int .i64 y.2]] W fun e w' => e = .returned (.int .i64 (cfH x y)) ∧ ∃ q os', w' = grow (W.drewN q) os' := by
  obtain ⟨a, b⟩ := x
  obtain ⟨c, d⟩ := y
  have hcon := fun m n W' => AnyG.cmp_Compare_int cmpLay m n W'
  change ∀ m n W', Calls Tryd.prog 40 _ _ _ at hcon
  have HCON := Lib.hid hcon
  obtain ⟨r, hr⟩ : ∃ r, Lib.compareInt a c = r := ⟨_, rfl⟩
  obtain ⟨s, hs⟩ : ∃ s, Lib.compareInt b d = s := ⟨_, rfl⟩
  obtain ⟨t, ht⟩ : ∃ t, (if r = 0 then s else r) = t := ⟨_, rfl⟩
  have HP : Hid (cfH (a, b) (c, d) = t) := Lib.hid (by rw [cfH, hr, hs]; exact ht)
  have HT := Lib.hid ht
  have HR := Lib.hid (fun W' => hcon a c W')
  have HS := Lib.hid (fun W' => hcon b d W')
  rw [hr] at HR
  rw [hs] at HS
  have HEQ : Hid (∀ os, ∃ q os', ((W.alloc (.cells #[.int .i64 a, .int .i64 b] 28)).alloc (.cells #[.int .i64 c, .int .i64 d] 28)).drew.alloc os = grow (W.drewN q) os') := Lib.hid (fun os => ⟨1, _, by
    rw [alloc_eq_grow, alloc_eq_grow, alloc_eq_grow]
    show grow (grow (grow (W.drewN 1) _) _) _ = _
    rw [grow_grow, grow_grow]⟩)
  have hB : ((W.alloc (.cells #[.int .i64 a, .int .i64 b] 28)).alloc (.cells #[.int .i64 c, .int .i64 d] 28)).heap[W.heap.size + 1]? = some (.cells #[.int .i64 c, .int .i64 d] 28) := heap_alloc2_new _ _ _
  have hA : ((W.alloc (.cells #[.int .i64 a, .int .i64 b] 28)).alloc (.cells #[.int .i64 c, .int .i64 d] 28)).heap[W.heap.size]? = some (.cells #[.int .i64 a, .int .i64 b] 28) := heap_alloc2_old _ _ _
  clear hcon hr hs ht HCON
  go_enter Tryd.func24, Tryd.ntmps24
  go_wp2_with fail
  generalize ((W.alloc (.cells #[.int .i64 a, .int .i64 b] 28)).alloc (.cells #[.int .i64 c, .int .i64 d] 28)) = X at *
  obtain ⟨k0, k1⟩ := hCells (a := a) (b := b) hA
  obtain ⟨l0, l1⟩ := hCells (a := c) (b := d) hB
  have hl1 := (Array.getElem?_eq_some_iff.1 hA).1
  have hl2 := (Array.getElem?_eq_some_iff.1 hB).1
  have HI2 : Hid (Ints (X.drew.alloc (.cells #[.int .i64 r, .int .i64 s] 3)) (.slice (some ⟨X.heap.size, 0, none⟩) 2 2) [r, s]) := Lib.hid (by
    refine ⟨_, 2, rfl, by simp, by simp [maxLen], fun k hk => ⟨_, _, rfl, by simp, ?_⟩⟩
    simp at hk
    rcases (show k = 0 ∨ k = 1 by omega) with rfl | rfl
    · exact cell_of_row _ _ _ _ _ _ (heap_alloc_new X.drew _)
    · exact cell_of_row _ _ _ _ _ _ (heap_alloc_new X.drew _))
  clear hA hB
  go_region_held3 (fun x => (x.cell? ⟨W.heap.size, 0, none⟩ = some (.int .i64 a) ∧ x.cell? ⟨W.heap.size, 1, none⟩ = some (.int .i64 b) ∧ x.cell? ⟨W.heap.size + 1, 0, none⟩ = some (.int .i64 c) ∧ x.cell? ⟨W.heap.size + 1, 1, none⟩ = some (.int .i64 d))) (first | go_keep) (first
    | ((go_at_call 40; refine (HR.out _).mono ?_; clear HR; rintro e x1 ⟨rfl, rfl⟩))
    | ((go_at_call 40; refine (HS.out _).mono ?_; clear HS; rintro e x1 ⟨rfl, rfl⟩))
    | ((go_at_call 39; refine (orI_any _ r s t _ HT.out HI2.out).mono ?_; rintro e x1 ⟨rfl, rfl⟩)))
  go_wp2
  go_ret
  exact ⟨ret_int HP.out.symm, HEQ.out _⟩
theorem cmpI_lt (a b : Int) : (Lib.compareInt a b = 0 ↔ a = b) ∧ (Lib.compareInt a b < 0 ↔ a < b) := by
  unfold Lib.compareInt
  by_cases h1 : a < b
  · simp [h1]; omega
  · by_cases h2 : b < a
    · simp [h1, h2]; omega
    · simp [h1, h2]; omega
section
variable {β : Type}
def cfK (x y : Hd × β) : Int := cfH x.1 y.1
theorem ltK (x y : Hd × β) : ltOf cfK x y = decide (hlt x.1 y.1) := by
  have key : cfK x y < 0 ↔ hlt x.1 y.1 := by
    unfold cfK cfH hlt
    obtain ⟨e1, l1⟩ := cmpI_lt x.1.1 y.1.1
    obtain ⟨_, l2⟩ := cmpI_lt x.1.2 y.1.2
    by_cases h : x.1.1 = y.1.1
    · rw [if_pos (e1.2 h), l2]; omega
    · rw [if_neg (fun q => h (e1.1 q)), l1]; omega
  exact decide_eq_decide.2 key
theorem swoK : SWO (ltOf (cfK (β := β))) where
  irrefl x := by rw [ltK]; exact decide_eq_false (hlt_irrefl _)
  trans x y z h1 h2 := by rw [ltK] at *; exact decide_eq_true (hlt_trans (of_decide_eq_true h1) (of_decide_eq_true h2))
  ntrans x y z h1 h2 := by
    rw [ltK] at *
    have h1 := of_decide_eq_false h1
    have h2 := of_decide_eq_false h2
    refine decide_eq_false (fun h => ?_)
    unfold hlt at *
    omega
end
section
variable {α : Type} [Inhabited α] {E : El α}
theorem getBangE (xs : List α) (i : Nat) (d : α) (h : i < xs.length) : xs.toArray[i]! = xs.getD i d := by
  rw [getElem!_pos xs.toArray i (by simpa using h), List.getD_eq_getElem?_getD, List.getElem?_eq_getElem h]; rfl
/-- The cells of a row of elements, one by one. -/
theorem flatE_at (xs : List α) (t : Nat) (h : t < xs.length * E.size) : (flatK E.enc E.size xs.toArray)[t]! = (xs.flatMap E.enc)[t]! := by
  rw [get_flatK _ _ _ _ (by simpa using h)]
  have hq : t / E.size < xs.length := Nat.div_lt_of_lt_mul (by rw [Nat.mul_comm]; exact h)
  have hm : t % E.size < E.size := Nat.mod_lt _ E.pos
  have e := enc_at E xs (t / E.size) (t % E.size) hq hm
  rw [Nat.div_add_mod' t E.size] at e
  rw [getBangE xs (t / E.size) E.zero hq]
  have l1 : t % E.size < (E.enc (xs.getD (t / E.size) E.zero)).length := by rw [E.len]; exact hm
  have l2 : t < (xs.flatMap E.enc).length := by rw [length_enc]; exact h
  rw [List.getElem?_eq_getElem l1, List.getElem?_eq_getElem l2] at e
  rw [getElem!_pos (E.enc (xs.getD (t / E.size) E.zero)) (t % E.size) l1, getElem!_pos (xs.flatMap E.enc) t l2]
  exact (Option.some.inj e).symm

theorem OwnsF.holdsE {w : World} {B g n cap : Nat} {T : TypeId} {xs : List α} (h : OwnsF E w B T (.slice (some ⟨g, 0, none⟩) n cap) xs) : HoldsK E.enc E.size w g 0 xs.toArray := by
  intro j hj
  have en : n = xs.length := by
    rcases h.owns.form with ⟨h', _⟩ | ⟨g', cap', cur, h', _⟩
    · cases h'
    · simpa using (Value.slice.inj h').2.1
  subst en
  rw [size_flatK] at hj
  have hj' : j < xs.length * E.size := by simpa using hj
  have l2 : j < (xs.flatMap E.enc).length := by rw [length_enc]; exact hj'
  refine ⟨?_, ?_⟩
  · rw [flatE_at xs j hj', Nat.zero_add, World.ownsRow.cellAt h.owns j hj', List.getElem?_eq_getElem l2, getElem!_pos (xs.flatMap E.enc) j l2]; rfl
  · rcases h.2 with ⟨e, _⟩ | ⟨g', cap', cur, e, hb, hh, _⟩
    · cases e
    · simp only [Value.slice.injEq, Option.some.injEq, Addr.mk.injEq] at e
      obtain ⟨⟨rfl, _⟩, _⟩ := e
      exact frozen_of_row _ _ _ _ _ hh

theorem mapBlockE_heap (w : World) (blk : Nat) (f : Array Value → Array Value) {c : Array Value} {T : TypeId} {fr : Nat × Nat} (h : w.heap[blk]? = some (.cells c T fr)) : (mapBlock w blk f).heap[blk]? = some (.cells (f c) T fr) := by
  unfold mapBlock
  simp only [Array.getElem?_modify, h, if_true, Option.map_some]
  rfl
theorem mapBlockE_far (w : World) (blk : Nat) (f : Array Value → Array Value) {b : Nat} (h : b ≠ blk) : (mapBlock w blk f).heap[b]? = w.heap[b]? := by
  unfold mapBlock
  simp only [Array.getElem?_modify]
  rw [if_neg (Ne.symm h)]
theorem mapBlockE_size (w : World) (blk : Nat) (f : Array Value → Array Value) : (mapBlock w blk f).heap.size = w.heap.size := by
  unfold mapBlock; simp
theorem growE_heap (w : World) (os : Array Obj) {b : Nat} (h : b < w.heap.size) : (grow w os).heap[b]? = w.heap[b]? := by
  unfold grow; simp [Array.getElem?_append, h]
theorem sortE_kept (w : World) (g n : Nat) (d : Array α) (os : Array Obj) : Kept (fun b => b = g) w (sortWorldK E.enc E.size w g 0 n d os) := by
  refine ⟨rfl, rfl, rfl, ?_, fun b hb hne => ?_⟩
  · unfold sortWorldK putRowK putRow
    simp only [grow, Array.size_append, mapBlockE_size, Sort.ahead]
    omega
  · unfold sortWorldK putRowK putRow
    rw [growE_heap _ _ (by rw [mapBlockE_size]; exact hb), mapBlockE_far _ _ _ hne]
    rfl
/-- The row has been laid anew. -/
theorem OwnsF.sortedE {w : World} {B g n cap m : Nat} {T : TypeId} {xs ys : List α} (h : OwnsF E w B T (.slice (some ⟨g, 0, none⟩) n cap) xs) (hl : ys.length = xs.length) (os : Array Obj) :
    OwnsF E (sortWorldK E.enc E.size w g 0 m ys.toArray os) B T (.slice (some ⟨g, 0, none⟩) n cap) ys := by
  refine ⟨by rw [length_enc], ?_⟩
  rcases h.2 with ⟨e, _⟩ | ⟨g', cap', cur, e, hb, hh, hn, hc, hs, ht⟩
  · cases e
  · simp only [Value.slice.injEq, Option.some.injEq, Addr.mk.injEq, and_true] at e
    obtain ⟨rfl, rfl, rfl⟩ := e
    have hg : g < w.heap.size := (Array.getElem?_eq_some_iff.1 hh).1
    refine .inr ⟨g, cap, putCells id 0 (flatK E.enc E.size ys.toArray) cur, by rw [hl], hb, ?_, by rw [hl]; exact hn, hc, by simp [putCells, hs], ?_⟩
    · unfold sortWorldK putRowK putRow
      rw [growE_heap _ _ (by rw [mapBlockE_size]; exact hg)]
      exact mapBlockE_heap _ _ _ hh
    · have hle : xs.length * E.size ≤ cur.size := by rw [hs]; exact Nat.mul_le_mul_right _ hn
      refine List.ext_getElem (by
        have e1 : (putCells id 0 (flatK E.enc E.size ys.toArray) cur).toList.length = cap * E.size := by simp [putCells, hs]
        rw [length_enc, List.length_take, e1, hl]
        have := Nat.mul_le_mul_right E.size hn
        omega) fun t h1 h2 => ?_
      have ht' : t < ys.length * E.size := by rw [length_enc] at h2; exact h2
      have htc : t < cur.size := by rw [hl] at ht'; omega
      simp only [List.getElem_take, putCells, Array.getElem_toList, Array.getElem_mapIdx, id, size_flatK]
      rw [if_pos ⟨Nat.zero_le _, by simpa using ht'⟩, Nat.sub_zero, flatE_at ys t ht', getElem!_pos (ys.flatMap E.enc) t h2]

end
instance inhRo : Inhabited Ro := ⟨roZ⟩
set_option maxHeartbeats 1000000 in
theorem sortRoLit (x y : Ro) (W : World) : Calls Tryd.prog 44 #[roV x, roV y] W fun e w' => e = .returned (.int .i64 (cfK x y)) ∧ ∃ q os', w' = grow (W.drewN q) os' := by
  have HGR : Hid (∀ o o' q os, ∃ q' os', grow (((W.alloc o).alloc o').drewN q) os = grow (W.drewN q') os') := Lib.hid (fun o o' q os => ⟨q, _, by rw [alloc_eq_grow, alloc_eq_grow, grow_grow]; exact (grow_grow (W.drewN q) _ os)⟩)
  go_enter Tryd.func44, Tryd.ntmps44
  go_wp2_with (go_at_call 24; refine (dcompare_any x.1 y.1 _).mono ?_; rintro e w' ⟨rfl, q, os, rfl⟩)
  go_ret
  exact ⟨rfl, HGR.out _ _ _ _⟩
theorem sortRoCmp (blk off size : Nat) (w : World) : CmpLays Tryd.prog 44 #[] elRo.enc 11 cfK blk off size w := fun _ _ _ _ x y => sortRoLit x y _
set_option maxHeartbeats 1000000 in
theorem sortRo_any (B : Nat) (v : Value) (xs : List Ro) (w : World) (h : OwnsF elRo w B 33 v xs) (hsm : xs.length ≤ 4000000000000000000) :
    Calls Tryd.prog 43 #[v, .func (.func 44) #[] #[]] w fun e w' => e = .returned (.tuple #[]) ∧ ∃ ys : List Ro, ys.Perm xs ∧ ys.Pairwise (fun x y => ¬ hlt y.1 x.1) ∧ OwnsF elRo w' B 33 v ys ∧ Kept (fun b => v.ownBlock = some b) w w' := by
  rcases h.owns.form with ⟨rfl, rfl⟩ | ⟨g, cap, cur, rfl, hh, hg, hn, hcap, hsz⟩
  · have hcon := AnyF.slices_SortFunc_none sortRow none 0 (.func (.func 44) #[] #[]) w
    change Calls Tryd.prog 43 _ _ _ at hcon
    refine hcon.mono fun e w' ⟨he, hw⟩ => ⟨he, [], List.Perm.refl _, by simp, OwnsF.nil _ _ _ _, ?_⟩
    rw [hw]; exact Kept.refl _ _
  · have eg : ∀ args w, (callFunc 44 args).run Tryd.prog w = .ok (.enter 44 args) w := enters_of Tryd.func44 (by kernel_rfl) rfl
    have hcon := AnyQ.slices_SortFunc sortRow 11 Tryd.isAgg33 Tryd.sizeOf33 elRo.enc elRo.len elRo.one cfK swoK 44 #[] g 0 cap xs.toArray w eg (sortRoCmp g 0 _ w) h.holdsE hg (by simp; omega)
    change Calls Tryd.prog 43 _ _ _ at hcon
    rw [List.size_toArray] at hcon
    refine hcon.mono fun e w' ⟨he, d', m, os, hp, hs, hw⟩ => ⟨he, d'.toList, ?_, ?_, ?_, ?_⟩
    · obtain ⟨p1, _, p3⟩ := hp
      have e1 : d'.extract 0 xs.length = d' := by rw [← List.size_toArray, ← p1]; simp
      have e2 : xs.toArray.extract 0 xs.length = xs.toArray := by rw [← List.size_toArray]; simp
      rw [e1, e2] at p3
      simpa using p3
    · rw [List.pairwise_iff_getElem]
      intro i j hi hj hij
      have hj' : j < xs.length := by rw [← List.size_toArray, ← hp.1]; simpa using hj
      have := hs i j (Nat.zero_le _) hij hj'
      rw [ltK, getElem!_pos d' j (by simpa using hj), getElem!_pos d' i (by simpa using hi)] at this
      simpa using this
    · rw [hw]
      exact h.sortedE (ys := d'.toList) (by rw [Array.length_toList, hp.1, List.size_toArray]) os
    · rw [hw]
      exact (sortE_kept w g m d' os).mono (fun b e => .inl (by rw [e]; rfl))
instance inhCh : Inhabited Ch := ⟨chZ⟩
set_option maxHeartbeats 1000000 in
theorem sortChsLit (x y : Ch) (W : World) : Calls Tryd.prog 23 #[chV x, chV y] W fun e w' => e = .returned (.int .i64 (cfK x y)) ∧ ∃ q os', w' = grow (W.drewN q) os' := by
  have HGR : Hid (∀ o o' q os, ∃ q' os', grow (((W.alloc o).alloc o').drewN q) os = grow (W.drewN q') os') := Lib.hid (fun o o' q os => ⟨q, _, by rw [alloc_eq_grow, alloc_eq_grow, grow_grow]; exact (grow_grow (W.drewN q) _ os)⟩)
  go_enter Tryd.func23, Tryd.ntmps23
  go_wp2_with (go_at_call 24; refine (dcompare_any x.1 y.1 _).mono ?_; rintro e w' ⟨rfl, q, os, rfl⟩)
  go_ret
  exact ⟨rfl, HGR.out _ _ _ _⟩
theorem sortChsCmp (blk off size : Nat) (w : World) : CmpLays Tryd.prog 23 #[] elCh.enc 20 cfK blk off size w := fun _ _ _ _ x y => sortChsLit x y _
set_option maxHeartbeats 1000000 in
theorem sortChs_any (B : Nat) (v : Value) (xs : List Ch) (w : World) (h : OwnsF elCh w B 36 v xs) (hsm : xs.length ≤ 4000000000000000000) :
    Calls Tryd.prog 22 #[v, .func (.func 23) #[] #[]] w fun e w' => e = .returned (.tuple #[]) ∧ ∃ ys : List Ch, ys.Perm xs ∧ ys.Pairwise (fun x y => ¬ hlt y.1 x.1) ∧ OwnsF elCh w' B 36 v ys ∧ Kept (fun b => v.ownBlock = some b) w w' := by
  rcases h.owns.form with ⟨rfl, rfl⟩ | ⟨g, cap, cur, rfl, hh, hg, hn, hcap, hsz⟩
  · have hcon := AnyF.slices_SortFunc_none sortCh none 0 (.func (.func 23) #[] #[]) w
    change Calls Tryd.prog 22 _ _ _ at hcon
    refine hcon.mono fun e w' ⟨he, hw⟩ => ⟨he, [], List.Perm.refl _, by simp, OwnsF.nil _ _ _ _, ?_⟩
    rw [hw]; exact Kept.refl _ _
  · have eg : ∀ args w, (callFunc 23 args).run Tryd.prog w = .ok (.enter 23 args) w := enters_of Tryd.func23 (by kernel_rfl) rfl
    have hcon := AnyQ.slices_SortFunc sortCh 20 Tryd.isAgg36 Tryd.sizeOf36 elCh.enc elCh.len elCh.one cfK swoK 23 #[] g 0 cap xs.toArray w eg (sortChsCmp g 0 _ w) h.holdsE hg (by simp; omega)
    change Calls Tryd.prog 22 _ _ _ at hcon
    rw [List.size_toArray] at hcon
    refine hcon.mono fun e w' ⟨he, d', m, os, hp, hs, hw⟩ => ⟨he, d'.toList, ?_, ?_, ?_, ?_⟩
    · obtain ⟨p1, _, p3⟩ := hp
      have e1 : d'.extract 0 xs.length = d' := by rw [← List.size_toArray, ← p1]; simp
      have e2 : xs.toArray.extract 0 xs.length = xs.toArray := by rw [← List.size_toArray]; simp
      rw [e1, e2] at p3
      simpa using p3
    · rw [List.pairwise_iff_getElem]
      intro i j hi hj hij
      have hj' : j < xs.length := by rw [← List.size_toArray, ← hp.1]; simpa using hj
      have := hs i j (Nat.zero_le _) hij hj'
      rw [ltK, getElem!_pos d' j (by simpa using hj), getElem!_pos d' i (by simpa using hi)] at this
      simpa using this
    · rw [hw]
      exact h.sortedE (ys := d'.toList) (by rw [Array.length_toList, hp.1, List.size_toArray]) os
    · rw [hw]
      exact (sortE_kept w g m d' os).mono (fun b e => .inl (by rw [e]; rfl))
end Go.Proofs.YtnmlapoiilckhaaDoor

/- Lists of rows and of changes compared. -/
import Derived.Test.YtnmlapoiilckhaaDoorDiffLaws
import Derived.Test.YtnmlapoiilckhaaDoorGroundD
import Derived.Test.YtnmlapoiilckhaaDoorGroundA
namespace Go.Proofs.YtnmlapoiilckhaaDoor
set_option maxRecDepth 8000
open Go.RowKit

theorem eqBe9 (m a0 a1 a2 a3 a4 a5 a6 a7 q b0 b1 b2 b3 b4 b5 b6 b7 : Int) (w : World) : (Op.equalIn 9999 31 (.agg #[.int .i64 m, .int .i64 a0, .int .i64 a1, .int .i64 a2, .int .i64 a3, .int .i64 a4, .int .i64 a5, .int .i64 a6, .int .i64 a7]) (.agg #[.int .i64 q, .int .i64 b0, .int .i64 b1, .int .i64 b2, .int .i64 b3, .int .i64 b4, .int .i64 b5, .int .i64 b6, .int .i64 b7])).run Tryd.prog w = .ok (decide (((m, a0, a1, a2, a3, a4, a5, a6, a7) : Be) = (q, b0, b1, b2, b3, b4, b5, b6, b7))) w := by
  have he := eqArr 9996 a0 a1 a2 a3 a4 a5 a6 a7 b0 b1 b2 b3 b4 b5 b6 b7
  by_cases h : m = q
  · subst h
    simp [go_sem, he]
    split <;> simp_all
  · simp [go_sem, h]
theorem eqHd9 (s g s' g' : Int) (w : World) : (Op.equalIn 9999 28 (.agg #[.int .i64 s, .int .i64 g]) (.agg #[.int .i64 s', .int .i64 g'])).run Tryd.prog w = .ok (decide ((s, g) = (s', g'))) w := by
  by_cases h : s = s'
  · subst h
    simp [go_sem]
    by_cases h2 : g = g' <;> simp [h2]
  · simp [go_sem, h]
theorem eqRo_at (s g s' g' m a0 a1 a2 a3 a4 a5 a6 a7 q b0 b1 b2 b3 b4 b5 b6 b7 : Int) (w : World) : (Op.equalIn 10000 33 (.agg #[.int .i64 s, .int .i64 g, .int .i64 m, .int .i64 a0, .int .i64 a1, .int .i64 a2, .int .i64 a3, .int .i64 a4, .int .i64 a5, .int .i64 a6, .int .i64 a7]) (.agg #[.int .i64 s', .int .i64 g', .int .i64 q, .int .i64 b0, .int .i64 b1, .int .i64 b2, .int .i64 b3, .int .i64 b4, .int .i64 b5, .int .i64 b6, .int .i64 b7])).run Tryd.prog w = .ok (decide (((s, g), m, a0, a1, a2, a3, a4, a5, a6, a7) = ((s', g'), q, b0, b1, b2, b3, b4, b5, b6, b7))) w := by
  have h1 := eqHd9 s g s' g'
  have h2 := eqBe9 m a0 a1 a2 a3 a4 a5 a6 a7 q b0 b1 b2 b3 b4 b5 b6 b7
  generalize hp : ((m, a0, a1, a2, a3, a4, a5, a6, a7) : Be) = p at *
  generalize hq : ((q, b0, b1, b2, b3, b4, b5, b6, b7) : Be) = q0 at *
  by_cases e1 : (s, g) = (s', g') <;> by_cases e2 : p = q0
  all_goals
    simp only [e1, e2, decide_true, decide_false] at h1 h2
    simp [go_sem, h1, h2, e1, e2]
theorem eqCh_at (s g s' g' m a0 a1 a2 a3 a4 a5 a6 a7 q b0 b1 b2 b3 b4 b5 b6 b7 m2 c0 c1 c2 c3 c4 c5 c6 c7 q2 d0 d1 d2 d3 d4 d5 d6 d7 : Int) (w : World) : (Op.equalIn 10000 36 (.agg #[.int .i64 s, .int .i64 g, .int .i64 m, .int .i64 a0, .int .i64 a1, .int .i64 a2, .int .i64 a3, .int .i64 a4, .int .i64 a5, .int .i64 a6, .int .i64 a7, .int .i64 q, .int .i64 b0, .int .i64 b1, .int .i64 b2, .int .i64 b3, .int .i64 b4, .int .i64 b5, .int .i64 b6, .int .i64 b7]) (.agg #[.int .i64 s', .int .i64 g', .int .i64 m2, .int .i64 c0, .int .i64 c1, .int .i64 c2, .int .i64 c3, .int .i64 c4, .int .i64 c5, .int .i64 c6, .int .i64 c7, .int .i64 q2, .int .i64 d0, .int .i64 d1, .int .i64 d2, .int .i64 d3, .int .i64 d4, .int .i64 d5, .int .i64 d6, .int .i64 d7])).run Tryd.prog w = .ok (decide (((s, g), (m, a0, a1, a2, a3, a4, a5, a6, a7), q, b0, b1, b2, b3, b4, b5, b6, b7) = ((s', g'), (m2, c0, c1, c2, c3, c4, c5, c6, c7), q2, d0, d1, d2, d3, d4, d5, d6, d7))) w := by
  have h1 := eqHd9 s g s' g'
  have h2 := eqBe9 m a0 a1 a2 a3 a4 a5 a6 a7 m2 c0 c1 c2 c3 c4 c5 c6 c7
  have h3 := eqBe9 q b0 b1 b2 b3 b4 b5 b6 b7 q2 d0 d1 d2 d3 d4 d5 d6 d7
  generalize hp : ((m, a0, a1, a2, a3, a4, a5, a6, a7) : Be) = p at *
  generalize hq : ((m2, c0, c1, c2, c3, c4, c5, c6, c7) : Be) = q0 at *
  generalize hr : ((q, b0, b1, b2, b3, b4, b5, b6, b7) : Be) = r at *
  generalize hs : ((q2, d0, d1, d2, d3, d4, d5, d6, d7) : Be) = s0 at *
  by_cases e1 : (s, g) = (s', g') <;> by_cases e2 : p = q0 <;> by_cases e3 : r = s0
  all_goals
    simp only [e1, e2, e3, decide_true, decide_false] at h1 h2 h3
    simp [go_sem, h1, h2, h3, e1, e2, e3]
theorem yields_ldY {P : Program} {ops : Array Oper} {S : World → Prop} {op : Oper} {a : Act} (hw : Region.wanted op (yielded ops a.tmps) = true) (ty : TypeId) (x : Operand) (ho : op.op = .load ty x) (p : Value) (hx : a.eval x = p) (v : Value) (hS : ∀ w, S w → (Instr.loadAt ty p).run P w = .ok v w) : YieldsIf P ops S op v a :=
  .inl ⟨hw, fun w hw' => by
    unfold execOp
    simp only [ho, hx, Sem.run_bind, hS w hw', Sem.run_pure, Result.andThen_ok]⟩
theorem te_t {α : Type} {l : List α} {i : Nat} {a : α} : l.toArray.setIfInBounds i a = (l.set i a).toArray := List.setIfInBounds_toArray ..
theorem te_0 {α : Type} {x : α} {l : List α} {a : α} : (x :: l).set 0 a = a :: l := List.set_cons_zero ..
theorem te_s {α : Type} {x : α} {l : List α} {n : Nat} {a : α} : (x :: l).set (n + 1) a = x :: l.set n a := List.set_cons_succ ..
theorem neRo (a b : Ro) (t : Bool) (h : decide (a = b) = t) (w : World) : (binOp .neq 33 (roV a) (roV b)).run Tryd.prog w = .ok (.bool (!t)) w := by
  rw [run_neq_struct, eqRo_at, ← h]; rfl
theorem neCh (a b : Ch) (t : Bool) (h : decide (a = b) = t) (w : World) : (binOp .neq 36 (chV a) (chV b)).run Tryd.prog w = .ok (.bool (!t)) w := by
  rw [run_neq_struct, eqCh_at, ← h]; rfl
theorem ld_newR (c : Ro) (w : World) : (Instr.loadAt 33 (.pointer (some ⟨w.heap.size, 0, none⟩))).run Tryd.prog (w.alloc (.cells (elRo.enc c).toArray 33)) = .ok (roV c) (w.alloc (.cells (elRo.enc c).toArray 33)) :=
  ld_ro (fun j hj => by rw [Nat.zero_add, cell_of_row _ _ _ _ _ _ (heap_alloc_new w _)]; simp)
theorem st_newR (c : Ro) (w : World) : (Instr.storeAt 33 (.pointer (some ⟨w.heap.size, 0, none⟩)) (roV c)).run Tryd.prog (w.alloc (.cells #[.int .i64 0, .int .i64 0, .int .i64 0, .int .i64 0, .int .i64 0, .int .i64 0, .int .i64 0, .int .i64 0, .int .i64 0, .int .i64 0, .int .i64 0] 33)) = .ok () (w.alloc (.cells (elRo.enc c).toArray 33)) := by
  have := run_storeVar_new (P := Tryd.prog) w 33 #[.int .i64 0, .int .i64 0, .int .i64 0, .int .i64 0, .int .i64 0, .int .i64 0, .int .i64 0, .int .i64 0, .int .i64 0, .int .i64 0, .int .i64 0] (elRo.enc c).toArray (by kernel_rfl) rfl (all_oneCell_toArray (elRo.one c))
  simp only [Instr.storeAt, Instr.sureAddr, Sem.run_bind, Sem.run_pure, Result.andThen_ok]
  exact this
set_option maxHeartbeats 4000000 in
theorem eqRos_any (u v : Value) (xs ys : List Ro) (w : World) (hx : Reads elRo w u xs) (hy : Reads elRo w v ys) :
    Calls Tryd.prog 14 #[u, v] w fun e w' => e = .returned (.bool (decide (xs = ys))) ∧ Below w.heap.size w w' := by
  obtain ⟨a, cap, rfl, hl, hm, hc⟩ := hx
  obtain ⟨a', cap', rfl, hl', hm', hc'⟩ := hy
  unfold maxLen at hm hm'
  obtain ⟨n, hn⟩ : ∃ n, xs.length = n := ⟨_, rfl⟩
  obtain ⟨n', hn'⟩ : ∃ n', ys.length = n' := ⟨_, rfl⟩
  have HN := Lib.hid hn
  have HN' := Lib.hid hn'
  rw [hn] at hl hc ⊢
  rw [hn'] at hl' hc' ⊢
  have HC := Lib.hid hc
  have HC' := Lib.hid hc'
  clear hn hn' hc hc'
  by_cases e : n = n'
  · subst e
    have hne : ((n : Int) != (n : Int)) = false := by simp
    go_enter Tryd.func14, Tryd.ntmps14
    go_wp2
    go_loopw [14] (fun i wr => ∃ k : Nat, k ≤ n ∧ i = .int .i64 k ∧ Hid (∀ j, j < k → xs.getD j roZ = ys.getD j roZ) ∧ Hid (Below w.heap.size w wr)) (fun i _ => n - (intOf i).toNat)
    case atStart => exact ⟨0, by omega, rfl, fun j hj => by omega, Below.refl _ _⟩
    case round =>
      obtain ⟨k, hk, rfl, hno, hB⟩ := hrel
      by_cases hlt : k < n
      · obtain ⟨b, off, rfl, hb, hck⟩ := HC.out k hlt
        obtain ⟨b', off', rfl, hb', hck'⟩ := HC'.out k hlt
        obtain ⟨x, hxk⟩ : ∃ x, xs.getD k roZ = x := ⟨_, rfl⟩
        obtain ⟨y, hyk⟩ : ∃ y, ys.getD k roZ = y := ⟨_, rfl⟩
        have hcr : ∀ W, Below w.heap.size w W → ∀ j, j < 11 → W.cell? ⟨b, off + k * 11 + j, none⟩ = (elRo.enc x)[j]? := fun W hW j hj => by rw [hW.cell (p := ⟨b, _, none⟩) hb, ← hxk]; exact hck j hj
        have hcr' : ∀ W, Below w.heap.size w W → ∀ j, j < 11 → W.cell? ⟨b', off' + k * 11 + j, none⟩ = (elRo.enc y)[j]? := fun W hW j hj => by rw [hW.cell (p := ⟨b', _, none⟩) hb', ← hyk]; exact hck' j hj
        have HXK := Lib.hid hxk
        have HYK := Lib.hid hyk
        have hbw : b < wr.heap.size := Nat.lt_of_lt_of_le hb hB.out.size
        have hbw' : b' < wr.heap.size := Nat.lt_of_lt_of_le hb' hB.out.size
        have hld := ld_ro (c := x) (hcr wr hB.out)
        have hst := st_newR x wr
        have hBX := nb_alloc hB.out (.cells (elRo.enc x).toArray 33)
        have hS : (Instr.loadAt 33 (.pointer (some ⟨wr.heap.size, 0, none⟩))).run Tryd.prog (wr.alloc (.cells (elRo.enc x).toArray 33)).drew = .ok (roV x) (wr.alloc (.cells (elRo.enc x).toArray 33)).drew ∧ (Instr.loadAt 33 (.pointer (some ⟨b', off' + k * 11, none⟩))).run Tryd.prog (wr.alloc (.cells (elRo.enc x).toArray 33)).drew = .ok (roV y) (wr.alloc (.cells (elRo.enc x).toArray 33)).drew :=
          ⟨ld_ro (c := x) (fun j hj => by rw [Nat.zero_add]; exact (cell_of_row _ _ _ _ _ _ (heap_alloc_new wr _)).trans (by simp)), ld_ro (c := y) (hcr' _ hBX.drew)⟩
        have hqt := fun t h => neRo x y t h
        have hgd : ∀ (x1 y1 : Operand) W, (eqGuard .neq 33 x1 y1 (roV x) (roV y)).run Tryd.prog W = .ok () W := fun x1 y1 W => run_eqGuard_agg W .neq 33 x1 y1 _ _ (by kernel_rfl)
        obtain ⟨X, hX⟩ : ∃ X, roV x = X := ⟨_, rfl⟩
        obtain ⟨Y, hY⟩ : ∃ Y, roV y = Y := ⟨_, rfl⟩
        obtain ⟨CX, hCX⟩ : ∃ CX, (elRo.enc x).toArray = CX := ⟨_, rfl⟩
        rw [hX] at hld hst hS hqt hgd
        rw [hY] at hS hqt hgd
        rw [hCX] at hst hS hBX
        have HBX := Lib.hid hBX
        have HS := Lib.hid hS
        have HQT := Lib.hid hqt
        clear hcr hcr' hxk hyk hck hck' hX hY hCX hBX hS hqt
        obtain ⟨t, ht⟩ : ∃ t, decide (x = y) = t := ⟨_, rfl⟩
        have hq := HQT.out t ht
        have HT := Lib.hid ht
        clear ht
        go_wp2_with (first | refine wpList_ldY rfl 33 _ rfl _ rfl X hld ?_ | refine wpList_stY rfl 33 _ _ rfl _ rfl X rfl hst ?_)
        have hS0 := HS.out
        refine wp_region_noPanic (wp_region_till (fun W : World => (Instr.loadAt 33 (.pointer (some ⟨wr.heap.size, 0, none⟩))).run Tryd.prog W = .ok X W ∧ (Instr.loadAt 33 (.pointer (some ⟨b', off' + k * 11, none⟩))).run Tryd.prog W = .ok Y W) 5 (by kernel_rfl) ?_)
        refine Till.take (i := 0) [] rfl (by kernel_rfl) (by kernel_rfl) (by kernel_rfl) (by kernel_rfl) (fun _ _ _ h => h) (yields_ldY (by rfl) 33 _ (by rfl) _ (by rfl) X (fun W hW => hW.1)) hS0 ?_
        try simp only [Act.put, te_t, te_0, te_s, List.getElem_toArray, List.getElem_cons_zero]
        refine Till.take (i := 1) [3, 4] rfl (by kernel_rfl) (by kernel_rfl) (by kernel_rfl) (by kernel_rfl) (fun _ _ _ h => h) (Or.inl ⟨by rfl, fun w hw => by go_simp; (try with_reducible rfl)⟩) hS0 ?_
        try simp only [Act.put, te_t, te_0, te_s, List.getElem_toArray, List.getElem_cons_zero, List.getElem_cons_succ]
        refine Till.take (i := 2) [3, 4] rfl (by kernel_rfl) (by kernel_rfl) (by kernel_rfl) (by kernel_rfl) (fun _ _ _ h => h) (Or.inl ⟨by rfl, fun w hw => by go_simp; (try with_reducible rfl)⟩) hS0 ?_
        try simp only [Act.put, te_t, te_0, te_s, List.getElem_toArray, List.getElem_cons_zero, List.getElem_cons_succ]
        refine Till.take (i := 3) [4] rfl (by kernel_rfl) (by kernel_rfl) (by kernel_rfl) (by kernel_rfl) (fun _ _ _ h => h) (Or.inl ⟨by rfl, fun w hw => by go_simp; (try with_reducible rfl)⟩) hS0 ?_
        try simp only [Act.put, te_t, te_0, te_s, List.getElem_toArray, List.getElem_cons_zero, List.getElem_cons_succ]
        refine Till.take (i := 4) [] rfl (by kernel_rfl) (by kernel_rfl) (by kernel_rfl) (by kernel_rfl) (fun _ _ _ h => h) (yields_ldY (by rfl) 33 _ (by rfl) _ (by rfl) Y (fun W hW => hW.2)) hS0 ?_
        try simp only [Act.put, te_t, te_0, te_s, List.getElem_toArray, List.getElem_cons_zero, List.getElem_cons_succ]
        refine Till.ready (rs := [5]) (by kernel_rfl) (by simp) (TillAll.cons rfl (fun K hK => ?_) TillAll.nil)
        go_simp
        refine hK.out _ _ (.inl rfl) ?_
        clear hK K
        refine Till.done (by kernel_rfl) (NoPanic.normal ?_) _
        have HBD := Lib.hid HBX.out.drew
        clear hq hgd hS0 HS hld hst HQT HBX
        cases t
        · have HF : Hid (decide (xs = ys) = false) := Lib.hid (decide_eq_false (neD (d := roZ) (j := k) (by rw [HXK.out, HYK.out]; exact of_decide_eq_false HT.out)))
          go_wp2
          go_ret
          exact ⟨ret_bool HF.out.symm, HBD.out⟩
        · have HE : Hid (∀ j, j < k + 1 → xs.getD j roZ = ys.getD j roZ) := Lib.hid (fun j hj => if e : j = k then by rw [e, HXK.out, HYK.out]; exact of_decide_eq_true HT.out else hno.out j (by omega))
          go_wp2
          go_roundw
          case rel => exact ⟨k + 1, by omega, by go_num, HE, HBD⟩
          case measure => simp [intOf]; omega
      · obtain rfl : k = n := by omega
        have HE : Hid (decide (xs = ys) = true) := Lib.hid (decide_eq_true (eqD (d := roZ) (by rw [HN.out, HN'.out]) (by rw [HN.out]; exact hno.out)))
        go_wp2
        go_ret
        exact ⟨ret_bool HE.out.symm, hB.out⟩
  · have hne : ((n : Int) != (n' : Int)) = true := by rw [bne_iff_ne]; omega
    have HF : Hid (decide (xs = ys) = false) := Lib.hid (decide_eq_false (fun h => e (by rw [← HN.out, ← HN'.out, h])))
    clear e
    go_enter Tryd.func14, Tryd.ntmps14
    go_wp2
    go_ret
    exact ⟨ret_bool HF.out.symm, Below.refl _ _⟩
set_option maxHeartbeats 4000000 in
theorem eqChs_any (u v : Value) (xs ys : List Ch) (w : World) (hx : Reads elCh w u xs) (hy : Reads elCh w v ys) :
    Calls Tryd.prog 11 #[u, v] w fun e w' => e = .returned (.bool (decide (xs = ys))) ∧ Below w.heap.size w w' := by
  obtain ⟨a, cap, rfl, hl, hm, hc⟩ := hx
  obtain ⟨a', cap', rfl, hl', hm', hc'⟩ := hy
  unfold maxLen at hm hm'
  obtain ⟨n, hn⟩ : ∃ n, xs.length = n := ⟨_, rfl⟩
  obtain ⟨n', hn'⟩ : ∃ n', ys.length = n' := ⟨_, rfl⟩
  have HN := Lib.hid hn
  have HN' := Lib.hid hn'
  rw [hn] at hl hc ⊢
  rw [hn'] at hl' hc' ⊢
  have HC := Lib.hid hc
  have HC' := Lib.hid hc'
  clear hn hn' hc hc'
  by_cases e : n = n'
  · subst e
    have hne : ((n : Int) != (n : Int)) = false := by simp
    go_enter Tryd.func11, Tryd.ntmps11
    go_wp2
    go_loopw [14] (fun i wr => ∃ k : Nat, k ≤ n ∧ i = .int .i64 k ∧ Hid (∀ j, j < k → xs.getD j chZ = ys.getD j chZ) ∧ Hid (Below w.heap.size w wr)) (fun i _ => n - (intOf i).toNat)
    case atStart => exact ⟨0, by omega, rfl, fun j hj => by omega, Below.refl _ _⟩
    case round =>
      obtain ⟨k, hk, rfl, hno, hB⟩ := hrel
      by_cases hlt : k < n
      · obtain ⟨b, off, rfl, hb, hck⟩ := HC.out k hlt
        obtain ⟨b', off', rfl, hb', hck'⟩ := HC'.out k hlt
        obtain ⟨x, hxk⟩ : ∃ x, xs.getD k chZ = x := ⟨_, rfl⟩
        obtain ⟨y, hyk⟩ : ∃ y, ys.getD k chZ = y := ⟨_, rfl⟩
        have hcr : ∀ W, Below w.heap.size w W → ∀ j, j < 20 → W.cell? ⟨b, off + k * 20 + j, none⟩ = (elCh.enc x)[j]? := fun W hW j hj => by rw [hW.cell (p := ⟨b, _, none⟩) hb, ← hxk]; exact hck j hj
        have hcr' : ∀ W, Below w.heap.size w W → ∀ j, j < 20 → W.cell? ⟨b', off' + k * 20 + j, none⟩ = (elCh.enc y)[j]? := fun W hW j hj => by rw [hW.cell (p := ⟨b', _, none⟩) hb', ← hyk]; exact hck' j hj
        have HXK := Lib.hid hxk
        have HYK := Lib.hid hyk
        have hbw : b < wr.heap.size := Nat.lt_of_lt_of_le hb hB.out.size
        have hbw' : b' < wr.heap.size := Nat.lt_of_lt_of_le hb' hB.out.size
        have hld := ld_ch (c := x) (hcr wr hB.out)
        have hst := st_new x wr
        have hBX := nb_alloc hB.out (.cells (elCh.enc x).toArray 36)
        have hS : (Instr.loadAt 36 (.pointer (some ⟨wr.heap.size, 0, none⟩))).run Tryd.prog (wr.alloc (.cells (elCh.enc x).toArray 36)).drew = .ok (chV x) (wr.alloc (.cells (elCh.enc x).toArray 36)).drew ∧ (Instr.loadAt 36 (.pointer (some ⟨b', off' + k * 20, none⟩))).run Tryd.prog (wr.alloc (.cells (elCh.enc x).toArray 36)).drew = .ok (chV y) (wr.alloc (.cells (elCh.enc x).toArray 36)).drew :=
          ⟨ld_ch (c := x) (fun j hj => by rw [Nat.zero_add]; exact (cell_of_row _ _ _ _ _ _ (heap_alloc_new wr _)).trans (by simp)), ld_ch (c := y) (hcr' _ hBX.drew)⟩
        have hqt := fun t h => neCh x y t h
        have hgd : ∀ (x1 y1 : Operand) W, (eqGuard .neq 36 x1 y1 (chV x) (chV y)).run Tryd.prog W = .ok () W := fun x1 y1 W => run_eqGuard_agg W .neq 36 x1 y1 _ _ (by kernel_rfl)
        obtain ⟨X, hX⟩ : ∃ X, chV x = X := ⟨_, rfl⟩
        obtain ⟨Y, hY⟩ : ∃ Y, chV y = Y := ⟨_, rfl⟩
        obtain ⟨CX, hCX⟩ : ∃ CX, (elCh.enc x).toArray = CX := ⟨_, rfl⟩
        rw [hX] at hld hst hS hqt hgd
        rw [hY] at hS hqt hgd
        rw [hCX] at hst hS hBX
        have HBX := Lib.hid hBX
        have HS := Lib.hid hS
        have HQT := Lib.hid hqt
        clear hcr hcr' hxk hyk hck hck' hX hY hCX hBX hS hqt
        obtain ⟨t, ht⟩ : ∃ t, decide (x = y) = t := ⟨_, rfl⟩
        have hq := HQT.out t ht
        have HT := Lib.hid ht
        clear ht
        go_wp2_with (first | refine wpList_ldY rfl 36 _ rfl _ rfl X hld ?_ | refine wpList_stY rfl 36 _ _ rfl _ rfl X rfl hst ?_)
        have hS0 := HS.out
        refine wp_region_noPanic (wp_region_till (fun W : World => (Instr.loadAt 36 (.pointer (some ⟨wr.heap.size, 0, none⟩))).run Tryd.prog W = .ok X W ∧ (Instr.loadAt 36 (.pointer (some ⟨b', off' + k * 20, none⟩))).run Tryd.prog W = .ok Y W) 5 (by kernel_rfl) ?_)
        refine Till.take (i := 0) [] rfl (by kernel_rfl) (by kernel_rfl) (by kernel_rfl) (by kernel_rfl) (fun _ _ _ h => h) (yields_ldY (by rfl) 36 _ (by rfl) _ (by rfl) X (fun W hW => hW.1)) hS0 ?_
        try simp only [Act.put, te_t, te_0, te_s, List.getElem_toArray, List.getElem_cons_zero]
        refine Till.take (i := 1) [3, 4] rfl (by kernel_rfl) (by kernel_rfl) (by kernel_rfl) (by kernel_rfl) (fun _ _ _ h => h) (Or.inl ⟨by rfl, fun w hw => by go_simp; (try with_reducible rfl)⟩) hS0 ?_
        try simp only [Act.put, te_t, te_0, te_s, List.getElem_toArray, List.getElem_cons_zero, List.getElem_cons_succ]
        refine Till.take (i := 2) [3, 4] rfl (by kernel_rfl) (by kernel_rfl) (by kernel_rfl) (by kernel_rfl) (fun _ _ _ h => h) (Or.inl ⟨by rfl, fun w hw => by go_simp; (try with_reducible rfl)⟩) hS0 ?_
        try simp only [Act.put, te_t, te_0, te_s, List.getElem_toArray, List.getElem_cons_zero, List.getElem_cons_succ]
        refine Till.take (i := 3) [4] rfl (by kernel_rfl) (by kernel_rfl) (by kernel_rfl) (by kernel_rfl) (fun _ _ _ h => h) (Or.inl ⟨by rfl, fun w hw => by go_simp; (try with_reducible rfl)⟩) hS0 ?_
        try simp only [Act.put, te_t, te_0, te_s, List.getElem_toArray, List.getElem_cons_zero, List.getElem_cons_succ]
        refine Till.take (i := 4) [] rfl (by kernel_rfl) (by kernel_rfl) (by kernel_rfl) (by kernel_rfl) (fun _ _ _ h => h) (yields_ldY (by rfl) 36 _ (by rfl) _ (by rfl) Y (fun W hW => hW.2)) hS0 ?_
        try simp only [Act.put, te_t, te_0, te_s, List.getElem_toArray, List.getElem_cons_zero, List.getElem_cons_succ]
        refine Till.ready (rs := [5]) (by kernel_rfl) (by simp) (TillAll.cons rfl (fun K hK => ?_) TillAll.nil)
        go_simp
        refine hK.out _ _ (.inl rfl) ?_
        clear hK K
        refine Till.done (by kernel_rfl) (NoPanic.normal ?_) _
        have HBD := Lib.hid HBX.out.drew
        clear hq hgd hS0 HS hld hst HQT HBX
        cases t
        · have HF : Hid (decide (xs = ys) = false) := Lib.hid (decide_eq_false (neD (d := chZ) (j := k) (by rw [HXK.out, HYK.out]; exact of_decide_eq_false HT.out)))
          go_wp2
          go_ret
          exact ⟨ret_bool HF.out.symm, HBD.out⟩
        · have HE : Hid (∀ j, j < k + 1 → xs.getD j chZ = ys.getD j chZ) := Lib.hid (fun j hj => if e : j = k then by rw [e, HXK.out, HYK.out]; exact of_decide_eq_true HT.out else hno.out j (by omega))
          go_wp2
          go_roundw
          case rel => exact ⟨k + 1, by omega, by go_num, HE, HBD⟩
          case measure => simp [intOf]; omega
      · obtain rfl : k = n := by omega
        have HE : Hid (decide (xs = ys) = true) := Lib.hid (decide_eq_true (eqD (d := chZ) (by rw [HN.out, HN'.out]) (by rw [HN.out]; exact hno.out)))
        go_wp2
        go_ret
        exact ⟨ret_bool HE.out.symm, hB.out⟩
  · have hne : ((n : Int) != (n' : Int)) = true := by rw [bne_iff_ne]; omega
    have HF : Hid (decide (xs = ys) = false) := Lib.hid (decide_eq_false (fun h => e (by rw [← HN.out, ← HN'.out, h])))
    clear e
    go_enter Tryd.func11, Tryd.ntmps11
    go_wp2
    go_ret
    exact ⟨ret_bool HF.out.symm, Below.refl _ _⟩
end Go.Proofs.YtnmlapoiilckhaaDoor

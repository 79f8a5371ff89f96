/- Invert answers the changes from the end, old and new exchanged: the statement DiffInverts. -/
import Derived.Test.YtcmpaohefihijaaDoorDiffTold
import Derived.Test.YtcmpaohefihijaaDoorDiffInv
import Derived.Test.YtcmpaohefihijaaDoorLaidKit
import Derived.Test.YtcmpaohefihijaaDoorGroundA
namespace Go.Proofs.YtcmpaohefihijaaDoor
set_option maxRecDepth 8000
open Go Go.ChangeShapes Go.WideShapes Go.ChangeAt Go.RowKit
set_option linter.unusedVariables false
set_option linter.unusedSimpArgs false
theorem ld_hdO {w : World} {b o : Nat} {c : Ch} (h : ∀ j, j < 20 → w.cell? ⟨b, o + j, none⟩ = (elCh.enc c)[j]?) : (Instr.loadAt 28 (.pointer (some ⟨b, o, none⟩))).run Tryd.prog w = .ok (.agg #[.int .i64 c.1.1, .int .i64 c.1.2]) w :=
  ld_all (cs := (elCh.enc c).take 2) (fun j hj => by
    have hj' : j < 2 := by simpa [elCh] using hj
    rw [h j (by omega), List.getElem?_take_of_lt hj']) Tryd.underlying28 rfl (by kernel_rfl)
theorem ld_oldO {w : World} {b o : Nat} {c : Ch} (h : ∀ j, j < 20 → w.cell? ⟨b, o + j, none⟩ = (elCh.enc c)[j]?) : (Instr.loadAt 31 (.pointer (some ⟨b, o + 2, none⟩))).run Tryd.prog w = .ok (beV c.2.1) w :=
  ld_all (cs := ((elCh.enc c).drop 2).take 9) (fun j hj => by
    have hj' : j < 9 := by simpa [elCh] using hj
    rw [Nat.add_assoc, h (2 + j) (by omega), List.getElem?_take_of_lt hj', List.getElem?_drop]) Tryd.underlying31 rfl (by kernel_rfl)
theorem ld_nowO {w : World} {b o : Nat} {c : Ch} (h : ∀ j, j < 20 → w.cell? ⟨b, o + j, none⟩ = (elCh.enc c)[j]?) : (Instr.loadAt 31 (.pointer (some ⟨b, o + 11, none⟩))).run Tryd.prog w = .ok (beV c.2.2) w :=
  ld_all (cs := ((elCh.enc c).drop 11).take 9) (fun j hj => by
    have hj' : j < 9 := by simpa [elCh] using hj
    rw [Nat.add_assoc, h (11 + j) (by omega), List.getElem?_take_of_lt hj', List.getElem?_drop]) Tryd.underlying31 rfl (by kernel_rfl)
theorem step_bsY {P : Program} {ops : Array Oper} {o : Oper} {a : Act} {w w2 : World} {K : Act → World → Prop} {Q : Exit → Act → World → Prop} {E : Prop} {v : Value} (hg : o.guard = none) (ty : TypeId) (x : Operand) (ho : o.op = .buildSlice ty 1 #[(0, x)]) (y : Value) (hx : a.eval x = y) (hr : (Instr.buildSlice ty 1 #[(0, y)]).run P w = .ok v w2) (h : K (a.put o.dst v) w2) : if Region.wanted o (yielded ops a.tmps) = true then o.wp P a w K Q else E := by
  rw [if_pos (by simp [Region.wanted, hg])]
  unfold Oper.wp execOp
  simp only [ho, List.map_toArray, List.map_cons, List.map_nil, hx, Sem.run_bind, hr, Sem.run_pure, Result.andThen_ok]
  exact h
theorem inv_drop {c : List Ch} {j : Nat} (hj : j < c.length) : invC (c.drop j) = invC (c.drop (j + 1)) ++ [swapC (c.getD j chZ)] := by
  rw [List.drop_eq_getElem_cons hj, inv_cons]
  congr 3
  rw [List.getD_eq_getElem?_getD, List.getElem?_eq_getElem hj]
  rfl
set_option maxRecDepth 100000 in
set_option maxHeartbeats 8000000 in
theorem diffInverts_walk (u0 : Value) (z0 : List Ch) (j0 : ∀ x ∈ z0, I64 x.1.1 ∧ I64 x.1.2) (w : World) (hv : DVars w) (i0 : Reads elCh w u0 z0) (s0 : z0.length * 160 ≤ 140737488351232) :
    Calls Tryd.prog 5 #[u0] w fun e w' => e = .returned (.bool true) ∧ Below w.heap.size w w' := by
  obtain ⟨i0i, hi, hz0, hz1, hz2⟩ := info_parts infoCh
  have HI0 := Lib.hid i0
  obtain ⟨ca, cc, hce, hlc, hm, hc⟩ := i0
  have HV := Lib.hid hv
  obtain ⟨n, hn⟩ : ∃ n, z0.length = n := ⟨_, rfl⟩
  have HN := Lib.hid hn
  have HS0 := Lib.hid s0
  rw [hn] at hce hlc hc s0
  subst hce
  have HC := Lib.hid hc
  have hnb : (n : Int) < 1000000000000000 := by omega
  unfold maxLen at hm
  clear hv hc hn hm
  have HIN : Hid (Reads elCh w (.slice ca n cc) z0) := HI0
  clear HI0
  go_enter Tryd.func5, Tryd.ntmps5
  go_wp2
  go_loopw [3, 4] (fun v i wr => ∃ k : Nat, k ≤ n ∧ i = .int .i64 ((k : Int) - 1) ∧ Hid (OwnsF elCh wr w.heap.size 36 v (invC (z0.drop k))) ∧ Hid (Below w.heap.size w wr)) (fun _ i _ => (intOf i + 1).toNat)
  case atStart => exact ⟨n, Nat.le_refl _, rfl, by rw [List.drop_eq_nil_of_le (by rw [HN.out]; exact Nat.le_refl _)]; exact OwnsF.nil _ _ _ _, Below.refl _ _⟩
  case round =>
    obtain ⟨k, hk, rfl, hO, hB⟩ := hrel
    cases k with
    | succ j =>
      have hz : (((j + 1 : Nat) : Int) - 1) = (j : Int) := by omega
      rw [hz]
      obtain ⟨bb, off, rfl, hbb, hck⟩ := HC.out j (by omega)
      obtain ⟨y, hy⟩ : ∃ y, z0.getD j chZ = y := ⟨_, rfl⟩
      have hcr : ∀ W, Below w.heap.size w W → ∀ i, i < 20 → W.cell? ⟨bb, off + j * 20 + i, none⟩ = (elCh.enc y)[i]? := fun W hW i hi => by rw [← hy, hW.cell (p := ⟨bb, _, none⟩) hbb]; exact hck i hi
      have HDR : Hid (invC (z0.drop j) = invC (z0.drop (j + 1)) ++ [swapC y]) := Lib.hid (by rw [← hy]; exact inv_drop (by rw [HN.out]; omega))
      obtain ⟨⟨s, g⟩, ⟨m, a0, a1, a2, a3, a4, a5, a6, a7⟩, q, b0, b1, b2, b3, b4, b5, b6, b7⟩ := y
      have hS : ∀ W, Below w.heap.size w W → (Instr.loadAt 28 (.pointer (some ⟨bb, off + j * 20, none⟩))).run Tryd.prog W = .ok (.agg #[.int .i64 s, .int .i64 g]) W ∧ (Instr.loadAt 31 (.pointer (some ⟨bb, off + j * 20 + 11, none⟩))).run Tryd.prog W = .ok (.agg #[.int .i64 q, .int .i64 b0, .int .i64 b1, .int .i64 b2, .int .i64 b3, .int .i64 b4, .int .i64 b5, .int .i64 b6, .int .i64 b7]) W ∧ (Instr.loadAt 31 (.pointer (some ⟨bb, off + j * 20 + 2, none⟩))).run Tryd.prog W = .ok (.agg #[.int .i64 m, .int .i64 a0, .int .i64 a1, .int .i64 a2, .int .i64 a3, .int .i64 a4, .int .i64 a5, .int .i64 a6, .int .i64 a7]) W := fun W hW => ⟨ld_hdO (hcr W hW), ld_nowO (hcr W hW), ld_oldO (hcr W hW)⟩
      have hbs := fun W => run_bsY ((s, g), (q, b0, b1, b2, b3, b4, b5, b6, b7), m, a0, a1, a2, a3, a4, a5, a6, a7) W
      dsimp only [chV] at hbs
      have HONE := Lib.hid (elCh.one ((s, g), (q, b0, b1, b2, b3, b4, b5, b6, b7), m, a0, a1, a2, a3, a4, a5, a6, a7))
      have HLC : Hid ((elCh.enc ((s, g), (q, b0, b1, b2, b3, b4, b5, b6, b7), m, a0, a1, a2, a3, a4, a5, a6, a7)).length = 1 * 20) := Lib.hid (elCh.len _)
      unfold swapC at HDR
      dsimp only at HDR
      obtain ⟨CC, hCC⟩ : ∃ CC, (((s, g), (q, b0, b1, b2, b3, b4, b5, b6, b7), m, a0, a1, a2, a3, a4, a5, a6, a7) : Ch) = CC := ⟨_, rfl⟩
      rw [hCC] at hbs HONE HLC HDR
      have HS := Lib.hid hS
      have HBS := Lib.hid hbs
      have hjn : j < n := by omega
      obtain ⟨va, vc, hve, -⟩ := hO.out.reads
      have hvl : (invC (z0.drop (j + 1))).length < n := by rw [inv_len, List.length_drop, HN.out]; omega
      generalize invC (z0.drop (j + 1)) = L at *
      obtain ⟨ll, hll⟩ : ∃ ll, L.length = ll := ⟨_, rfl⟩
      have HLL := Lib.hid hll
      rw [hll] at hve hvl
      rw [hve] at hO ⊢
      have HOL := Lib.hid hO.out
      have hbw : bb < wr.heap.size := Nat.lt_of_lt_of_le hbb hB.out.size
      clear hve hcr hck hy hCC hS hbs hk hz hll hO
      go_upto_region 5 with fail
      have hS0 := HS.out _ hB.out.drew
      refine wp_region_noPanic (wp_region_till (fun W : World => (Instr.loadAt 28 (.pointer (some ⟨bb, off + j * 20, none⟩))).run Tryd.prog W = .ok (.agg #[.int .i64 s, .int .i64 g]) W ∧ (Instr.loadAt 31 (.pointer (some ⟨bb, off + j * 20 + 11, none⟩))).run Tryd.prog W = .ok (.agg #[.int .i64 q, .int .i64 b0, .int .i64 b1, .int .i64 b2, .int .i64 b3, .int .i64 b4, .int .i64 b5, .int .i64 b6, .int .i64 b7]) W ∧ (Instr.loadAt 31 (.pointer (some ⟨bb, off + j * 20 + 2, none⟩))).run Tryd.prog W = .ok (.agg #[.int .i64 m, .int .i64 a0, .int .i64 a1, .int .i64 a2, .int .i64 a3, .int .i64 a4, .int .i64 a5, .int .i64 a6, .int .i64 a7]) W) 19 (by kernel_rfl) ?_)
      refine Till.take (i := 0) [18] rfl (by kernel_rfl) (by kernel_rfl) (by kernel_rfl) (by kernel_rfl) (fun _ _ _ h => h) (Or.inl ⟨by rfl, fun w hw => by go_simp; (try with_reducible rfl)⟩) hS0 ?_
      try simp only [Act.put, di_t, di_0, di_s, List.getElem_toArray, List.getElem_cons_zero, List.getElem_cons_succ]
      refine Till.take (i := 1) [3, 4, 5, 16, 17, 18] rfl (by kernel_rfl) (by kernel_rfl) (by kernel_rfl) (by kernel_rfl) (fun _ _ _ h => h) (Or.inl ⟨by rfl, fun w hw => by go_simp; (try with_reducible rfl)⟩) hS0 ?_
      try simp only [Act.put, di_t, di_0, di_s, List.getElem_toArray, List.getElem_cons_zero, List.getElem_cons_succ]
      refine Till.take (i := 2) [3, 4, 5, 16, 17, 18] rfl (by kernel_rfl) (by kernel_rfl) (by kernel_rfl) (by kernel_rfl) (fun _ _ _ h => h) (Or.inl ⟨by rfl, fun w hw => by go_simp; (try with_reducible rfl)⟩) hS0 ?_
      try simp only [Act.put, di_t, di_0, di_s, List.getElem_toArray, List.getElem_cons_zero, List.getElem_cons_succ]
      refine Till.take (i := 3) [4, 5, 16, 17, 18] rfl (by kernel_rfl) (by kernel_rfl) (by kernel_rfl) (by kernel_rfl) (fun _ _ _ h => h) (Or.inl ⟨by rfl, fun w hw => by go_simp; (try with_reducible rfl)⟩) hS0 ?_
      try simp only [Act.put, di_t, di_0, di_s, List.getElem_toArray, List.getElem_cons_zero, List.getElem_cons_succ]
      refine Till.take (i := 4) [5, 16, 17, 18] rfl (by kernel_rfl) (by kernel_rfl) (by kernel_rfl) (by kernel_rfl) (fun _ _ _ h => h) (Or.inl ⟨by rfl, fun w hw => by go_simp; (try with_reducible rfl)⟩) hS0 ?_
      try simp only [Act.put, di_t, di_0, di_s, List.getElem_toArray, List.getElem_cons_zero, List.getElem_cons_succ]
      refine Till.take (i := 5) [16, 17, 18] rfl (by kernel_rfl) (by kernel_rfl) (by kernel_rfl) (by kernel_rfl) (fun _ _ _ h => h) (yields_ldY (by rfl) 28 _ (by rfl) _ (by rfl) (.agg #[.int .i64 s, .int .i64 g]) (fun W hW => hW.1)) hS0 ?_
      try simp only [Act.put, di_t, di_0, di_s, List.getElem_toArray, List.getElem_cons_zero, List.getElem_cons_succ]
      refine Till.take (i := 6) [8, 9, 10, 16, 17, 18] rfl (by kernel_rfl) (by kernel_rfl) (by kernel_rfl) (by kernel_rfl) (fun _ _ _ h => h) (Or.inl ⟨by rfl, fun w hw => by go_simp; (try with_reducible rfl)⟩) hS0 ?_
      try simp only [Act.put, di_t, di_0, di_s, List.getElem_toArray, List.getElem_cons_zero, List.getElem_cons_succ]
      refine Till.take (i := 7) [8, 9, 10, 16, 17, 18] rfl (by kernel_rfl) (by kernel_rfl) (by kernel_rfl) (by kernel_rfl) (fun _ _ _ h => h) (Or.inl ⟨by rfl, fun w hw => by go_simp; (try with_reducible rfl)⟩) hS0 ?_
      try simp only [Act.put, di_t, di_0, di_s, List.getElem_toArray, List.getElem_cons_zero, List.getElem_cons_succ]
      refine Till.take (i := 8) [9, 10, 16, 17, 18] rfl (by kernel_rfl) (by kernel_rfl) (by kernel_rfl) (by kernel_rfl) (fun _ _ _ h => h) (Or.inl ⟨by rfl, fun w hw => by go_simp; (try with_reducible rfl)⟩) hS0 ?_
      try simp only [Act.put, di_t, di_0, di_s, List.getElem_toArray, List.getElem_cons_zero, List.getElem_cons_succ]
      refine Till.take (i := 9) [10, 16, 17, 18] rfl (by kernel_rfl) (by kernel_rfl) (by kernel_rfl) (by kernel_rfl) (fun _ _ _ h => h) (Or.inl ⟨by rfl, fun w hw => by go_simp; (try with_reducible rfl)⟩) hS0 ?_
      try simp only [Act.put, di_t, di_0, di_s, List.getElem_toArray, List.getElem_cons_zero, List.getElem_cons_succ]
      refine Till.take (i := 10) [16, 17, 18] rfl (by kernel_rfl) (by kernel_rfl) (by kernel_rfl) (by kernel_rfl) (fun _ _ _ h => h) (yields_ldY (by rfl) 31 _ (by rfl) _ (by rfl) (.agg #[.int .i64 q, .int .i64 b0, .int .i64 b1, .int .i64 b2, .int .i64 b3, .int .i64 b4, .int .i64 b5, .int .i64 b6, .int .i64 b7]) (fun W hW => hW.2.1)) hS0 ?_
      try simp only [Act.put, di_t, di_0, di_s, List.getElem_toArray, List.getElem_cons_zero, List.getElem_cons_succ]
      refine Till.take (i := 11) [13, 14, 15, 16, 17, 18] rfl (by kernel_rfl) (by kernel_rfl) (by kernel_rfl) (by kernel_rfl) (fun _ _ _ h => h) (Or.inl ⟨by rfl, fun w hw => by go_simp; (try with_reducible rfl)⟩) hS0 ?_
      try simp only [Act.put, di_t, di_0, di_s, List.getElem_toArray, List.getElem_cons_zero, List.getElem_cons_succ]
      refine Till.take (i := 12) [13, 14, 15, 16, 17, 18] rfl (by kernel_rfl) (by kernel_rfl) (by kernel_rfl) (by kernel_rfl) (fun _ _ _ h => h) (Or.inl ⟨by rfl, fun w hw => by go_simp; (try with_reducible rfl)⟩) hS0 ?_
      try simp only [Act.put, di_t, di_0, di_s, List.getElem_toArray, List.getElem_cons_zero, List.getElem_cons_succ]
      refine Till.take (i := 13) [14, 15, 16, 17, 18] rfl (by kernel_rfl) (by kernel_rfl) (by kernel_rfl) (by kernel_rfl) (fun _ _ _ h => h) (Or.inl ⟨by rfl, fun w hw => by go_simp; (try with_reducible rfl)⟩) hS0 ?_
      try simp only [Act.put, di_t, di_0, di_s, List.getElem_toArray, List.getElem_cons_zero, List.getElem_cons_succ]
      refine Till.take (i := 14) [15, 16, 17, 18] rfl (by kernel_rfl) (by kernel_rfl) (by kernel_rfl) (by kernel_rfl) (fun _ _ _ h => h) (Or.inl ⟨by rfl, fun w hw => by go_simp; (try with_reducible rfl)⟩) hS0 ?_
      try simp only [Act.put, di_t, di_0, di_s, List.getElem_toArray, List.getElem_cons_zero, List.getElem_cons_succ]
      refine Till.take (i := 15) [16, 17, 18] rfl (by kernel_rfl) (by kernel_rfl) (by kernel_rfl) (by kernel_rfl) (fun _ _ _ h => h) (yields_ldY (by rfl) 31 _ (by rfl) _ (by rfl) (.agg #[.int .i64 m, .int .i64 a0, .int .i64 a1, .int .i64 a2, .int .i64 a3, .int .i64 a4, .int .i64 a5, .int .i64 a6, .int .i64 a7]) (fun W hW => hW.2.2)) hS0 ?_
      try simp only [Act.put, di_t, di_0, di_s, List.getElem_toArray, List.getElem_cons_zero, List.getElem_cons_succ]
      refine Till.take (i := 16) [17, 18] rfl (by kernel_rfl) (by kernel_rfl) (by kernel_rfl) (by kernel_rfl) (fun _ _ _ h => h) (Or.inl ⟨by rfl, fun w hw => by go_simp; (try with_reducible rfl)⟩) hS0 ?_
      try simp only [Act.put, di_t, di_0, di_s, List.getElem_toArray, List.getElem_cons_zero, List.getElem_cons_succ]
      refine Till.ready (rs := [17]) (by kernel_rfl) (by simp) (TillAll.cons rfl (fun K hK => ?_) TillAll.nil)
      refine step_bsY (by rfl) 23 _ (by rfl) _ (by rfl) (HBS.out _) ?_
      refine hK.out _ _ (.inr (HS.out _ (nb_alloc hB.out.drew _))) ?_
      clear hK K hS0
      try simp only [Act.put, di_t, di_0, di_s, List.getElem_toArray, List.getElem_cons_zero, List.getElem_cons_succ]
      refine Till.ready (rs := [18]) (by kernel_rfl) (by simp) (TillAll.cons rfl (fun K hK => ?_) TillAll.nil)
      refine step_append_lies _ (by rfl) _ _ 23 (by rfl) w.heap.size 36 i0i _ 20 160 Tryd.underlying23 hi hz0 hz1 hz2 rfl (by decide) (.slice va ll vc) ll (L.flatMap elCh.enc) (by rfl) (by have := HOL.out.later (nb_alloc (Below.refl _ _).drew (.cells (elCh.enc CC).toArray 36)); unfold OwnsF at this; rwa [HLL.out] at this) _ 1 1 (elCh.enc CC) (by rfl) HLC.out (World.news_of_block (heap_alloc_new _ _)) HONE.out (by decide) (by unfold maxLen; omega) (by omega) (by have := hB.out.size; simp; omega) _ rfl ?_
      intro gg cap w2 hown hgr hat hlt
      have HB2 : Hid (Below w.heap.size w w2) := Lib.hid ((nb_alloc hB.out.drew _).grown hgr (nb_alloc hB.out.drew _).size (fun k e => HOL.out.ge e))
      have HO2 : Hid (OwnsF elCh w2 w.heap.size 36 (.slice (some ⟨gg, 0, none⟩) (ll + 1) cap) (L ++ [CC])) := Lib.hid (by rw [← HLL.out] at hown ⊢; exact OwnsF.snoc hown)
      clear hown hgr hat hlt
      refine hK.out _ _ (.inr (HS.out _ HB2.out)) ?_
      clear hK K
      try simp only [Act.put, di_t, di_0, di_s, List.getElem_toArray, List.getElem_cons_zero, List.getElem_cons_succ]
      refine Till.ready (rs := [19]) (by kernel_rfl) (by simp) (TillAll.cons rfl (fun K hK => ?_) TillAll.nil)
      go_simp
      refine hK.out _ _ (.inl rfl) ?_
      clear hK K
      try simp only [Act.put, di_t, di_0, di_s, List.getElem_toArray, List.getElem_cons_zero, List.getElem_cons_succ]
      refine Till.done (by kernel_rfl) (NoPanic.normal ?_) _
      rw [← HDR.out] at HO2
      have HM : Hid ((intOf (.int .i64 (j : Int)) + 1).toNat = j + 1) := Lib.hid (by simp [intOf])
      clear HBS HS HONE HLC HOL
      go_wp2
      go_roundw
      case rel => exact ⟨j, by omega, by first | rfl | go_num, HO2, HB2⟩
      case measure => simp [intOf]
    | zero =>
      have hz : (((0 : Nat) : Int) - 1) = -1 := by omega
      rw [hz]
      have HO : Hid (OwnsF elCh wr w.heap.size 36 u3 (invC z0)) := Lib.hid (by have := hO.out; rwa [List.drop_zero] at this)
      obtain ⟨va, vc, hve, -⟩ := HO.out.reads
      obtain ⟨ll, hll⟩ : ∃ ll, (invC z0).length = ll := ⟨_, rfl⟩
      rw [hll] at hve
      rw [hve] at HO ⊢
      have HX : Hid (Below w.heap.size w (wr.alloc (.cells (elRo.enc ((-1, 0), (0, 0, 0, 0, 0, 0, 0, 0, 0))).toArray 33))) := Lib.hid (nb_alloc hB.out _)
      have HOX := Lib.hid (HO.out.later (nb_alloc (Below.refl wr.heap.size wr) (.cells (elRo.enc ((-1, 0), (0, 0, 0, 0, 0, 0, 0, 0, 0))).toArray 33)))
      have HBT := Lib.hid (between_any _ _ [((-1, 0), (0, 0, 0, 0, 0, 0, 0, 0, 0))] [] _ (Reads.oneRo (heap_alloc_new wr (.cells (elRo.enc ((-1, 0), (0, 0, 0, 0, 0, 0, 0, 0, 0))).toArray 33))) (Reads.nil elRo _) (HV.out.later HX.out))
      have htn : (valid [((-1, 0), (0, 0, 0, 0, 0, 0, 0, 0, 0))] && valid []) = false := by kernel_rfl
      have HTN := Lib.hid (betE_no htn)
      clear hve hll hz hO hB hk htn HO HC
      go_wp2_with (go_at_call 9; refine HBT.out.mono ?_; rintro e W2 hp; obtain ⟨x, xc, rfl, ho, hb⟩ := hp.slice; rw [HTN.out.1, HTN.out.2] at *; have HBd := Lib.hid hb; have HB2 := Lib.hid (nb_trans HX.out hb); clear hp ho hb; refine Hid.out ?_)
      refine Lib.hid ?_
      have HO2 := Lib.hid (HOX.out.later HBd.out)
      have HNV := Lib.hid (invert_any _ z0 W2 (HIN.out.later HB2.out) HS0.out)
      go_wp2_with (go_at_call 15; refine HNV.out.mono ?_; rintro e W3 ⟨v9, rfl, ho, hb⟩; obtain ⟨x3, x3k, e9, -⟩ := ho.reads; rw [e9] at ho ⊢; have HO3 := Lib.hid ho; have HBd3 := Lib.hid hb; have HB3 := Lib.hid (nb_trans HB2.out hb); clear ho hb e9; refine Hid.out ?_)
      refine Lib.hid ?_
      have HQ := Lib.hid (eqChs_any _ _ (invC z0) (invC z0) W3 HO3.out.reads (HO2.out.later HBd3.out).reads)
      rw [decide_eq_true (rfl : invC z0 = invC z0)] at HQ
      go_wp2_with (go_at_call 11; refine HQ.out.mono ?_; rintro e W4 ⟨rfl, hb⟩; have HB4 := Lib.hid (nb_trans HB3.out hb); clear hb)
      go_ret
      exact ⟨rfl, HB4.out⟩
namespace diffInverts
theorem own : ownKnob Tryd.prog.godebug = none := by kernel_rfl
theorem laidOut : laidOutB Tryd.prog = true := by kernel_rfl

set_option maxRecDepth 100000 in
set_option maxHeartbeats 4000000 in
theorem lifted (os : Os) (started : os.Started) (H : Type) (enc : TypeId × Value → H) :
    ReturnsInHanded {} Tryd.checked os 5 .any (fun w args => (Rows.diffInvertsSpec.pre enc Tryd.prog Tryd.f5 Rows.diffInvertsRow.domain false w args ∧ laidMetH Tryd.prog Rows.diffInvertsRow.laid w) ∧ sizedMet enc Tryd.prog Tryd.f5 (OpenSpec.ofChange Rows.diffInvertsSpec) false w args)
      (Rows.diffInvertsSpec.post enc Tryd.prog Tryd.f5 false true false false) := by
  refine returnsInHanded_laid_shaped (C := Tryd.checked) (X := fun w _ => laidMetH Tryd.prog Rows.diffInvertsRow.laid w) (fun _ _ _ hh h => h.of_heap hh) own started (by kernel_rfl) Tryd.func5
    (ChangeSpec.witness_shaped (enc := enc) (C := Tryd.checked) (os := os) (X := fun w _ => laidMetH Tryd.prog Rows.diffInvertsRow.laid w) false (World.laidAll Tryd.prog os Rows.diffInvertsRow.laid) #[.slice none 0 0] 8 (World.laidAll_os _ _ _)
      (World.shaped_of_ZipB (by kernel_rfl) (by kernel_rfl)) (by kernel_rfl) (by kernel_rfl) (by kernel_rfl)
      (by rw [MakeChecks.laidMetH_plain _ _ _ (by kernel_rfl)]; exact laidMet_laidAll _ (by kernel_rfl) (by kernel_rfl))) ?_
  intro W base args ds gs before hval0 hW hcnd hsz hlaid hshape
  have hval : ∀ (j : Nat) t v, Tryd.f5.params[j]? = some t → args[j]? = some v → Value.okWide Tryd.prog W .any base t v := hval0
  have hW' := hW
  obtain ⟨p, q, hA0, hV, rfl, hfz, hnd⟩ := hW
  have hA : DataW.TrodAll enc Tryd.prog W 0 (fun _ => true) true Tryd.f5.params.toList args.toList ds p := hA0
  rw [Tryd.params5] at hA hval
  obtain ⟨v0, vs0, d0, ds0, p0, q0, hargs, rfl, rfl, h0, r0⟩ := trodAll_cons hA
  obtain ⟨rfl, rfl, rfl⟩ := trodAll_nil r0
  obtain rfl : args = #[v0] := by cases args; simp_all
  obtain ⟨rfl, rfl⟩ := trodVars_none hV
  have k0' := h0
  have lt0 : ∀ x ∈ p0, x.block < W.heap.size := by obtain ⟨m, hm⟩ := h0; exact DataW.trod_lt m _ _ _ hm
  obtain ⟨z0, i0, j0⟩ : ∃ zs, Reads elCh W v0 zs ∧ ∀ x ∈ zs, I64 x.1.1 ∧ I64 x.1.2 := by
    obtain ⟨a0, len0, cap0, rfl⟩ := okWide_slice Tryd.underlying23 (hval 0 23 v0 rfl rfl)
    exact Reads_ofP elCh (fun x => I64 x.1.1 ∧ I64 x.1.2) Tryd.underlying23 (by kernel_rfl) ch_dec h0
  rw [Tryd.params5] at hsz
  have s0 : z0.length * 160 ≤ 140737488351232 := by
    obtain ⟨aa, cc, ee, _⟩ := i0
    have hh := k0'
    rw [ee] at hh
    exact trod_len Tryd.underlying23 (show Tryd.prog.bytesOf 36 = 160 by kernel_rfl) hh (fun el sp hd => sized_slice hsz (j := 0) (t := 23) rfl (by rw [hd]; rfl) Tryd.underlying23)
  clear hA0 hval0
  refine (diffInverts_walk v0 z0 j0 W (DVars.of hlaid hshape) i0 s0).mono fun e W' ⟨he, bel⟩ => ?_
  subst he
  exact ⟨_, rfl, _, _, _, [], _, [], hW', trodAll_mk1 (shut_bool Tryd.underlying4 _), (trodAll_cons_mk (Below.trod laidOut (by kernel_rfl) (of_decide_eq_true (by kernel_rfl)) k0' bel lt0) trodAll_mk0), rfl, bel.frame _, fun h => by cases h⟩
end diffInverts

theorem diffInverts_proved : Rows.DiffInvertsSaid :=
  OpenClaim.holds_of_wide 5 Tryd.f5 rfl rfl rfl rfl rfl rfl rfl ⟨rfl, rfl, rfl, rfl, rfl⟩ rfl rfl rfl rfl rfl (by kernel_rfl) Tryd.func5 (by kernel_rfl)
    (of_decide_eq_true (by kernel_rfl)) (by unfold Func.isWrapper; first | (rw [if_pos (by decide +kernel)]; kernel_rfl) | (rw [if_neg (by decide +kernel)]; exact ⟨rfl, rfl⟩))
    (fun os started H enc _ => diffInverts.lifted os started H enc)
theorem diffInverts_card : Rows.DiffInvertsCardSaid :=
  Claim7.holds_tied_plain_at .later [] [.data] true (true, "5744bf50b583b4f895a874b1d353a44e716c7019805afb55676c9ca9fd18b970") true diffInverts_proved (fun _ h => by cases h) (by kernel_rfl) (fun _ h => by cases h) diffInverts_row_tie rfl ⟨rfl, rfl⟩ (by kernel_rfl) rfl
    (fun f fn hf hfn => by
      obtain rfl : f = 5 := Option.some.inj ((show Tryd.prog.funcNamed Rows.diffInvertsRow.func = some 5 by kernel_rfl).symm.trans hf) |>.symm
      obtain rfl : fn = Tryd.f5 := (Option.some.inj (Tryd.func5.symm.trans hfn)).symm
      exact ⟨by kernel_rfl, fun j t ht => by
        rw [Tryd.params5] at ht
        have hm : t ∈ [23] := by simpa using Array.mem_of_getElem? ht
        have hall : ([23].all fun u => !Tryd.prog.wantsStandIn u) = true := by kernel_rfl
        exact (show Tryd.prog.wantsStandIn t = false by simpa using List.all_eq_true.1 hall t hm)⟩)
    (by kernel_rfl)

end Go.Proofs.YtcmpaohefihijaaDoor


/- Do of the reference's zoo: Kill. -/
import Derived.Test.YtlaahlphfkadjaaGreatRefDoA
namespace Go.Proofs.YtlaahlphfkadjaaGreat
set_option maxRecDepth 8000
set_option maxRecDepth 8000
open Go.RowKit
set_option maxHeartbeats 4000000 in
theorem refDo_2 (q : Nat) (G : Nat → Prop) (s : Zs) (o : Opm) (w : World) (h : ZfAt w q G s) (ok : ZOk s) (h1 : ¬ o.d = 1) (h2 : o.d = 2) :
    Calls Tryz.prog 20 #[.pointer (some ⟨q, 0, none⟩), .agg #[.int .i64 o.d, .int .i64 o.m, .int .i64 (o.f 0), .int .i64 (o.f 1), .int .i64 (o.f 2), .int .i64 (o.f 3), .int .i64 (o.f 4), .int .i64 (o.f 5), .int .i64 (o.f 6), .int .i64 (o.f 7), .int .i64 o.a, .int .i64 o.b, .int .i64 o.ta, .int .i64 o.tb, .int .i64 o.k, .int .i64 o.n]] w (ZfPost w q G (.tuple #[.agg #[.int .i64 (doH s o).1, .int .i64 (doH s o).2], .int .i64 (doE s o)]) (doZ s o)) := by
  have HE : Hid (doE s o = (if liveH s.l (o.a, o.b) then (0 : Int) else 7) ∧ doH s o = (0, 0) ∧ doZ s o = (if liveH s.l (o.a, o.b) then killZ s (o.a, o.b) else s)) := Lib.hid ⟨by rw [doE, if_neg h1, if_pos h2], by rw [doH, if_neg h1], by rw [doZ, if_neg h1, if_pos h2]⟩
  have hd1 : (o.d == 1) = false := by simpa using h1
  have hd2 : (o.d == 2) = true := by simpa using h2
  have hd3 : (o.d == 3) = false := by rw [h2]; rfl
  have hd4 : (o.d == 4) = false := by rw [h2]; rfl
  have hd5 : (o.d == 5) = false := by rw [h2]; rfl
  have hd6 : (o.d == 6) = false := by rw [h2]; rfl
  clear h1 h2
  obtain ⟨X, HXE, hX, hxa, hxb, hxc⟩ := rdoStart w o
  have HX := Lib.hid hX
  have HZ : Hid (ZfAt X q G s) := Lib.hid (h.later hX)
  have HXB := Lib.hid hxb
  have HOK := Lib.hid ok
  have HLT := Lib.hid h.lt
  have HZB := Lib.hid (rdoKept h.lt hxa hxb hxc)
  have hplw := h.lt q h.at_
  obtain ⟨c0, c1, c2, c3, c4, c5, c6, c7, c8, c9, c10, c11, c12, c13, c14, c15⟩ := opCells hxa
  have n0 : X.cell? ⟨w.heap.size + 1 + 1, 0, none⟩ = some (.int .i64 0) := by rw [cell_of_row _ _ _ _ _ _ hxc]; rfl
  have n1 : X.cell? ⟨w.heap.size + 1 + 1, 1, none⟩ = some (.int .i64 0) := by rw [cell_of_row _ _ _ _ _ _ hxc]; rfl
  have hla := (Array.getElem?_eq_some_iff.1 hxa).1
  have hlb := (Array.getElem?_eq_some_iff.1 hxb).1
  have hlc := (Array.getElem?_eq_some_iff.1 hxc).1
  have hpl : q < X.heap.size := Nat.lt_of_lt_of_le hplw hX.size
  clear hxa hxb hxc h ok hX
  go_enter Tryz.func20, Tryz.ntmps20
  go_wp2_with fail
  rw [HXE.out]
  go_wp2_with fail
  refine (zfAtI q G s o.a o.b _ (HZ.out)).mono ?_
  rintro e x1 ⟨rfl, hx⟩
  obtain ⟨i1, hi1⟩ : ∃ i, atI s.rows o.a o.b = i := ⟨_, rfl⟩
  rw [hi1]
  have HX1 : Hid (Below X.heap.size X x1) := Lib.hid (hx)
  clear hx
  clear c0 c1 c2 c3 c4 c5 c6 c7 c8 c9 c10 c11 c12 c13 c14 c15 n0 n1 hla hlc
  have hqa := (HZB.out x1 (Kept.ofBelow HX1.out)).1
  obtain ⟨c0, -, -, -, -, -, -, -, -, -, c10, c11, c12, c13, c14, c15⟩ := opCells hqa
  have hqn := (HZB.out x1 (Kept.ofBelow HX1.out)).2.2
  have n0 : x1.cell? ⟨w.heap.size + 1 + 1, 0, none⟩ = some (.int .i64 0) := (cell_of_row _ _ _ _ _ _ hqn).trans rfl
  have n1 : x1.cell? ⟨w.heap.size + 1 + 1, 1, none⟩ = some (.int .i64 0) := (cell_of_row _ _ _ _ _ _ hqn).trans rfl
  have hla := (Array.getElem?_eq_some_iff.1 hqa).1
  have hlc := (Array.getElem?_eq_some_iff.1 hqn).1
  have hqz := (HZB.out x1 (Kept.ofBelow HX1.out)).2.1
  have z0 : x1.cell? ⟨w.heap.size + 1, 0, none⟩ = some (.int .i64 0) := (cell_of_row _ _ _ _ _ _ hqz).trans rfl
  have z1 : x1.cell? ⟨w.heap.size + 1, 1, none⟩ = some (.int .i64 0) := (cell_of_row _ _ _ _ _ _ hqz).trans rfl
  have fz : ∀ j, x1.frozen? ⟨w.heap.size + 1, j, none⟩ = false := fun j => frozen_of_row _ _ _ _ _ hqz
  have hlz := (Array.getElem?_eq_some_iff.1 hqz).1
  clear hqa hqn hqz
  cases hl1 : liveH s.l (o.a, o.b)
  · as_aux_lemma =>
    obtain rfl : i1 = -1 := by rw [← hi1]; exact atI_dead HOK.out hl1
    clear hi1
    have HEE : Hid (doE s o = 7 ∧ doZ s o = s) := Lib.hid ⟨by rw [HE.out.1]; simp [hl1], by rw [HE.out.2.2]; simp [hl1]⟩
    go_wp2
    rw [HEE.out.1, HE.out.2.1, HEE.out.2]
    refine bodyPost_ret (v := .tuple #[.agg #[.int .i64 0, .int .i64 0], .int .i64 7]) (by simp [results, Tryz.results20, go_sem, z0, z1]) rfl (ZfPost.fin (B := w.heap.size + 1) (ZfPost.same (x := .int .i64 0) HZ.out HX1.out) HX.out (by first | exact Kept.refl _ _ | exact rkept2 _ _ _ _) (by omega) hlb HLT.out)

  · have h10 : (0 : Int) ≤ i1 := by rw [← hi1]; exact atI_live HOK.out hl1
    have h11 : decide (i1 < 0) = false := by rw [decide_eq_false_iff_not]; omega
    clear hi1
    have HEE : Hid (doE s o = 0 ∧ doZ s o = killZ s (o.a, o.b)) := Lib.hid ⟨by rw [HE.out.1]; simp [hl1], by rw [HE.out.2.2]; simp [hl1]⟩
    obtain ⟨i0, hi, hz0, hz1, hz2⟩ := info_parts infoHand
    obtain ⟨U, hU, hUl, hUC⟩ : ∃ U : List Hd, (∀ x, x ∈ U ↔ Und s.bs x (o.a, o.b)) ∧ U.length ≤ s.bs.length ∧ ∀ Y, Below X.heap.size X Y → Calls Tryz.prog 46 #[.pointer (some ⟨q, 0, none⟩), .agg #[.int .i64 o.a, .int .i64 o.b]] Y (HandsPost Y U) := by
      obtain ⟨d, M, ha⟩ := HOK.out.f.acy
      refine ⟨under s.bs M (o.a, o.b), fun x => ha.in_under, ha.under_len HOK.out.f.sorted _, fun Y hY => ?_⟩
      obtain ⟨G0, G1, vB, hz, -⟩ := (HZ.out.later hY).open
      exact refUnder_any q _ s.bs d M HOK.out.f.sorted ha (by have := HOK.out.len; omega) _ o.a o.b Y (Nat.le_refl _) hz.bon
    have HUC := Lib.hid hUC
    have HUK : Hid (∀ x, x ∈ U ++ [(o.a, o.b)] ↔ x = (o.a, o.b) ∨ Und s.bs x (o.a, o.b)) := Lib.hid (fun x => by rw [List.mem_append, List.mem_singleton, hU x]; exact Or.comm)
    have hUn : U.length ≤ 60 := Nat.le_trans hUl HOK.out.len
    clear hU hUl hUC
    go_wp2_with fail
    have HSS : Hid (∀ Y, Below x1.heap.size x1 Y → (Y.cell? ⟨w.heap.size, 10, none⟩ = some (.int .i64 o.a) ∧ Y.cell? ⟨w.heap.size, 11, none⟩ = some (.int .i64 o.b))) := Lib.hid (fun Y hY => by
      have hqa := (HZB.out Y (Kept.ofBelow (nb_trans HX1.out hY))).1
      exact ⟨(cell_of_row _ _ _ _ _ _ hqa).trans rfl, (cell_of_row _ _ _ _ _ _ hqa).trans rfl⟩)
    clear c0 c12 c13 c14 c15 n0 n1 z0 z1 fz hlz
    go_region_held3 (fun x => (x.cell? ⟨w.heap.size, 10, none⟩ = some (.int .i64 o.a) ∧ x.cell? ⟨w.heap.size, 11, none⟩ = some (.int .i64 o.b))) (first | go_keep | exact HSS.out _ Bn1.out | exact HSS.out _ HB1a.out | exact HSS.out _ HB2c.out) (first
      | ((go_at_call 46; (first | with_reducible refine (HUC.out x1.drew HX1.out.drew).mono ?_ | with_reducible refine (HUC.out (x1.alloc (.cells #[.int .i64 o.a, .int .i64 o.b] 43)).drew (nb_alloc HX1.out _).drew).mono ?_); rintro e y1 ⟨v1, rfl, ho, hb⟩; have Bn1 : Hid (Below x1.heap.size x1 y1) := Lib.hid (by first | exact nb_trans (Below.refl _ x1).drew hb | exact nb_trans (nb_alloc (Below.refl _ x1) (.cells #[.int .i64 o.a, .int .i64 o.b] 43)).drew hb); have HO1b := Lib.hid (ho.weaken (B := x1.heap.size) (by simp)); have HO1a := Lib.hid (HO1b.out.later (nb_alloc (Below.refl _ _) (.cells #[.int .i64 o.a, .int .i64 o.b] 43))); have HB1a : Hid (Below x1.heap.size x1 (y1.alloc (.cells #[.int .i64 o.a, .int .i64 o.b] 43))) := Lib.hid (nb_alloc Bn1.out _); (first | have HNb : Hid (y1.heap[x1.heap.size]? = some (.cells #[.int .i64 o.a, .int .i64 o.b] 43)) := Lib.hid (by rw [hb.block _ (by simp)]; exact heap_alloc_new x1 _) | skip); clear ho hb))
      | ((refine stepZ_append (by rfl) _ _ 76 (by rfl) x1.heap.size 43 i0 (.agg #[.int .i64 0, .int .i64 0]) 2 16 Tryz.underlying76 hi hz0 hz1 hz2 rfl (by decide) v1 U.length (U.flatMap elHand.enc) (by rfl) (by first | exact HO1a.out | exact HO1b.out) _ 1 1 [.int .i64 o.a, .int .i64 o.b] (by rfl) rfl (World.news_of_block (by first | exact heap_alloc_new _ _ | exact HNb.out)) (elHand.one (o.a, o.b)) (by unfold maxLen; omega) (by omega) (by first | exact HB1a.out.size | exact Bn1.out.size) ?_; intro v2 w2 hown hgr hnil; have HO2 : Hid (OwnsF elHand w2 x1.heap.size 43 v2 (U ++ [(o.a, o.b)])) := Lib.hid (OwnsF.snoc (x := (o.a, o.b)) hown); have HB2c : Hid (Below x1.heap.size x1 w2) := Lib.hid (by first | exact HB1a.out.grown hgr HB1a.out.size (fun j hj => HO1a.out.ge hj) | exact Bn1.out.grown hgr Bn1.out.size (fun j hj => HO1b.out.ge hj)); clear HO1a HO1b hown hgr hnil; obtain ⟨va, vc, hve, -⟩ := HO2.out.reads; subst hve)) | fail "none")
    all_goals
      as_aux_lemma =>
      have HXW : Hid (Below X.heap.size X w2) := Lib.hid (nb_trans HX1.out HB2c.out)
      have hlm : (U ++ [(o.a, o.b)]).length = U.length + 1 := by simp
      rw [hlm] at HO2 ⊢
      obtain ⟨K, hK⟩ : ∃ K, U ++ [(o.a, o.b)] = K := ⟨_, rfl⟩
      obtain ⟨m, hm⟩ : ∃ m, U.length = m := ⟨_, rfl⟩
      rw [hK] at HO2 HUK hlm
      rw [hm] at HO2 hlm hUn ⊢
      have HN := Lib.hid hlm
      clear hK hm hlm HUC HSS HB2c
      go_wp2
      go_loopw [90] (fun i wr => ∃ (t : Nat) (G' : Nat → Prop), t ≤ m + 1 ∧ i = .int .i64 t ∧ Hid (ZfAt wr q G' (killN s (K.take t))) ∧ Hid (Kept G w2 wr) ∧ Hid (Moves w2 G G')) (fun i _ => m + 1 - (intOf i).toNat)
      case atStart => exact ⟨0, G, by omega, rfl, Lib.hid (HZ.out.later HXW.out), Lib.hid (Kept.refl _ _), Lib.hid (Moves.refl _ _)⟩
      case round =>
        obtain ⟨t, G', htn, rfl, hZ, hK, hM⟩ := hrel
        have HGE : Hid (∀ b, X.heap.size ≤ b → ¬ G b) := Lib.hid (fun b hb e => by have := HLT.out _ e; have := HX.out.size; omega)
        by_cases hlt : t < m + 1
        · as_aux_lemma =>
          have hlt' : (t : Int) < (m : Int) + 1 := by omega
          have htl : t < K.length := by rw [HN.out]; exact hlt
          obtain ⟨bb, hbb, e0, e1, -⟩ := (HO2.out.kept hK.out (fun k e2 => HGE.out k (by have := HO2.out.ge e2; have := HX1.out.size; omega))).handCells htl
          subst hbb
          have HNX := Lib.hid (killN_next s htl)
          obtain ⟨y, hy⟩ : ∃ y, K.getD t (0, 0) = y := ⟨_, rfl⟩
          rw [hy] at e0 e1 HNX
          obtain ⟨y1, y2⟩ := y
          dsimp only at e0 e1
          obtain ⟨sx, hsx⟩ : ∃ sx, killN s (K.take t) = sx := ⟨_, rfl⟩
          have HSO : Hid (ZOk sx) := Lib.hid (by rw [← hsx]; exact HOK.out.killN _)
          rw [hsx] at hZ HNX
          clear hy hsx htl
          have hbl : bb < wr.heap.size := World.block_lt_of_cell? _ _ e0
          have HA : Hid (Below wr.heap.size wr (wr.alloc (.cells #[.int .i64 y1, .int .i64 y2] 43))) := Lib.hid (nb_alloc (Below.refl _ _) _)
          have HAB : Hid ((wr.alloc (.cells #[.int .i64 y1, .int .i64 y2] 43)).heap[wr.heap.size]? = some (.cells #[.int .i64 y1, .int .i64 y2] 43)) := Lib.hid (heap_alloc_new _ _)
          go_wp2_with fail
          generalize wr.alloc (.cells #[.int .i64 y1, .int .i64 y2] 43) = A at *
          refine (zfKill q G' sx y1 y2 _ (hZ.out.later HA.out) HSO.out).mono ?_
          rintro e w5 ⟨rfl, G5, hz5, hk5, hm5⟩
          have HLG : Hid (∀ b, G' b → b < wr.heap.size) := Lib.hid hZ.out.lt
          have hab : w5.heap[wr.heap.size]? = some (.cells #[.int .i64 y1, .int .i64 y2] 43) := (hk5.block _ (Array.getElem?_eq_some_iff.1 HAB.out).1 (fun e => by have := HLG.out _ e; omega)).trans HAB.out
          have d0 : w5.cell? ⟨wr.heap.size, 0, none⟩ = some (.int .i64 y1) := (cell_of_row _ _ _ _ _ _ hab).trans rfl
          have d1 : w5.cell? ⟨wr.heap.size, 1, none⟩ = some (.int .i64 y2) := (cell_of_row _ _ _ _ _ _ hab).trans rfl
          have hl5 := (Array.getElem?_eq_some_iff.1 hab).1
          have HZ5 := Lib.hid hz5
          have HK5 : Hid (Kept G' wr w5) := Lib.hid ((Kept.ofBelow HA.out).trans hk5 (fun _ h => .inl h))
          have HM5 : Hid (Moves wr G' G5) := Lib.hid (fun b hb => (hm5 b hb).imp id (fun e => Nat.le_trans HA.out.size e))
          have HSB : Hid (sx.bs.length ≤ 60) := Lib.hid HSO.out.len
          clear hab hz5 hk5 hm5 e0 e1 hbl
          go_wp2_with fail
          refine (zfGone_len q G5 ⟨freeL sx.l y1 y2, killR sx.rows y1 y2, sx.bs⟩ y1 y2 _ HZ5.out HSB.out).mono ?_
          rintro e w6 ⟨rfl, G6, hz6, hk6, hm6⟩
          have HEND : Hid (ZfAt w6 q G6 (killN s (K.take (t + 1))) ∧ Kept G w2 w6 ∧ Moves w2 G G6) := Lib.hid ⟨by rw [HNX.out]; exact hz6, (hK.out.next hM.out HK5.out).next (hM.out.trans HM5.out hK.out.size) hk6, (hM.out.trans HM5.out hK.out.size).trans hm6 (Nat.le_trans hK.out.size HK5.out.size)⟩
          clear hz6 hk6 hm6 d0 d1 hl5
          go_wp2
          go_roundw
          case rel => exact ⟨t + 1, G6, by omega, by go_num, Lib.hid HEND.out.1, Lib.hid HEND.out.2.1, Lib.hid HEND.out.2.2⟩
          case measure => simp [intOf]; omega
        · as_aux_lemma =>
          obtain rfl : t = m + 1 := by omega
          have hkx : Kept G X wr := (Kept.ofBelow HXW.out).trans hK.out (fun _ h => .inl h)
          have hqn := (HZB.out wr hkx).2.2
          have n0 : wr.cell? ⟨w.heap.size + 1 + 1, 0, none⟩ = some (.int .i64 0) := (cell_of_row _ _ _ _ _ _ hqn).trans rfl
          have n1 : wr.cell? ⟨w.heap.size + 1 + 1, 1, none⟩ = some (.int .i64 0) := (cell_of_row _ _ _ _ _ _ hqn).trans rfl
          have hl3 := (Array.getElem?_eq_some_iff.1 hqn).1
          have hqz := (HZB.out wr hkx).2.1
          have z0 : wr.cell? ⟨w.heap.size + 1, 0, none⟩ = some (.int .i64 0) := (cell_of_row _ _ _ _ _ _ hqz).trans rfl
          have z1 : wr.cell? ⟨w.heap.size + 1, 1, none⟩ = some (.int .i64 0) := (cell_of_row _ _ _ _ _ _ hqz).trans rfl
          have fz : ∀ j, wr.frozen? ⟨w.heap.size + 1, j, none⟩ = false := fun j => frozen_of_row _ _ _ _ _ hqz
          have hl2 := (Array.getElem?_eq_some_iff.1 hqz).1
          have hst : killN s (K.take (m + 1)) = killZ s (o.a, o.b) := by rw [List.take_of_length_le (by rw [HN.out]; exact Nat.le_refl _)]; exact killN_killZ HUK.out
          have HP : Hid (ZfPost w2 q G (.int .i64 0) (killZ s (o.a, o.b)) (.returned (.int .i64 0)) wr) := Lib.hid ⟨rfl, G', by rw [← hst]; exact hZ.out, hK.out, hM.out⟩
          clear hkx hqn hqz hst
          go_wp2
          rw [HEE.out.1, HE.out.2.1, HEE.out.2]
          refine bodyPost_ret (v := .tuple #[.agg #[.int .i64 0, .int .i64 0], .int .i64 0]) (by simp [results, Tryz.results20, go_sem, z0, z1]) rfl (HP.out.fin (B := w.heap.size + 1) (nb_trans HX.out HXW.out) (by first | exact Kept.refl _ _ | exact rkept2 _ _ _ _) (by omega) (Nat.lt_of_lt_of_le hlb HXW.out.size) HLT.out)

end Go.Proofs.YtlaahlphfkadjaaGreat

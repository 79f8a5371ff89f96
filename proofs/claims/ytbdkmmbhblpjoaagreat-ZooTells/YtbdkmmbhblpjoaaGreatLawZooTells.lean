/- After any sequence of operations, Get, Rows and Parent return the results of the reference: the statement ZooTells. No condition. -/
import Derived.Test.YtbdkmmbhblpjoaaGreatGroundA
import Derived.Test.YtbdkmmbhblpjoaaGreatOpCells
import Derived.Test.YtbdkmmbhblpjoaaGreatBothZoo
import Derived.Test.YtbdkmmbhblpjoaaGreatRefDo
import Derived.Test.YtbdkmmbhblpjoaaGreatGroundF
import Derived.Test.YtbdkmmbhblpjoaaGreatPZooTell
import Derived.Test.YtbdkmmbhblpjoaaGreatZooRefTell
namespace Go.Proofs.YtbdkmmbhblpjoaaGreat
set_option maxRecDepth 8000
open Go.ChangeShapes Go.WideShapes Go.ChangeAt Go.RowKit
set_option linter.unusedVariables false

theorem newBlk (g : World) (o : Obj) : Hid (Below g.heap.size g (g.alloc o)) ∧ Hid ((g.alloc o).heap[g.heap.size]? = some o) := ⟨Lib.hid (nb_alloc (Below.refl _ _) _), Lib.hid (heap_alloc_new _ _)⟩
theorem oldBlk {g : World} {B : Nat} {o' : Obj} (o : Obj) (h : g.heap[B]? = some o') : (g.alloc o).heap[B]? = some o' := ((nb_alloc (Below.refl g.heap.size g) o).block _ (Array.getElem?_eq_some_iff.1 h).1).trans h

set_option maxRecDepth 100000 in
set_option maxHeartbeats 16000000 in
theorem zooTells_walk (u0 : Value) (z0 : List Opm) (j0 : ∀ x ∈ z0, OpOk x) (a1 b1 c1 : Int) (i1 : I64 a1) (j1 : I64 b1) (k1 : I64 c1) (a_2 b_2 : Int) (i2 : I64 a_2 ∧ I64 b_2) (w : World) (i0 : Reads elOp w u0 z0) :
    Calls Tryz.prog 5 #[u0, .agg #[.int .i64 a1, .int .i64 b1, .int .i64 c1], .agg #[.int .i64 a_2, .int .i64 b_2]] w fun e w' => e = .returned (.bool true) ∧ Below w.heap.size w w' := by
  have HJ := Lib.hid j0
  have HI1 : Hid (I64 a1) := Lib.hid i1
  have HAB : Hid (okH (a_2, b_2)) := Lib.hid i2
  obtain ⟨ua, uc, hue, hlc, hm, hcc⟩ := i0
  subst hue
  unfold maxLen at hm
  obtain ⟨n, hn⟩ : ∃ n, z0.length = n := ⟨_, rfl⟩
  have HN := Lib.hid hn
  rw [hn] at hlc hcc ⊢
  have hmn : n ≤ 9223372036854775807 := by omega
  have HCC := Lib.hid hcc
  have HX : Hid (Below w.heap.size w ((w.alloc (.cells #[.int .i64 a1, .int .i64 b1, .int .i64 c1] 54)).alloc (.cells #[.int .i64 a_2, .int .i64 b_2] 38))) := Lib.hid (nb_alloc (nb_alloc (Below.refl _ _) _) _)
  have HXQ : Hid (((w.alloc (.cells #[.int .i64 a1, .int .i64 b1, .int .i64 c1] 54)).alloc (.cells #[.int .i64 a_2, .int .i64 b_2] 38)).heap[w.heap.size]? = some (.cells #[.int .i64 a1, .int .i64 b1, .int .i64 c1] 54)) := Lib.hid (heap_alloc2_old _ _ _)
  have HXH : Hid (((w.alloc (.cells #[.int .i64 a1, .int .i64 b1, .int .i64 c1] 54)).alloc (.cells #[.int .i64 a_2, .int .i64 b_2] 38)).heap[w.heap.size + 1]? = some (.cells #[.int .i64 a_2, .int .i64 b_2] 38)) := Lib.hid (heap_alloc2_new _ _ _)
  clear j0 hn hcc i1 i2 j1 k1
  go_enter Tryz.func5, Tryz.ntmps5
  go_wp2_with fail
  generalize ((w.alloc (.cells #[.int .i64 a1, .int .i64 b1, .int .i64 c1] 54)).alloc (.cells #[.int .i64 a_2, .int .i64 b_2] 38)) = X at *
  refine (zooNew_any _).mono ?_
  rintro e w1 ⟨rfl, hw1⟩
  have HBT := Lib.hid (BothZ.start hw1)
  clear hw1
  go_wp2
  generalize hq : w1.heap.size = q at *
  clear hq
  generalize w1.alloc (.cells #[.slice none 0 0, .slice none 0 0, .slice none 0 0, .slice none 0 0] 33) = w2 at *
  go_loopw [34] (fun i wr => ∃ (t : Nat) (F G : Nat → Prop), t ≤ n ∧ i = .int .i64 t ∧ Hid (BothZ X wr X.heap.size q F G (doneZ (z0.take t)) (doneZ (z0.take t)))) (fun i _ => n - (intOf i).toNat)
  case atStart => exact ⟨0, _, _, by omega, rfl, HBT⟩
  case round =>
    obtain ⟨t, F, G, htn, rfl, hT⟩ := hrel
    by_cases hlt : t < n
    · as_aux_lemma =>
      obtain ⟨bb, off, rfl, hbb, hck⟩ := HCC.out t hlt
      obtain ⟨o, ho⟩ : ∃ o, z0.getD t opZ = o := ⟨_, rfl⟩
      have htl : t < z0.length := by rw [HN.out]; exact hlt
      have hcr : ∀ jj, jj < 16 → wr.cell? ⟨bb, off + t * 16 + jj, none⟩ = (elOp.enc o)[jj]? := fun jj hjj => by rw [(nb_trans HX.out hT.out.below).cell (p := ⟨bb, _, none⟩) hbb, ← ho]; exact hck jj hjj
      obtain ⟨c0, c1, c2, c3, c4, c5, c6, c7, c8, c9, c10, c11, c12, c13, c14, c15⟩ := opRow hcr
      have HTK : Hid (doneZ (z0.take (t + 1)) = doZ (doneZ (z0.take t)) o) := Lib.hid (by rw [take_snocD z0 t opZ htl, ho, doneZ_snoc])
      have HOP : Hid (OpOk o) := Lib.hid (HJ.out o (by rw [← ho]; exact memD htl))
      have HOK : Hid (ZOk (doneZ (z0.take t))) := Lib.hid (ZOk.done _)
      obtain ⟨s, hs⟩ : ∃ s, doneZ (z0.take t) = s := ⟨_, rfl⟩
      rw [hs] at hT HTK HOK
      obtain ⟨s5, hs5⟩ : ∃ s5, doZ s o = s5 := ⟨_, rfl⟩
      have HS5 : Hid (doZ s o = s5 ∧ ZOk s5) := Lib.hid ⟨hs5, by rw [← hs5]; exact HOK.out.step o⟩
      rw [hs5] at HTK
      obtain ⟨⟨h1, h2⟩, hh⟩ : ∃ x, doH s o = x := ⟨_, rfl⟩
      obtain ⟨de, hde⟩ : ∃ x, doE s o = x := ⟨_, rfl⟩
      have HHD : Hid (doH s o = (h1, h2) ∧ doE s o = de) := Lib.hid ⟨hh, hde⟩
      have hbw : bb < wr.heap.size := Nat.lt_of_lt_of_le hbb (nb_trans HX.out hT.out.below).size
      have HTA := Lib.hid (hT.out.later (nb_alloc (Below.refl _ _) (.cells #[.int .i64 o.d, .int .i64 o.m, .int .i64 (o.f 0), .int .i64 (o.f 1), .int .i64 (o.f 2), .int .i64 (o.f 3), .int .i64 (o.f 4), .int .i64 (o.f 5), .int .i64 (o.f 6), .int .i64 (o.f 7), .int .i64 o.a, .int .i64 o.b, .int .i64 o.ta, .int .i64 o.tb, .int .i64 o.k, .int .i64 o.n] 40)))
      have HXO : Hid ((wr.alloc (.cells #[.int .i64 o.d, .int .i64 o.m, .int .i64 (o.f 0), .int .i64 (o.f 1), .int .i64 (o.f 2), .int .i64 (o.f 3), .int .i64 (o.f 4), .int .i64 (o.f 5), .int .i64 (o.f 6), .int .i64 (o.f 7), .int .i64 o.a, .int .i64 o.b, .int .i64 o.ta, .int .i64 o.tb, .int .i64 o.k, .int .i64 o.n] 40)).heap[wr.heap.size]? = some (.cells #[.int .i64 o.d, .int .i64 o.m, .int .i64 (o.f 0), .int .i64 (o.f 1), .int .i64 (o.f 2), .int .i64 (o.f 3), .int .i64 (o.f 4), .int .i64 (o.f 5), .int .i64 (o.f 6), .int .i64 (o.f 7), .int .i64 o.a, .int .i64 o.b, .int .i64 o.ta, .int .i64 o.tb, .int .i64 o.k, .int .i64 o.n] 40)) := Lib.hid (heap_alloc_new _ _)
      have HNF : Hid (¬ F wr.heap.size ∧ ¬ G wr.heap.size) := Lib.hid ⟨fun e => by have := hT.out.pz.lt _ e; omega, fun e => by have := hT.out.zf.lt _ e; omega⟩
      clear hcr hck ho hs hs5 hh hde htl
      go_wp2_with fail
      generalize wr.alloc (.cells #[.int .i64 o.d, .int .i64 o.m, .int .i64 (o.f 0), .int .i64 (o.f 1), .int .i64 (o.f 2), .int .i64 (o.f 3), .int .i64 (o.f 4), .int .i64 (o.f 5), .int .i64 (o.f 6), .int .i64 (o.f 7), .int .i64 o.a, .int .i64 o.b, .int .i64 o.ta, .int .i64 o.tb, .int .i64 o.k, .int .i64 o.n] 40) = A at *
      clear c0 c1 c2 c3 c4 c5 c6 c7 c8 c9 c10 c11 c12 c13 c14 c15
      refine (zooDo_any X.heap.size F s o _ HTA.out.pz HOK.out HOP.out).mono ?_
      rintro e w5 hp
      rw [HHD.out.1, HHD.out.2, HS5.out.1] at hp
      obtain ⟨rfl, F5, hT5, hk5, hm5⟩ := HTA.out.turnP hp
      have HT5 := Lib.hid hT5
      have hq5 : w5.heap[wr.heap.size]? = some (.cells #[.int .i64 o.d, .int .i64 o.m, .int .i64 (o.f 0), .int .i64 (o.f 1), .int .i64 (o.f 2), .int .i64 (o.f 3), .int .i64 (o.f 4), .int .i64 (o.f 5), .int .i64 (o.f 6), .int .i64 (o.f 7), .int .i64 o.a, .int .i64 o.b, .int .i64 o.ta, .int .i64 o.tb, .int .i64 o.k, .int .i64 o.n] 40) := (hk5.block _ (Array.getElem?_eq_some_iff.1 HXO.out).1 HNF.out.1).trans HXO.out
      have HQ5 := Lib.hid hq5
      obtain ⟨m0, m1, m2, m3, m4, m5, m6, m7, m8, m9, m10, m11, m12, m13, m14, m15⟩ := opCells hq5
      have hlm := (Array.getElem?_eq_some_iff.1 hq5).1
      clear hp hT5 hk5 hm5 hq5
      go_wp2_with fail
      clear m0 m1 m2 m3 m4 m5 m6 m7 m8 m9 m10 m11 m12 m13 m14 m15
      refine (zfDo_any q G s o _ HT5.out.zf HOK.out).mono ?_
      rintro e w6 hp
      rw [HHD.out.1, HHD.out.2, HS5.out.1] at hp
      obtain ⟨rfl, G6, hT6, hk6, hm6⟩ := HT5.out.turnQ hp
      have HNX : Hid (BothZ X w6 X.heap.size q F5 G6 (doneZ (z0.take (t + 1))) (doneZ (z0.take (t + 1)))) := Lib.hid (by rw [HTK.out]; exact hT6)
      clear hp hT6 hk6 hm6
      go_wp2
      go_roundw
      case rel => exact ⟨t + 1, F5, G6, by omega, by go_num, HNX⟩
      case measure => simp [intOf]; omega
    · as_aux_lemma =>
      obtain rfl : n = t := by omega
      have HZE : Hid (doE (doneZ (z0.take n)) opZ = 1 ∧ doZ (doneZ (z0.take n)) opZ = doneZ (z0.take n) ∧ doH (doneZ (z0.take n)) opZ = (0, 0)) := Lib.hid (doE_none (.inl (by decide)))
      have HOK : Hid (ZOk (doneZ (z0.take n))) := Lib.hid (ZOk.done _)
      obtain ⟨s, hs⟩ : ∃ s, doneZ (z0.take n) = s := ⟨_, rfl⟩
      rw [hs] at hT HZE HOK
      clear hs

      have HUC : Hid (∀ Y, Below wr.heap.size wr Y → Calls Tryz.prog 16 #[.pointer (some ⟨q, 0, none⟩)] Y (HandsPost Y (allL s.l))) := Lib.hid (fun Y hY => by
        obtain ⟨G0, G1, vB, hz, -⟩ := (hT.out.later hY).zf.open
        obtain ⟨c, vL, hzi⟩ := hz.zoo
        exact refAll_any q _ _ _ s.l Y hzi.slots HOK.out.w.slots)
      have hUn : (allL s.l).length ≤ 60 := Nat.le_trans (allL_len s.l) HOK.out.w.slots.len
      have HKO : Hid (∀ y ∈ allL s.l ++ [(a_2, b_2)], okH y) := Lib.hid (fun y hy => by
        rcases List.mem_append.1 hy with h | h
        · exact HOK.out.okH (mem_allL.1 h)
        · rw [List.mem_singleton.1 h]; exact HAB.out)
      obtain ⟨i0', hi, hz0, hz1, hz2⟩ := info_parts infoHand
      have HSS : Hid (∀ Y, Below wr.heap.size wr Y → (Y.cell? ⟨w.heap.size + 1, 0, none⟩ = some (.int .i64 a_2) ∧ Y.cell? ⟨w.heap.size + 1, 1, none⟩ = some (.int .i64 b_2) ∧ w.heap.size + 1 < Y.heap.size)) := Lib.hid (fun Y hY => by
        have hqa : Y.heap[w.heap.size + 1]? = some (.cells #[.int .i64 a_2, .int .i64 b_2] 38) := ((nb_trans hT.out.below hY).block _ (Array.getElem?_eq_some_iff.1 HXH.out).1).trans HXH.out
        exact ⟨(cell_of_row _ _ _ _ _ _ hqa).trans rfl, (cell_of_row _ _ _ _ _ _ hqa).trans rfl, (Array.getElem?_eq_some_iff.1 hqa).1⟩)
      obtain ⟨c0, c1', hlc⟩ := HSS.out wr (Below.refl _ _)
      go_wp2_with fail
      go_region_held3 (fun x => (x.cell? ⟨w.heap.size + 1, 0, none⟩ = some (.int .i64 a_2) ∧ x.cell? ⟨w.heap.size + 1, 1, none⟩ = some (.int .i64 b_2))) (first | go_keep | exact ⟨(HSS.out _ Bn1.out).1, (HSS.out _ Bn1.out).2.1⟩ | exact ⟨(HSS.out _ HB1a.out).1, (HSS.out _ HB1a.out).2.1⟩ | exact ⟨(HSS.out _ HB2c.out).1, (HSS.out _ HB2c.out).2.1⟩) (first
        | ((go_at_call 16; (first | with_reducible refine (HUC.out wr.drew (Below.refl _ wr).drew).mono ?_ | with_reducible refine (HUC.out (wr.alloc (.cells #[.int .i64 a_2, .int .i64 b_2] 38)).drew (nb_alloc (Below.refl _ wr) _).drew).mono ?_); rintro e y1 ⟨v1, rfl, ho, hb⟩; have Bn1 : Hid (Below wr.heap.size wr y1) := Lib.hid (by first | exact nb_trans (Below.refl _ wr).drew hb | exact nb_trans (nb_alloc (Below.refl _ wr) (.cells #[.int .i64 a_2, .int .i64 b_2] 38)).drew hb); have HO1b := Lib.hid (ho.weaken (B := wr.heap.size) (by simp)); have HO1a := Lib.hid (HO1b.out.later (nb_alloc (Below.refl _ _) (.cells #[.int .i64 a_2, .int .i64 b_2] 38))); have HB1a : Hid (Below wr.heap.size wr (y1.alloc (.cells #[.int .i64 a_2, .int .i64 b_2] 38))) := Lib.hid (nb_alloc Bn1.out _); (first | have HNb : Hid (y1.heap[wr.heap.size]? = some (.cells #[.int .i64 a_2, .int .i64 b_2] 38)) := Lib.hid (by rw [hb.block _ (by simp)]; exact heap_alloc_new wr _) | skip); clear ho hb))
        | ((refine stepZ_append (by rfl) _ _ 55 (by rfl) wr.heap.size 38 i0' (.agg #[.int .i64 0, .int .i64 0]) 2 16 Tryz.underlying55 hi hz0 hz1 hz2 rfl (by decide) v1 (allL s.l).length ((allL s.l).flatMap elHand.enc) (by rfl) (by first | exact HO1a.out | exact HO1b.out) _ 1 1 [.int .i64 a_2, .int .i64 b_2] (by rfl) rfl (World.news_of_block (by first | exact heap_alloc_new _ _ | exact HNb.out)) (elHand.one (a_2, b_2)) (by unfold maxLen; omega) (by omega) (by first | exact HB1a.out.size | exact Bn1.out.size) ?_; intro v2 w3 hown hgr hnil; have HO3 : Hid (OwnsF elHand w3 wr.heap.size 38 v2 (allL s.l ++ [(a_2, b_2)])) := Lib.hid (OwnsF.snoc (x := (a_2, b_2)) hown); have HB2c : Hid (Below wr.heap.size wr w3) := Lib.hid (by first | exact HB1a.out.grown hgr HB1a.out.size (fun j hj => HO1a.out.ge hj) | exact Bn1.out.grown hgr Bn1.out.size (fun j hj => HO1b.out.ge hj)); clear HO1a HO1b hown hgr hnil; obtain ⟨va, vc, hve, -⟩ := HO3.out.reads; subst hve)) | fail "none")
      all_goals
        as_aux_lemma =>
        clear c0 c1' hlc HSS HUC
        have hlm : (allL s.l ++ [(a_2, b_2)]).length = (allL s.l).length + 1 := by simp
        have HBW : Hid (Below wr.heap.size wr w3) := HB2c
        rw [hlm] at HO3 ⊢
        obtain ⟨K, hK⟩ : ∃ K, allL s.l ++ [(a_2, b_2)] = K := ⟨_, rfl⟩
        obtain ⟨m2, hm2⟩ : ∃ m, (allL s.l).length = m := ⟨_, rfl⟩
        rw [hK] at HO3 HKO hlm
        rw [hm2] at HO3 hlm hUn ⊢
        have HN2 := Lib.hid hlm
        clear hK hm2 hlm HB2c
        generalize wr = wz at *
        go_wp2
        go_loopw [53] (fun i wx => ∃ t2 : Nat, t2 ≤ m2 + 1 ∧ i = .int .i64 t2 ∧ Hid (Below w3.heap.size w3 wx)) (fun i _ => m2 + 1 - (intOf i).toNat)
        case atStart => exact ⟨0, by omega, rfl, Lib.hid (Below.refl _ _)⟩
        case round =>
          obtain ⟨t2, ht2, rfl, hB3⟩ := hrel
          have HB := Lib.hid (nb_trans HBW.out hB3.out)
          by_cases hlt2 : t2 < m2 + 1
          · as_aux_lemma =>
            have hlt2' : (t2 : Int) < (m2 : Int) + 1 := by omega
            have htl : t2 < K.length := by rw [HN2.out]; exact hlt2
            obtain ⟨bb, hbb, e0, e1, hbl⟩ := (HO3.out.later hB3.out).handCells htl
            subst hbb
            have HYO := Lib.hid (HKO.out _ (memD (d := ((0, 0) : Hd)) htl))
            obtain ⟨y, hy⟩ : ∃ y, K.getD t2 (0, 0) = y := ⟨_, rfl⟩
            rw [hy] at e0 e1 HYO
            obtain ⟨y1, y2⟩ := y
            dsimp only at e0 e1
            clear hy htl
            obtain ⟨r, hr⟩ : ∃ r, getR s.rows y1 y2 = r := ⟨_, rfl⟩
            obtain ⟨x, hx⟩ : ∃ x, getE s.rows y1 y2 = x := ⟨_, rfl⟩
            have HRX : Hid (getR s.rows y1 y2 = r ∧ getE s.rows y1 y2 = x) := Lib.hid ⟨hr, hx⟩
            obtain ⟨dg, hdg⟩ : ∃ g, hasP s.bs (y1, y2) = g := ⟨_, rfl⟩
            obtain ⟨⟨d1, d2⟩, hdd⟩ : ∃ r, parB s.bs (y1, y2) = r := ⟨_, rfl⟩
            have HDX : Hid (parB s.bs (y1, y2) = (d1, d2) ∧ hasP s.bs (y1, y2) = dg) := Lib.hid ⟨hdd, hdg⟩
            have HR0 : Hid (Below wr.heap.size wr (wr.alloc (.cells #[.int .i64 y1, .int .i64 y2] 38))) := Lib.hid (nb_alloc (Below.refl _ _) _)
            have HY0 : Hid ((wr.alloc (.cells #[.int .i64 y1, .int .i64 y2] 38)).heap[wr.heap.size]? = some (.cells #[.int .i64 y1, .int .i64 y2] 38)) := Lib.hid (heap_alloc_new _ _)
            clear hr hx hdg hdd
            go_wp2_with fail
            generalize wr.alloc (.cells #[.int .i64 y1, .int .i64 y2] 38) = V0 at *
            clear e0 e1 hbl
            refine (zooGet_any X.heap.size F s y1 y2 r x _ (hT.out.later (nb_trans HB.out HR0.out)).pz HYO.out.1 HYO.out.2 HRX.out.1 HRX.out.2).mono ?_
            rintro e g1 ⟨rfl, hb⟩
            have HG1 := Lib.hid hb
            obtain ⟨HV1, HM1⟩ := newBlk g1 (.cells #[.int .i64 r.m, .int .i64 (r.f 0), .int .i64 (r.f 1), .int .i64 (r.f 2), .int .i64 (r.f 3), .int .i64 (r.f 4), .int .i64 (r.f 5), .int .i64 (r.f 6), .int .i64 (r.f 7)] 36)
            have hqy := (hb.block _ (Array.getElem?_eq_some_iff.1 HY0.out).1).trans HY0.out
            have HY1 := Lib.hid (oldBlk (.cells #[.int .i64 r.m, .int .i64 (r.f 0), .int .i64 (r.f 1), .int .i64 (r.f 2), .int .i64 (r.f 3), .int .i64 (r.f 4), .int .i64 (r.f 5), .int .i64 (r.f 6), .int .i64 (r.f 7)] 36) hqy)
            have HR1 := Lib.hid (nb_trans HR0.out (nb_trans hb HV1.out))
            have y0 : g1.cell? ⟨wr.heap.size, 0, none⟩ = some (.int .i64 y1) := (cell_of_row _ _ _ _ _ _ hqy).trans rfl
            have y0' : g1.cell? ⟨wr.heap.size, 1, none⟩ = some (.int .i64 y2) := (cell_of_row _ _ _ _ _ _ hqy).trans rfl
            have ly := (Array.getElem?_eq_some_iff.1 hqy).1
            clear hb hqy
            go_wp2_with fail
            generalize g1.alloc (.cells #[.int .i64 r.m, .int .i64 (r.f 0), .int .i64 (r.f 1), .int .i64 (r.f 2), .int .i64 (r.f 3), .int .i64 (r.f 4), .int .i64 (r.f 5), .int .i64 (r.f 6), .int .i64 (r.f 7)] 36) = V1 at *
            clear y0 y0' ly
            refine (zfGet q G s y1 y2 r x _ (hT.out.later (nb_trans HB.out HR1.out)).zf HRX.out.1 HRX.out.2).mono ?_
            rintro e g2 ⟨rfl, hb⟩
            have HG2 := Lib.hid hb
            obtain ⟨HV2, HM2⟩ := newBlk g2 (.cells #[.int .i64 r.m, .int .i64 (r.f 0), .int .i64 (r.f 1), .int .i64 (r.f 2), .int .i64 (r.f 3), .int .i64 (r.f 4), .int .i64 (r.f 5), .int .i64 (r.f 6), .int .i64 (r.f 7)] 36)
            have hqy := (hb.block _ (Array.getElem?_eq_some_iff.1 HY1.out).1).trans HY1.out
            have HY2 := Lib.hid (oldBlk (.cells #[.int .i64 r.m, .int .i64 (r.f 0), .int .i64 (r.f 1), .int .i64 (r.f 2), .int .i64 (r.f 3), .int .i64 (r.f 4), .int .i64 (r.f 5), .int .i64 (r.f 6), .int .i64 (r.f 7)] 36) hqy)
            have HR2 := Lib.hid (nb_trans HR1.out (nb_trans hb HV2.out))
            have y0 : g2.cell? ⟨wr.heap.size, 0, none⟩ = some (.int .i64 y1) := (cell_of_row _ _ _ _ _ _ hqy).trans rfl
            have y0' : g2.cell? ⟨wr.heap.size, 1, none⟩ = some (.int .i64 y2) := (cell_of_row _ _ _ _ _ _ hqy).trans rfl
            have ly := (Array.getElem?_eq_some_iff.1 hqy).1
            clear hb hqy
            go_wp2_with fail
            generalize g2.alloc (.cells #[.int .i64 r.m, .int .i64 (r.f 0), .int .i64 (r.f 1), .int .i64 (r.f 2), .int .i64 (r.f 3), .int .i64 (r.f 4), .int .i64 (r.f 5), .int .i64 (r.f 6), .int .i64 (r.f 7)] 36) = V2 at *
            clear y0 y0' ly
            refine (zooParent_any X.heap.size F s y1 y2 d1 d2 dg _ (hT.out.later (nb_trans HB.out HR2.out)).pz HOK.out HYO.out.1 HYO.out.2 HDX.out.1 HDX.out.2).mono ?_
            rintro e g3 ⟨rfl, hb⟩
            have HG3 := Lib.hid hb
            obtain ⟨HV3, HM3⟩ := newBlk g3 (.cells #[.int .i64 d1, .int .i64 d2] 38)
            have hqy := (hb.block _ (Array.getElem?_eq_some_iff.1 HY2.out).1).trans HY2.out
            have HY3 := Lib.hid (oldBlk (.cells #[.int .i64 d1, .int .i64 d2] 38) hqy)
            have HR3 := Lib.hid (nb_trans HR2.out (nb_trans hb HV3.out))
            have y0 : g3.cell? ⟨wr.heap.size, 0, none⟩ = some (.int .i64 y1) := (cell_of_row _ _ _ _ _ _ hqy).trans rfl
            have y0' : g3.cell? ⟨wr.heap.size, 1, none⟩ = some (.int .i64 y2) := (cell_of_row _ _ _ _ _ _ hqy).trans rfl
            have ly := (Array.getElem?_eq_some_iff.1 hqy).1
            clear hb hqy
            go_wp2_with fail
            generalize g3.alloc (.cells #[.int .i64 d1, .int .i64 d2] 38) = V3 at *
            clear y0 y0' ly
            refine (zfParent q G s y1 y2 d1 d2 dg _ (hT.out.later (nb_trans HB.out HR3.out)).zf HDX.out.1 HDX.out.2).mono ?_
            rintro e g4 ⟨rfl, hb⟩
            have hq1 := ((nb_trans (nb_trans HG2.out HV2.out) (nb_trans (nb_trans HG3.out HV3.out) hb)).block _ (Array.getElem?_eq_some_iff.1 HM1.out).1).trans HM1.out
            have hq2 := ((nb_trans (nb_trans HG3.out HV3.out) hb).block _ (Array.getElem?_eq_some_iff.1 HM2.out).1).trans HM2.out
            have hq3 := (hb.block _ (Array.getElem?_eq_some_iff.1 HM3.out).1).trans HM3.out
            have hl1 := (Array.getElem?_eq_some_iff.1 hq1).1
            have hl2 := (Array.getElem?_eq_some_iff.1 hq2).1
            have hl3 := (Array.getElem?_eq_some_iff.1 hq3).1
            have ka0 : g4.cell? ⟨g1.heap.size, 0, none⟩ = some (.int .i64 r.m) := by rw [cell_of_row _ _ _ _ _ _ hq1]; rfl
            have ka1 : g4.cell? ⟨g1.heap.size, 1, none⟩ = some (.int .i64 (r.f 0)) := by rw [cell_of_row _ _ _ _ _ _ hq1]; rfl
            have ka2 : g4.cell? ⟨g1.heap.size, 2, none⟩ = some (.int .i64 (r.f 1)) := by rw [cell_of_row _ _ _ _ _ _ hq1]; rfl
            have ka3 : g4.cell? ⟨g1.heap.size, 3, none⟩ = some (.int .i64 (r.f 2)) := by rw [cell_of_row _ _ _ _ _ _ hq1]; rfl
            have ka4 : g4.cell? ⟨g1.heap.size, 4, none⟩ = some (.int .i64 (r.f 3)) := by rw [cell_of_row _ _ _ _ _ _ hq1]; rfl
            have ka5 : g4.cell? ⟨g1.heap.size, 5, none⟩ = some (.int .i64 (r.f 4)) := by rw [cell_of_row _ _ _ _ _ _ hq1]; rfl
            have ka6 : g4.cell? ⟨g1.heap.size, 6, none⟩ = some (.int .i64 (r.f 5)) := by rw [cell_of_row _ _ _ _ _ _ hq1]; rfl
            have ka7 : g4.cell? ⟨g1.heap.size, 7, none⟩ = some (.int .i64 (r.f 6)) := by rw [cell_of_row _ _ _ _ _ _ hq1]; rfl
            have ka8 : g4.cell? ⟨g1.heap.size, 8, none⟩ = some (.int .i64 (r.f 7)) := by rw [cell_of_row _ _ _ _ _ _ hq1]; rfl
            have kb0 : g4.cell? ⟨g2.heap.size, 0, none⟩ = some (.int .i64 r.m) := by rw [cell_of_row _ _ _ _ _ _ hq2]; rfl
            have kb1 : g4.cell? ⟨g2.heap.size, 1, none⟩ = some (.int .i64 (r.f 0)) := by rw [cell_of_row _ _ _ _ _ _ hq2]; rfl
            have kb2 : g4.cell? ⟨g2.heap.size, 2, none⟩ = some (.int .i64 (r.f 1)) := by rw [cell_of_row _ _ _ _ _ _ hq2]; rfl
            have kb3 : g4.cell? ⟨g2.heap.size, 3, none⟩ = some (.int .i64 (r.f 2)) := by rw [cell_of_row _ _ _ _ _ _ hq2]; rfl
            have kb4 : g4.cell? ⟨g2.heap.size, 4, none⟩ = some (.int .i64 (r.f 3)) := by rw [cell_of_row _ _ _ _ _ _ hq2]; rfl
            have kb5 : g4.cell? ⟨g2.heap.size, 5, none⟩ = some (.int .i64 (r.f 4)) := by rw [cell_of_row _ _ _ _ _ _ hq2]; rfl
            have kb6 : g4.cell? ⟨g2.heap.size, 6, none⟩ = some (.int .i64 (r.f 5)) := by rw [cell_of_row _ _ _ _ _ _ hq2]; rfl
            have kb7 : g4.cell? ⟨g2.heap.size, 7, none⟩ = some (.int .i64 (r.f 6)) := by rw [cell_of_row _ _ _ _ _ _ hq2]; rfl
            have kb8 : g4.cell? ⟨g2.heap.size, 8, none⟩ = some (.int .i64 (r.f 7)) := by rw [cell_of_row _ _ _ _ _ _ hq2]; rfl
            have kc0 : g4.cell? ⟨g3.heap.size, 0, none⟩ = some (.int .i64 d1) := by rw [cell_of_row _ _ _ _ _ _ hq3]; rfl
            have kc1 : g4.cell? ⟨g3.heap.size, 1, none⟩ = some (.int .i64 d2) := by rw [cell_of_row _ _ _ _ _ _ hq3]; rfl
            have heq8 := eq8b_run r.f
            have hxx : (x != x) = false := by simp
            have hgg : (dg != dg) = false := by simp
            have f1 : (d1 == d1) = true := by simp
            have f2 : (d2 == d2) = true := by simp
            have f3 : (r.m == r.m) = true := by simp
            have HEND : Hid (Below w3.heap.size w3 (g4.alloc (.cells #[.int .i64 d1, .int .i64 d2] 38))) := Lib.hid (nb_trans hB3.out (nb_alloc (nb_trans HR3.out hb) _))
            clear hb hq1 hq2 hq3
            go_wp2
            go_roundw
            case rel => exact ⟨t2 + 1, by omega, by go_num, HEND⟩
            case measure => simp [intOf]; omega

          · as_aux_lemma =>
            obtain rfl : t2 = m2 + 1 := by omega
            have hqq : wr.heap[w.heap.size]? = some (.cells #[.int .i64 a1, .int .i64 b1, .int .i64 c1] 54) := ((nb_trans hT.out.below HB.out).block _ (Array.getElem?_eq_some_iff.1 HXQ.out).1).trans HXQ.out
            have q0 : wr.cell? ⟨w.heap.size, 0, none⟩ = some (.int .i64 a1) := (cell_of_row _ _ _ _ _ _ hqq).trans rfl
            have q1 : wr.cell? ⟨w.heap.size, 1, none⟩ = some (.int .i64 b1) := (cell_of_row _ _ _ _ _ _ hqq).trans rfl
            have q2 : wr.cell? ⟨w.heap.size, 2, none⟩ = some (.int .i64 c1) := (cell_of_row _ _ _ _ _ _ hqq).trans rfl
            have lq := (Array.getElem?_eq_some_iff.1 hqq).1
            have HQQ := Lib.hid hqq
            have HTW := Lib.hid (hT.out.later HB.out)
            clear hqq
            go_wp2_with fail
            refine (zooRows_any X.heap.size F s a1 b1 c1 _ HTW.out.pz HOK.out).mono ?_
            rintro e g1 ⟨v1, rfl, ho1, hb1⟩
            have hqq : g1.heap[w.heap.size]? = some (.cells #[.int .i64 a1, .int .i64 b1, .int .i64 c1] 54) := (hb1.block _ (Array.getElem?_eq_some_iff.1 HQQ.out).1).trans HQQ.out
            have q0' : g1.cell? ⟨w.heap.size, 0, none⟩ = some (.int .i64 a1) := (cell_of_row _ _ _ _ _ _ hqq).trans rfl
            have q1' : g1.cell? ⟨w.heap.size, 1, none⟩ = some (.int .i64 b1) := (cell_of_row _ _ _ _ _ _ hqq).trans rfl
            have q2' : g1.cell? ⟨w.heap.size, 2, none⟩ = some (.int .i64 c1) := (cell_of_row _ _ _ _ _ _ hqq).trans rfl
            have lq' := (Array.getElem?_eq_some_iff.1 hqq).1
            have HO1 := Lib.hid ho1
            have HB1 := Lib.hid hb1
            obtain ⟨qe, hqe⟩ : ∃ x, qErr a1 b1 c1 = x := ⟨_, rfl⟩
            have HQE := Lib.hid hqe
            rw [hqe]
            clear hqq q0 q1 q2 lq hb1 ho1 hqe
            go_wp2_with fail
            refine (zfRows q G s a1 b1 c1 _ (HTW.out.later HB1.out).zf HOK.out HI1.out).mono ?_
            rintro e g2 ⟨v2, rfl, ho2, hb2⟩
            rw [HQE.out]
            have HO2 := Lib.hid ho2
            have HB2 := Lib.hid hb2
            clear q0' q1' q2' lq' ho2 hb2
            go_wp2_with fail
            refine (zooDo_any X.heap.size F s opZ _ (HTW.out.later (nb_trans HB1.out HB2.out)).pz HOK.out ⟨⟨by decide, by decide⟩, ⟨by decide, by decide⟩, ⟨by decide, by decide⟩, ⟨by decide, by decide⟩⟩).mono ?_
            rintro e w9 hp
            rw [HZE.out.1, HZE.out.2.2] at hp
            obtain ⟨rfl, F9, hT9, hk9, -⟩ := (HTW.out.later (nb_trans HB1.out HB2.out)).turnP hp
            have HLF : Hid (∀ b, F b → b < wr.heap.size) := Lib.hid HTW.out.pz.lt
            have HRA : Hid (Reads elRow (w9.alloc (.cells #[.int .i64 0, .int .i64 0] 38)) v1 (rowsQ s.rows a1 b1 c1)) := Lib.hid (((HO1.out.later HB2.out).kept hk9 (fun k e e2 => by have := HLF.out k e2; have := HO1.out.ge e; omega)).reads.later (nb_alloc (Below.refl _ _) _))
            have HRB : Hid (Reads elRow (w9.alloc (.cells #[.int .i64 0, .int .i64 0] 38)) v2 (rowsQ s.rows a1 b1 c1)) := Lib.hid ((HO2.out.kept hk9 (fun k e e2 => by have := HLF.out k e2; have := HO2.out.ge e; have := HB1.out.size; omega)).reads.later (nb_alloc (Below.refl _ _) _))
            have HE9 : Hid (Below w.heap.size w (w9.alloc (.cells #[.int .i64 0, .int .i64 0] 38))) := Lib.hid (nb_trans HX.out (nb_alloc hT9.below _))
            clear hp hT9 hk9
            go_wp2_with fail
            refine (eqRow_same _ _ _ _ HRA.out HRB.out).mono ?_
            rintro e w10 ⟨rfl, hb10⟩
            have HEND := Lib.hid (nb_trans HE9.out hb10)
            have hqq : (qe == qe) = true := by simp
            clear hb10
            go_wp2
            go_ret
            exact ⟨rfl, HEND.out⟩

namespace zooTells
theorem own : ownKnob Tryz.prog.godebug = none := by kernel_rfl
theorem laidOut : laidOutB Tryz.prog = true := by kernel_rfl

set_option maxRecDepth 100000 in
set_option maxHeartbeats 4000000 in
theorem lifted (os : Os) (started : os.Started) (H : Type) (enc : TypeId × Value → H) :
    ReturnsInHanded {} Tryz.checked os 5 .any (Rows.zooTellsSpec.pre6 enc Tryz.prog Tryz.f5 Rows.zooTellsRow.domain false) (Rows.zooTellsSpec.post enc Tryz.prog Tryz.f5 false true false false) := by
  refine returnsInHanded_of_change (C := Tryz.checked) own started (by kernel_rfl) Tryz.func5
    (ChangeSpec.witness6 (enc := enc) (C := Tryz.checked) false ⟨#[], #[.slice none 0 0, .agg #[.int .i64 0, .int .i64 0, .int .i64 0], .agg #[.int .i64 0, .int .i64 0]], []⟩ 8 (by kernel_rfl) (by kernel_rfl) (by kernel_rfl) (by kernel_rfl)) ?_
  intro W base args ds gs before hval0 hW hcnd _
  have hval : ∀ (j : Nat) t v, Tryz.f5.params[j]? = some t → args[j]? = some v → Value.okWide Tryz.prog W .any base t v := hval0
  have hW' := hW
  obtain ⟨p, q, hA0, hV, rfl, hfz, hnd⟩ := hW
  have hA : DataW.TrodAll enc Tryz.prog W 0 (fun _ => true) true Tryz.f5.params.toList args.toList ds p := hA0
  rw [Tryz.params5] at hA hval
  obtain ⟨v0, vs0, d0, ds0, p0, q0, hargs, rfl, rfl, h0, r0⟩ := trodAll_cons hA
  obtain ⟨v1, vs1, d1, ds1, p1, q1, rfl, rfl, rfl, h1, r1⟩ := trodAll_cons r0
  obtain ⟨v2, vs2, d2, ds2, p2, q2, rfl, rfl, rfl, h2, r2⟩ := trodAll_cons r1
  obtain ⟨rfl, rfl, rfl⟩ := trodAll_nil r2
  obtain rfl : args = #[v0, v1, v2] := by cases args; simp_all
  obtain ⟨rfl, rfl⟩ := trodVars_none hV
  have k0' := h0
  have lt0 : ∀ x ∈ p0, x.block < W.heap.size := by obtain ⟨m, hm⟩ := h0; exact DataW.trod_lt m _ _ _ hm
  have k1' := h1
  have lt1 : ∀ x ∈ p1, x.block < W.heap.size := by obtain ⟨m, hm⟩ := h1; exact DataW.trod_lt m _ _ _ hm
  have k2' := h2
  have lt2 : ∀ x ∈ p2, x.block < W.heap.size := by obtain ⟨m, hm⟩ := h2; exact DataW.trod_lt m _ _ _ hm
  obtain ⟨z0, i0, j0⟩ : ∃ zs, Reads elOp W v0 zs ∧ ∀ x ∈ zs, OpOk x := by
    obtain ⟨a0, len0, cap0, rfl⟩ := okWide_slice Tryz.underlying22 (hval 0 22 v0 rfl rfl)
    exact Reads_ofP elOp OpOk Tryz.underlying22 (by kernel_rfl) op_dec h0
  obtain ⟨a1, b1, c1, rfl, i1, j1, k1⟩ : ∃ a b c : Int, v1 = .agg #[.int .i64 a, .int .i64 b, .int .i64 c] ∧ I64 a ∧ I64 b ∧ I64 c := by
    obtain ⟨c0, c1, c2, y0, y1, y2, m, rfl, _, _, hy0, hy1, hy2⟩ := Go.Joins.open_agg3 Tryz.underlying54 (by kernel_rfl) (show Tryz.prog.cellsOf 54 = 3 by kernel_rfl) (hval 1 54 v1 rfl rfl) h1
    obtain ⟨a, e0, _, wa⟩ := DataW.trod_int Tryz.underlying3 hy0
    obtain ⟨b, e1, _, wb⟩ := DataW.trod_int Tryz.underlying3 hy1
    obtain ⟨c, e2, _, wc⟩ := DataW.trod_int Tryz.underlying3 hy2
    simp at e0 e1 e2
    exact ⟨a, b, c, by rw [e0, e1, e2], I64_of wa, I64_of wb, I64_of wc⟩
  obtain ⟨a_2, b_2, rfl, i2⟩ : ∃ a_2 b_2 : Int, v2 = .agg #[.int .i64 a_2, .int .i64 b_2] ∧ (I64 a_2 ∧ I64 b_2) := by
    obtain ⟨zs, hl, rfl, hz⟩ := open_flat 3 2 Tryz.underlying38 (by kernel_rfl) (by kernel_rfl) (hval 2 38 v2 rfl rfl) h2
    obtain ⟨a_2, b_2, rfl⟩ := list2 hl
    exact ⟨a_2, b_2, rfl, hz a_2 (by simp), hz b_2 (by simp)⟩
  clear hA0 hval0
  refine (zooTells_walk v0 z0 j0 a1 b1 c1 i1 j1 k1 a_2 b_2 i2 W i0).mono fun e W' ⟨he, bel⟩ => ?_
  subst he
  exact ⟨_, rfl, _, _, _, [], _, [], hW', trodAll_mk1 (shut_bool Tryz.underlying4 _), (trodAll_cons_mk (Below.trod laidOut (by kernel_rfl) (of_decide_eq_true (by kernel_rfl)) k0' bel lt0) (trodAll_cons_mk (Below.trod laidOut (by kernel_rfl) (of_decide_eq_true (by kernel_rfl)) k1' bel lt1) (trodAll_cons_mk (Below.trod laidOut (by kernel_rfl) (of_decide_eq_true (by kernel_rfl)) k2' bel lt2) trodAll_mk0))), rfl, bel.frame _, fun h => by cases h⟩
end zooTells

theorem zooTells_proved : Rows.ZooTellsSaid :=
  OpenClaim.holds_of_wide 5 Tryz.f5 rfl rfl rfl rfl rfl rfl rfl ⟨rfl, rfl, rfl, rfl, rfl⟩ rfl rfl rfl rfl rfl (by kernel_rfl) Tryz.func5 (by kernel_rfl)
    (of_decide_eq_true (by kernel_rfl)) (by unfold Func.isWrapper; first | (rw [if_pos (by decide +kernel)]; kernel_rfl) | (rw [if_neg (by decide +kernel)]; exact ⟨rfl, rfl⟩))
    (fun os started H enc _ => zooTells.lifted os started H enc)

end Go.Proofs.YtbdkmmbhblpjoaaGreat

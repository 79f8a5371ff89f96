/- All of package zoo. -/
import Derived.Test.YtcmpaohefihijabGreatDoorPZooDo
import Derived.Test.YtcmpaohefihijabGreatDoorPZooRes
import Derived.Test.YtcmpaohefihijabGreatDoorPZooLoad
import Derived.Maps.AppendAt
namespace Go.Proofs.YtcmpaohefihijabGreatDoor
set_option maxRecDepth 8000
set_option maxRecDepth 8000
open Go.RowKit

theorem resE_zero {sp : List Hd} {o : Opm} (h : resE sp o = 0) : meantO sp o = some (resO sp o) := by
  unfold resE at h; unfold resO
  cases hm : meantO sp o
  · rw [hm] at h; cases h
  · rfl
theorem resE_bad {sp : List Hd} {o : Opm} (h : resE sp o ≠ 0) : meantO sp o = none ∧ resE sp o = 5 := by
  unfold resE at *
  cases hm : meantO sp o
  · exact ⟨rfl, rfl⟩
  · rw [hm] at h; exact absurd rfl h
theorem meantO_some {sp : List Hd} {o o' : Opm} (h : meantO sp o = some o') : ∃ x y, meantH sp (usesAt o) (o.a, o.b) = some x ∧ meantH sp (usesTo o) (o.ta, o.tb) = some y ∧ o' = withH o x y := by
  unfold meantO at h
  cases h1 : meantH sp (usesAt o) (o.a, o.b) with
  | none => rw [h1] at h; cases h
  | some x =>
    cases h2 : meantH sp (usesTo o) (o.ta, o.tb) with
    | none => rw [h1, h2] at h; cases h
    | some y => rw [h1, h2] at h; exact ⟨x, y, rfl, rfl, (Option.some.inj h).symm⟩
theorem meantH_ok {sp : List Hd} {is : Bool} {h x : Hd} (hs : ∀ y ∈ sp, okH y) (hh : okH h) (e : meantH sp is h = some x) : okH x := by
  unfold meantH at e
  split at e
  · exact hs x (List.mem_of_getElem? e)
  · cases e; exact hh
theorem meantO_ok {sp : List Hd} {o o' : Opm} (hs : ∀ y ∈ sp, okH y) (ho : OpOk o) (h : meantO sp o = some o') : OpOk o' ∧ o'.d = o.d := by
  obtain ⟨x, y, h1, h2, rfl⟩ := meantO_some h
  have g1 : okH (o.a, o.b) := ⟨ho.1, ho.2.1⟩
  have g2 : okH (o.ta, o.tb) := ⟨ho.2.2.1, ho.2.2.2⟩
  have hx := meantH_ok hs g1 h1
  have hy := meantH_ok hs g2 h2
  exact ⟨⟨hx.1, hx.2, hy.1, hy.2⟩, rfl⟩
theorem doH_ok {s : Zs} {o : Opm} (ok : ZOk s) (he : doE s o = 0) (hd : o.d = 1) : okH (doH s o) := by
  rw [doE, if_pos hd] at he
  rw [doH, if_pos hd]
  unfold spawnE at he
  unfold spawnH
  by_cases hb : bErr o.m [o.f 0, o.f 1, o.f 2, o.f 3, o.f 4, o.f 5, o.f 6, o.f 7] = 0
  · rw [if_pos hb] at he ⊢
    exact takeH_I64 ok.w.slots he
  · rw [if_neg hb] at he; exact absurd he hb
/-- the handles that a list has spawned fit 64 bits -/
theorem runA_ok {s : Zs} (ok : ZOk s) {os : List Opm} (hos : ∀ o ∈ os, OpOk o) : ∀ t, t ≤ os.length → okAll (s, []) os t → (∀ y ∈ (runA (s, []) (os.take t)).2, okH y) ∧ (runA (s, []) (os.take t)).2.length ≤ t
  | 0, _, _ => by simp [runA]
  | t + 1, ht, h => by
    obtain ⟨i1, i2⟩ := runA_ok ok hos t (by omega) (fun j hj => h j (by omega))
    have hz : ZOk (runA (s, []) (os.take t)).1 := ZOk.runA (x := (s, [])) ok
    have he := h t (by omega)
    rw [runA_next (o := os.getD t opZ) (s, []) (by omega) rfl]
    generalize runA (s, []) (os.take t) = x at *
    have hom : OpOk (os.getD t opZ) := hos _ (memD (by omega))
    generalize os.getD t opZ = o at *
    unfold errA at he
    unfold Go.Proofs.YtcmpaohefihijabGreatDoor.stepA
    cases hm : meantO x.2 o with
    | none => exact ⟨i1, by simp only; omega⟩
    | some o' =>
      rw [hm] at he
      simp only at he ⊢
      by_cases hd : o.d = 1
      · rw [if_pos hd]
        refine ⟨fun y hy => ?_, by rw [List.length_append]; simp; omega⟩
        rcases List.mem_append.1 hy with hy | hy
        · exact i1 y hy
        · rw [List.mem_singleton.1 hy]
          exact doH_ok hz he ((meantO_ok i1 hom hm).2.trans hd)
      · rw [if_neg hd]
        exact ⟨i1, by omega⟩

/-- The four cells of a zoo: a slice and three maps. -/
theorem PzIs.shape {w : World} {p : Nat} {F0 F1 : Nat → Prop} {u : Value × Value × Value} {vm : Value} {s : Zs} (h : PzIs w p F0 F1 u vm s) : ∃ a n c x y z, u = (.slice a n c, .map x, .map y) ∧ vm = .map z := by
  obtain ⟨c, tm, pm, ks, tb, tr, hk, pl, h2⟩ := h.wld
  obtain ⟨v, hpv, ho, -⟩ := h2.slots
  have he := h.fam.block.symm.trans hpv
  simp only [Option.some.injEq, Obj.cells.injEq, Array.mk.injEq, List.cons.injEq, and_true] at he
  obtain ⟨e1, e2, e3⟩ := he
  obtain ⟨sa, sc, hse, -⟩ := ho.reads
  obtain ⟨z, hz⟩ : ∃ z, vm = .map z := by
    rcases h.fam.map with ⟨e, _⟩ | ⟨b, _, _, e, _⟩
    · exact ⟨_, e⟩
    · exact ⟨_, e⟩
  obtain ⟨x, y, hx, hy⟩ : ∃ x y, tm = .map x ∧ pm = .map y := by
    rcases h2.maps with ⟨e, f, _⟩ | ⟨_, _, e, f, _⟩
    · exact ⟨_, _, e, f⟩
    · exact ⟨_, _, e, f⟩
  refine ⟨sa, s.l.length, sc, x, y, z, ?_, hz⟩
  rw [← hse, ← hx, ← hy, ← e1, ← e2, ← e3]
/-- What the rounds of All keep. -/
structure AllI (w : World) (q : Nat) (s : Zs) (os : List Opm) (t : Nat) (F : Nat → Prop) (u : Value) (wr : World) : Prop where
  zoo : PzAt wr q F (runA (s, []) (os.take t)).1
  sp : OwnsF elHand wr w.heap.size 34 u (runA (s, []) (os.take t)).2
  ok : okAll (s, []) os t
  ap : ∀ k, u.ownBlock = some k → ¬ F k
  ge : ∀ b, F b → w.heap.size ≤ b
  bel : Below w.heap.size w wr
theorem AllI.later {w wr W : World} {q : Nat} {s : Zs} {os : List Opm} {t : Nat} {F : Nat → Prop} {u : Value} (h : AllI w q s os t F u wr) (hb : Below wr.heap.size wr W) : AllI w q s os t F u W :=
  ⟨h.zoo.later hb, h.sp.later hb, h.ok, h.ap, h.ge, nb_trans h.bel hb⟩

set_option maxHeartbeats 4000000 in
theorem zooAll_any (p : Nat) (F : Nat → Prop) (s : Zs) (v : Value) (os : List Opm) (w : World) (h : PzAt w p F s) (ok : ZOk s) (hr : Reads elOp w v os) (hos : ∀ o ∈ os, OpOk o) :
    Calls Tryz.prog 13 #[.pointer (some ⟨p, 0, none⟩), v] w (PzPost w p F (.tuple #[.int .i64 (allN s os), .int .i64 (allE s os)]) (allZ s os)) := by
  obtain ⟨i0, hi, hz0, hz1, hz2⟩ := info_parts infoHand
  obtain ⟨oa, oc, rfl, hlc, hm, hcc⟩ := hr
  unfold maxLen at hm
  obtain ⟨n, hn⟩ : ∃ n, os.length = n := ⟨_, rfl⟩
  have HN := Lib.hid hn
  have HC := Lib.hid hcc
  have HZ := Lib.hid h
  have HOK := Lib.hid ok
  have HOS := Lib.hid hos
  have hplw := h.lt p h.at_
  rw [hn] at hlc HC ⊢
  clear hn hcc h ok hos
  by_cases h80 : n ≤ 80
  · have h80' : decide ((80 : Int) < (n : Int)) = false := by rw [decide_eq_false_iff_not]; omega
    have hsz0 := HOK.out.back
    obtain ⟨hb0, hbz⟩ := hsz0
    have HBK : Hid (zldE (gensL s.l) s.rows s.bs = 0 ∧ zldZ (gensL s.l) s.rows s.bs = s) := Lib.hid ⟨hb0, hbz⟩
    clear hb0 hbz
    go_enter Tryz.func13, Tryz.ntmps13
    go_wp2_with fail
    refine (zooState_any p F s _ HZ.out HOK.out).mono ?_
    rintro e w1 ⟨vg, vr, vb, rfl, hst, hb1⟩
    have HST := Lib.hid hst
    have HB1 := Lib.hid hb1
    clear hst hb1
    go_wp2_with fail
    refine (zooLoad_any _ _ _ (gensL s.l) s.rows s.bs _ (Ints.ofReads HST.out.g.reads) HST.out.r.reads HST.out.b.reads).mono ?_
    rintro e w2 ⟨u2, rfl, hb2, -, hgood⟩
    obtain ⟨q, F2, rfl, hz2', hF2⟩ := hgood HBK.out.1
    rw [HBK.out.2] at hz2'
    rw [HBK.out.1]
    have HB2 : Hid (Below w.heap.size w w2) := Lib.hid (nb_trans HB1.out hb2)
    have HI0 : Hid (AllI w q s os 0 F2 (.slice none 0 0) w2) := Lib.hid ⟨hz2', OwnsF.nil _ _ _ _, fun j hj => by omega, fun k e => by simp [Value.ownBlock] at e, fun b hb => Nat.le_trans HB1.out.size (hF2 b hb), HB2.out⟩
    clear hgood hz2' hF2 hb2 HST
    go_wp2
    go_loopw [8, 28] (fun u i wr => ∃ (t : Nat) (F : Nat → Prop), t ≤ n ∧ i = .int .i64 t ∧ Hid (AllI w q s os t F u wr)) (fun _ i _ => n - (intOf i).toNat)
    case atStart => exact ⟨0, _, by omega, rfl, HI0⟩
    case round =>
      obtain ⟨t, F', htn, rfl, hI⟩ := hrel
      by_cases hlt : t < n
      · obtain ⟨bb, off, rfl, hbb, hck⟩ := HC.out t hlt
        obtain ⟨o, ho⟩ : ∃ o, os.getD t opZ = o := ⟨_, rfl⟩
        have htl : t < os.length := by rw [HN.out]; exact hlt
        have hcr : ∀ jj, jj < 16 → wr.cell? ⟨bb, off + t * 16 + jj, none⟩ = (elOp.enc o)[jj]? := fun jj hjj => by rw [hI.out.bel.cell (p := ⟨bb, _, none⟩) hbb, ← ho]; exact hck jj hjj
        obtain ⟨c0, c1, c2, c3, c4, c5, c6, c7, c8, c9, c10, c11, c12, c13, c14, c15⟩ := opRow (O := off + t * 16) (o := o) hcr
        have HTL : Hid (t < os.length ∧ os.getD t opZ = o) := Lib.hid ⟨htl, ho⟩
        have HOP : Hid (OpOk o) := Lib.hid (HOS.out o (by rw [← ho]; exact memD htl))
        have HSP := Lib.hid (runA_ok HOK.out HOS.out t (by omega) hI.out.ok)
        have HZT : Hid (ZOk (runA (s, []) (os.take t)).1) := Lib.hid (ZOk.runA (x := (s, [])) HOK.out)
        have HNXT := Lib.hid (runA_next (s, []) htl ho)
        have HSTOP := Lib.hid (fun c => all_stop (s := s) (c := c) (by rw [HN.out]; exact h80) htl hI.out.ok ho)
        have HOKN := Lib.hid (okAll_next hI.out.ok ho)
        obtain ⟨x, hxe⟩ : ∃ x, runA (s, []) (os.take t) = x := ⟨_, rfl⟩
        have HXE := Lib.hid hxe
        obtain ⟨zs, sp⟩ := x
        have HI : Hid (PzAt wr q F' zs ∧ OwnsF elHand wr w.heap.size 34 u8 sp) := Lib.hid (by have h1 := hI.out.zoo; have h2 := hI.out.sp; rw [hxe] at h1 h2; exact ⟨h1, h2⟩)
        rw [hxe] at HSP HZT HNXT HSTOP HOKN
        have hbw : bb < wr.heap.size := Nat.lt_of_lt_of_le hbb hI.out.bel.size
        obtain ⟨sa, sc, hse, -⟩ := HI.out.2.reads
        have HA : Hid (Below wr.heap.size wr (wr.alloc (.cells #[.int .i64 o.d, .int .i64 o.m, .int .i64 (o.f 0), .int .i64 (o.f 1), .int .i64 (o.f 2), .int .i64 (o.f 3), .int .i64 (o.f 4), .int .i64 (o.f 5), .int .i64 (o.f 6), .int .i64 (o.f 7), .int .i64 o.a, .int .i64 o.b, .int .i64 o.ta, .int .i64 o.tb, .int .i64 o.k, .int .i64 o.n] 53))) := Lib.hid (nb_alloc (Below.refl _ _) _)
        clear hcr hck ho htl hxe
        subst hse
        have HOB : Hid (∀ k, (Value.slice sa sp.length sc).ownBlock = some k → k < wr.heap.size) := Lib.hid (fun k e => HI.out.2.lt e)
        have HLTF : Hid (∀ b, F' b → b < wr.heap.size) := Lib.hid hI.out.zoo.lt
        go_wp2_with fail
        generalize wr.alloc (.cells #[.int .i64 o.d, .int .i64 o.m, .int .i64 (o.f 0), .int .i64 (o.f 1), .int .i64 (o.f 2), .int .i64 (o.f 3), .int .i64 (o.f 4), .int .i64 (o.f 5), .int .i64 (o.f 6), .int .i64 (o.f 7), .int .i64 o.a, .int .i64 o.b, .int .i64 o.ta, .int .i64 o.tb, .int .i64 o.k, .int .i64 o.n] 53) = A at *
        clear c0 c1 c2 c3 c4 c5 c6 c7 c8 c9 c10 c11 c12 c13 c14 c15
        refine (resolve_any _ sp o _ (HI.out.2.reads.later HA.out) (by have : sp.length ≤ t := HSP.out.2; omega)).mono ?_
        rintro e w3 ⟨o2, ho2, rfl, hb3⟩
        have HO2 := Lib.hid ho2
        have HB3 : Hid (Below wr.heap.size wr w3) := Lib.hid (nb_trans HA.out hb3)
        obtain ⟨re, hre⟩ : ∃ x, resE sp o = x := ⟨_, rfl⟩
        rw [hre]
        clear ho2 hb3 HA
        have HBA : Hid (Below w.heap.size w (w3.alloc (.cells #[.int .i64 o2.d, .int .i64 o2.m, .int .i64 (o2.f 0), .int .i64 (o2.f 1), .int .i64 (o2.f 2), .int .i64 (o2.f 3), .int .i64 (o2.f 4), .int .i64 (o2.f 5), .int .i64 (o2.f 6), .int .i64 (o2.f 7), .int .i64 o2.a, .int .i64 o2.b, .int .i64 o2.ta, .int .i64 o2.tb, .int .i64 o2.k, .int .i64 o2.n] 53))) := Lib.hid (nb_alloc (nb_trans hI.out.bel HB3.out) _)
        by_cases hr0 : re = 0
        · as_aux_lemma =>
          subst hr0
          have hmo : meantO sp o = some o2 := by rw [HO2.out]; exact resE_zero hre
          have HOK2 := Lib.hid (meantO_ok HSP.out.1 HOP.out hmo)
          have HERR : Hid (errA (zs, sp) o = doE zs o2) := Lib.hid (by rw [errA, hmo])
          have HSTEP : Hid (stepA (zs, sp) o = (doZ zs o2, if o.d = 1 then sp ++ [doH zs o2] else sp)) := Lib.hid (by rw [stepA, hmo])
          have HA4 : Hid (Below wr.heap.size wr (w3.alloc (.cells #[.int .i64 o2.d, .int .i64 o2.m, .int .i64 (o2.f 0), .int .i64 (o2.f 1), .int .i64 (o2.f 2), .int .i64 (o2.f 3), .int .i64 (o2.f 4), .int .i64 (o2.f 5), .int .i64 (o2.f 6), .int .i64 (o2.f 7), .int .i64 o2.a, .int .i64 o2.b, .int .i64 o2.ta, .int .i64 o2.tb, .int .i64 o2.k, .int .i64 o2.n] 53))) := Lib.hid (nb_alloc HB3.out _)
          have HBK4 : Hid ((w3.alloc (.cells #[.int .i64 o2.d, .int .i64 o2.m, .int .i64 (o2.f 0), .int .i64 (o2.f 1), .int .i64 (o2.f 2), .int .i64 (o2.f 3), .int .i64 (o2.f 4), .int .i64 (o2.f 5), .int .i64 (o2.f 6), .int .i64 (o2.f 7), .int .i64 o2.a, .int .i64 o2.b, .int .i64 o2.ta, .int .i64 o2.tb, .int .i64 o2.k, .int .i64 o2.n] 53)).heap[w3.heap.size]? = some (.cells #[.int .i64 o2.d, .int .i64 o2.m, .int .i64 (o2.f 0), .int .i64 (o2.f 1), .int .i64 (o2.f 2), .int .i64 (o2.f 3), .int .i64 (o2.f 4), .int .i64 (o2.f 5), .int .i64 (o2.f 6), .int .i64 (o2.f 7), .int .i64 o2.a, .int .i64 o2.b, .int .i64 o2.ta, .int .i64 o2.tb, .int .i64 o2.k, .int .i64 o2.n] 53)) := Lib.hid (heap_alloc_new _ _)
          clear hre hmo
          go_wp2_with fail
          generalize (w3.alloc (.cells #[.int .i64 o2.d, .int .i64 o2.m, .int .i64 (o2.f 0), .int .i64 (o2.f 1), .int .i64 (o2.f 2), .int .i64 (o2.f 3), .int .i64 (o2.f 4), .int .i64 (o2.f 5), .int .i64 (o2.f 6), .int .i64 (o2.f 7), .int .i64 o2.a, .int .i64 o2.b, .int .i64 o2.ta, .int .i64 o2.tb, .int .i64 o2.k, .int .i64 o2.n] 53)) = B at *
          refine (zooDo_any q F' zs o2 _ (HI.out.1.later HA4.out) HZT.out HOK2.out.1).mono ?_
          rintro e w5 hp
          obtain ⟨⟨h1, h2⟩, hh⟩ : ∃ x, doH zs o2 = x := ⟨_, rfl⟩
          obtain ⟨de, hde⟩ : ∃ x, doE zs o2 = x := ⟨_, rfl⟩
          rw [hh, hde] at hp
          have hkB : Kept F' B w5 := by obtain ⟨-, _, -, hk, -⟩ := hp; exact hk
          have hq5 : w5.heap[w3.heap.size]? = some (.cells #[.int .i64 o2.d, .int .i64 o2.m, .int .i64 (o2.f 0), .int .i64 (o2.f 1), .int .i64 (o2.f 2), .int .i64 (o2.f 3), .int .i64 (o2.f 4), .int .i64 (o2.f 5), .int .i64 (o2.f 6), .int .i64 (o2.f 7), .int .i64 o2.a, .int .i64 o2.b, .int .i64 o2.ta, .int .i64 o2.tb, .int .i64 o2.k, .int .i64 o2.n] 53) := (hkB.block _ (Array.getElem?_eq_some_iff.1 HBK4.out).1 (fun e => by have := HLTF.out _ e; have := HB3.out.size; omega)).trans HBK4.out
          have k0 : w5.cell? ⟨w3.heap.size, 0, none⟩ = some (.int .i64 o2.d) := (cell_of_row _ _ _ _ _ _ hq5).trans rfl
          have lk := (Array.getElem?_eq_some_iff.1 hq5).1
          have hp2 := hp.from HA4.out
          clear hp hkB hq5
          obtain ⟨rfl, F5, hz5, hk5, hm5⟩ := hp2
          have HBEL5 : Hid (Below w.heap.size w w5) := Lib.hid (hI.out.bel.trans (hk5.below hI.out.bel.size hI.out.ge))
          have HSP5 : Hid (OwnsF elHand w5 w.heap.size 34 (.slice sa sp.length sc) sp) := Lib.hid (HI.out.2.kept hk5 hI.out.ap)
          have HZ5 := Lib.hid hz5
          have HAP5 : Hid (∀ k, (Value.slice sa sp.length sc).ownBlock = some k → ¬ F5 k) := Lib.hid (fun k e hf => (hm5 k hf).elim (hI.out.ap k e) (fun e2 => by have := HOB.out k e; omega))
          have HGE5 : Hid (∀ b, F5 b → w.heap.size ≤ b) := Lib.hid (hm5.above hI.out.bel.size hI.out.ge)
          have hws := HBEL5.out.size
          have hspl : sp.length ≤ 80 := by have : sp.length ≤ t := HSP.out.2; omega
          have HD12 : Hid (o2.d = o.d) := Lib.hid HOK2.out.2
          have HH12 := Lib.hid hh
          clear hz5 hk5 hm5 hh HBK4 HA4
          by_cases hd0 : de = 0
          · as_aux_lemma =>
            subst hd0
            have HOKT : Hid (okAll (s, []) os (t + 1)) := Lib.hid (HOKN.out (by rw [HERR.out]; exact hde))
            clear hde
            cases hd1 : (o2.d == 1)
            · as_aux_lemma =>
              have HNX : Hid (AllI w q s os (t + 1) F5 (.slice sa sp.length sc) (w5.alloc (.cells #[.int .i64 h1, .int .i64 h2] 34))) := Lib.hid (by
                have hne : ¬ o.d = 1 := by rw [← HD12.out]; simpa using hd1
                have he : runA (s, []) (os.take (t + 1)) = (doZ zs o2, sp) := by rw [HNXT.out, HSTEP.out, if_neg hne]
                refine AllI.later (wr := w5) ⟨?_, ?_, HOKT.out, HAP5.out, HGE5.out, HBEL5.out⟩ (nb_alloc (Below.refl _ _) _)
                · rw [he]; exact HZ5.out
                · rw [he]; exact HSP5.out)
              go_wp2
              go_roundw
              case rel => exact ⟨t + 1, F5, by omega, by go_num, HNX⟩
              case measure => simp [intOf]; omega
            · as_aux_lemma =>
              go_wp2_with (first | (at_builtin; refine wpList_append_own_at _ rfl _ _ 86 rfl w.heap.size 34 i0 (.agg #[.int .i64 0, .int .i64 0]) 2 16 Tryz.underlying86 hi hz0 hz1 hz2 rfl (by decide) _ sp.length (sp.flatMap elHand.enc) rfl (World.ownsRow.alloc (World.ownsRow.alloc HSP5.out _) _) ⟨w5.heap.size + 1, 0, none⟩ 1 1 [.int .i64 h1, .int .i64 h2] rfl rfl (World.news_of_block (heap_alloc2_new _ _ _)) (elHand.one (h1, h2)) (by unfold maxLen; omega) (by omega) (by simp; omega) ?_))
              intro v' w7 hown hgr _ hat
              have HNX : Hid (AllI w q s os (t + 1) F5 v' w7) := Lib.hid (by
                have hye : o.d = 1 := by rw [← HD12.out]; simpa using hd1
                have he : runA (s, []) (os.take (t + 1)) = (doZ zs o2, sp ++ [(h1, h2)]) := by rw [HNXT.out, HSTEP.out, if_pos hye, HH12.out]
                have hk7 : Kept (fun k => (Value.slice sa sp.length sc).ownBlock = some k) w5 w7 := ((Kept.alloc _ w5 _).trans (Kept.alloc _ _ _) (fun _ h => .inl h)).trans (Kept.grown hgr (fun k e => e)) (fun _ h => .inl h)
                refine ⟨?_, ?_, HOKT.out, fun k e hf => ?_, HGE5.out, HBEL5.out.trans (hk7.below hws (fun k e => HSP5.out.ge e))⟩
                · rw [he]; exact HZ5.out.kept hk7 (fun b hb e => HAP5.out b e hb)
                · rw [he]; exact OwnsF.snoc (x := (h1, h2)) hown
                · rcases hat with e2 | e2
                  · exact HAP5.out k (e2.symm.trans e) hf
                  · rw [e2] at e
                    have := HZ5.out.lt k hf
                    simp at e
                    omega)
              clear hown hgr hat
              go_wp2
              go_roundw
              case rel => exact ⟨t + 1, F5, by omega, by go_num, HNX⟩
              case measure => simp [intOf]; omega
          · as_aux_lemma =>
            have HE : Hid (PzPost w p F (.tuple #[.int .i64 (allN s os), .int .i64 (allE s os)]) (allZ s os) (.returned (.tuple #[.int .i64 t, .int .i64 de])) (w5.alloc (.cells #[.int .i64 h1, .int .i64 h2] 34))) := Lib.hid (by
              obtain ⟨e1, e2, e3⟩ := HSTOP.out de (by rw [HERR.out]; exact hde) hd0
              rw [e1, e2, e3]
              exact PzPost.same HZ.out (nb_alloc HBEL5.out _))
            clear hde
            go_wp2
            go_ret2
            exact HE.out
        · as_aux_lemma =>
          have HE : Hid (PzPost w p F (.tuple #[.int .i64 (allN s os), .int .i64 (allE s os)]) (allZ s os) (.returned (.tuple #[.int .i64 t, .int .i64 re])) (w3.alloc (.cells #[.int .i64 o2.d, .int .i64 o2.m, .int .i64 (o2.f 0), .int .i64 (o2.f 1), .int .i64 (o2.f 2), .int .i64 (o2.f 3), .int .i64 (o2.f 4), .int .i64 (o2.f 5), .int .i64 (o2.f 6), .int .i64 (o2.f 7), .int .i64 o2.a, .int .i64 o2.b, .int .i64 o2.ta, .int .i64 o2.tb, .int .i64 o2.k, .int .i64 o2.n] 53))) := Lib.hid (by
            obtain ⟨g1, g2⟩ := resE_bad (sp := sp) (o := o) (by rw [hre]; exact hr0)
            obtain ⟨e1, e2, e3⟩ := HSTOP.out re (by rw [errA, g1, ← hre, g2]) hr0
            rw [e1, e2, e3]
            exact PzPost.same HZ.out HBA.out)
          clear hre
          go_wp2
          go_ret2
          exact HE.out
      · as_aux_lemma =>
        obtain rfl : n = t := by omega
        have htk : os.take n = os := List.take_of_length_le (by rw [HN.out]; exact Nat.le_refl _)
        obtain ⟨e1, e2, e3⟩ := all_end (s := s) (os := os) (by rw [HN.out]; exact h80) (by rw [HN.out]; exact hI.out.ok)
        have hzq := hI.out.zoo
        rw [htk] at hzq
        obtain ⟨G0, G1, ug, vm, hzi, hGe⟩ := hzq.open
        obtain ⟨ga, gn, gc, gx, gy, gz, rfl, rfl⟩ := hzi.shape
        obtain ⟨P0, P1, ⟨a0, a1, a2⟩, am, hpi, -⟩ := (HZ.out.later hI.out.bel).open
        have hqb := hzi.fam.block
        have hpb := hpi.fam.block
        have k0 : wr.cell? ⟨q, 0, none⟩ = some (.slice ga gn gc) := (cell_of_row _ _ _ _ _ _ hqb).trans rfl
        have k1 : wr.cell? ⟨q, 1, none⟩ = some (.map gx) := (cell_of_row _ _ _ _ _ _ hqb).trans rfl
        have k2 : wr.cell? ⟨q, 2, none⟩ = some (.map gy) := (cell_of_row _ _ _ _ _ _ hqb).trans rfl
        have k3 : wr.cell? ⟨q, 3, none⟩ = some (.map gz) := (cell_of_row _ _ _ _ _ _ hqb).trans rfl
        have m0 : wr.cell? ⟨p, 0, none⟩ = some a0 := (cell_of_row _ _ _ _ _ _ hpb).trans rfl
        have m1 : wr.cell? ⟨p, 1, none⟩ = some a1 := (cell_of_row _ _ _ _ _ _ hpb).trans rfl
        have m2 : wr.cell? ⟨p, 2, none⟩ = some a2 := (cell_of_row _ _ _ _ _ _ hpb).trans rfl
        have m3 : wr.cell? ⟨p, 3, none⟩ = some am := (cell_of_row _ _ _ _ _ _ hpb).trans rfl
        have fp : ∀ j, wr.frozen? ⟨p, j, none⟩ = false := fun j => frozen_of_row _ _ _ _ _ hpb
        have hql := (Array.getElem?_eq_some_iff.1 hqb).1
        have hplr := (Array.getElem?_eq_some_iff.1 hpb).1
        have hge : ∀ b, G0 b ∨ G1 b → w.heap.size ≤ b := fun b hb => hI.out.ge b (by rw [hGe]; exact hb)
        have HE : Hid (PzPost w p F (.tuple #[.int .i64 (allN s os), .int .i64 (allE s os)]) (allZ s os) (.returned (.tuple #[.int .i64 n, .int .i64 0])) ((((wr.setCell ⟨p, 0, none⟩ (.slice ga gn gc)).setCell ⟨p, 1, none⟩ (.map gx)).setCell ⟨p, 2, none⟩ (.map gy)).setCell ⟨p, 3, none⟩ (.map gz))) := Lib.hid (by
          have hk : Kept (fun b => b = p) wr ((((wr.setCell ⟨p, 0, none⟩ (.slice ga gn gc)).setCell ⟨p, 1, none⟩ (.map gx)).setCell ⟨p, 2, none⟩ (.map gy)).setCell ⟨p, 3, none⟩ (.map gz)) := (((Kept.setCell (F := fun b => b = p) wr (p := ⟨p, 0, none⟩) rfl _).trans (Kept.setCell (F := fun b => b = p) _ (p := ⟨p, 1, none⟩) rfl _) (fun _ h => .inl h)).trans (Kept.setCell (F := fun b => b = p) _ (p := ⟨p, 2, none⟩) rfl _) (fun _ h => .inl h)).trans (Kept.setCell (F := fun b => b = p) _ (p := ⟨p, 3, none⟩) rfl _) (fun _ h => .inl h)
          have hmv := hzi.moved (q := p) (Nat.lt_of_lt_of_le hplr hk.size) (fun e => by have := hge p (.inl e); omega) (fun e => by have := hge p (.inr e); omega) hk (fun c hc => by
            have := hqb.symm.trans hc
            cases this
            rw [heap_setCell_same _ _ _ _ _ _ (heap_setCell_same _ _ _ _ _ _ (heap_setCell_same _ _ _ _ _ _ (heap_setCell_same _ _ _ _ _ _ hpb)))]
            rfl)
          rw [e1, e2, e3, HN.out]
          refine ⟨rfl, _, hmv, (Kept.ofBelow hI.out.bel).trans hk (fun b e => .inl (by rw [e]; exact HZ.out.at_)), fun b hb => ?_⟩
          rcases hb with e | e
          · exact .inl (by rw [e]; exact HZ.out.at_)
          · exact .inr (hge b e.1))
        clear hqb hpb hzi hpi hge hGe hzq htk e1 e2 e3
        go_wp2
        go_ret2
        exact HE.out
  · have HL := Lib.hid (allE_large (s := s) (os := os) (by rw [HN.out]; exact h80))
    have h80' : decide ((80 : Int) < (n : Int)) = true := by rw [decide_eq_true_eq]; omega
    have HE : Hid (PzPost w p F (.tuple #[.int .i64 (allN s os), .int .i64 (allE s os)]) (allZ s os) (.returned (.tuple #[.int .i64 0, .int .i64 2])) w) := Lib.hid (by rw [HL.out.1, HL.out.2.1, HL.out.2.2]; exact PzPost.same HZ.out (Below.refl _ _))
    go_enter Tryz.func13, Tryz.ntmps13
    go_wp2
    go_ret2
    exact HE.out
end Go.Proofs.YtcmpaohefihijabGreatDoor

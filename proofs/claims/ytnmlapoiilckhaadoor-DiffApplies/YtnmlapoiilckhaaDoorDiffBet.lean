/- The contract of Between of package diff. -/
import Derived.Test.YtnmlapoiilckhaaDoorDiffRows
import Derived.Test.YtnmlapoiilckhaaDoorDiffLaws
import Derived.Test.YtnmlapoiilckhaaDoorDiffBetP
import Derived.Deep.CutRange
import Derived.Deep.MidRow
namespace Go.Proofs.YtnmlapoiilckhaaDoor
set_option maxRecDepth 8000
open Go.RowKit Go.Maps Go.ChangeMaps Go.Shelf

set_option maxHeartbeats 8000000 in
theorem between_any (u v : Value) (a b : List Ro) (w : World) (ha : Reads elRo w u a) (hb : Reads elRo w v b) (hv : DVars w) : Calls Tryd.prog 9 #[u, v] w (BetPost w a b) := by
  obtain ⟨i0, hi, hz0, hz1, hz2⟩ := info_parts infoCh
  have HA := Lib.hid ha
  have HB := Lib.hid hb
  have HV := Lib.hid hv
  obtain ⟨ua, ul, uc, hue⟩ : ∃ a k c, u = .slice a k c := by obtain ⟨a, c, e, _⟩ := ha; exact ⟨_, _, _, e⟩
  obtain ⟨va, vl, vc, hve⟩ : ∃ a k c, v = .slice a k c := by obtain ⟨a, c, e, _⟩ := hb; exact ⟨_, _, _, e⟩
  clear ha hb hv
  subst hue hve
  go_enter Tryd.func9, Tryd.ntmps9
  cases hva : valid a
  · as_aux_lemma =>
    have HP := Lib.hid (fun W => dvalid_any (.slice ua ul uc) a W)
    rw [hva] at HP
    have HE : Hid ((valid a && valid b) = false) := Lib.hid (by rw [hva]; rfl)
    clear hva
    go_wp2_with (go_at_call 17; refine (HP.out _ HA.out).mono ?_; rintro e w1 ⟨rfl, hb1⟩)
    go_ret2
    exact BetPost.no HE.out hb1
  · cases hvb : valid b
    · as_aux_lemma =>
      have HP := Lib.hid (fun W => dvalid_any (.slice ua ul uc) a W)
      have HP2 := Lib.hid (fun W => dvalid_any (.slice va vl vc) b W)
      rw [hva] at HP
      rw [hvb] at HP2
      have HE : Hid ((valid a && valid b) = false) := Lib.hid (by rw [hvb]; cases valid a <;> rfl)
      clear hva hvb
      go_wp2_with fail
      refine (HP.out _ HA.out).mono ?_
      rintro e w1 ⟨rfl, hb1⟩
      have HB1 := Lib.hid hb1
      clear hb1
      go_wp2_with fail
      refine (HP2.out _ (HB.out.later HB1.out)).mono ?_
      rintro e w2 ⟨rfl, hb2⟩
      have HB2 := Lib.hid (nb_trans HB1.out hb2)
      clear hb2
      go_wp2
      go_ret2
      exact BetPost.no HE.out HB2.out
    · have HP := Lib.hid (fun W => dvalid_any (.slice ua ul uc) a W)
      have HP2 := Lib.hid (fun W => dvalid_any (.slice va vl vc) b W)
      rw [hva] at HP
      rw [hvb] at HP2
      have HVA := Lib.hid hva
      have HVB := Lib.hid hvb
      clear hva hvb
      go_wp2_with fail
      refine (HP.out _ HA.out).mono ?_
      rintro e w1 ⟨rfl, hb1⟩
      have HB1 := Lib.hid hb1
      clear hb1
      go_wp2_with fail
      refine (HP2.out _ (HB.out.later HB1.out)).mono ?_
      rintro e w2 ⟨rfl, hb2⟩
      have HB2 := Lib.hid (nb_trans HB1.out hb2)
      clear hb2 HP HP2
      go_wp2_with fail
      refine (store_any _ a _ (HA.out.later HB2.out) HVA.out).mono ?_
      rintro e w3 ⟨rfl, hm3, hb3⟩
      have HM3 := Lib.hid hm3
      have HB3 := Lib.hid (nb_trans HB2.out hb3)
      clear hm3 hb3
      go_wp2_with fail
      refine (store_any _ b _ (HB.out.later HB3.out) HVB.out).mono ?_
      rintro e w4 ⟨rfl, hm4, hb4⟩
      have HM4 := Lib.hid hm4
      have HM34 := Lib.hid (HM3.out.later hb4)
      have HB4 := Lib.hid (nb_trans HB3.out hb4)
      have HL3 := Lib.hid HM3.out.lt
      clear hm4 hb4
      go_wp2_with fail
      refine (clone_any _ 60 _ _ HM34.out).mono ?_
      rintro e w5 ⟨rfl, hm5, hb5⟩
      have HM5 := Lib.hid hm5
      have HMA := Lib.hid (HM34.out.later hb5)
      have HMB := Lib.hid (HM4.out.later hb5)
      have HB5 := Lib.hid (nb_trans HB4.out hb5)
      have HL4 := Lib.hid HM4.out.lt
      clear hm5 hb5 HM3 HM34 HM4
      go_wp2_with fail
      refine (copyM_any _ _ 60 60 _ _ _ HM5.out HMB.out (by have := HL4.out; omega) (by decide)).mono ?_
      rintro e w6 ⟨rfl, hm6, hk6⟩
      obtain ⟨p, hp⟩ : ∃ p, w2.heap.size = p := ⟨_, rfl⟩
      obtain ⟨q9, hq9⟩ : ∃ q9, w3.heap.size = q9 := ⟨_, rfl⟩
      obtain ⟨r, hr⟩ : ∃ r, w4.heap.size = r := ⟨_, rfl⟩
      have hl3 := HL3.out
      have hl4 := HL4.out
      have hsz5 := HB5.out.size
      have hsz4 := HB4.out.size
      have HB6 : Hid (Below w.heap.size w w6) := Lib.hid (HB5.out.trans (hk6.below hsz5 (fun k e => by omega)))
      have HMA6 := Lib.hid (HMA.out.kept hk6 (by omega))
      have HMB6 := Lib.hid (HMB.out.kept hk6 (by omega))
      rw [hp] at HMA6 hl3 ⊢
      rw [hq9] at HMB6 hl4 hl3 ⊢
      rw [hr] at hm6 hl4 hsz4 ⊢
      obtain ⟨ks, f, hmi, hkn, hkp, -⟩ := hm6
      have HKS : Hid (∀ h, atB a h ≠ atB b h → h ∈ ks) := Lib.hid (fun h hne => (hkp h).2 (by
        show (if atB b h = noB then atB a h else atB b h) ≠ noB
        split
        · rename_i e; rw [e] at hne; exact hne
        · assumption))
      obtain ⟨nk, hnk⟩ : ∃ nk, ks.length = nk := ⟨_, rfl⟩
      have HNK := Lib.hid hnk
      rw [hnk] at hkn
      have HMI := Lib.hid hmi
      have HLP := Lib.hid HMA6.out.lt
      have HLQ := Lib.hid HMB6.out.lt
      have HLR := Lib.hid hmi.lt
      have HV6 := Lib.hid (HV.out.later HB6.out)
      have HSZ6 : Hid (w.heap.size ≤ w6.heap.size) := Lib.hid HB6.out.size
      clear hk6 hkp hnk hmi hp hq9 hr hl3 hl4 hsz5 hsz4 HL3 HL4 HB1 HB2 HB3 HB4 HB5 HMA HMB HM5 HA HB HV
      go_wp2_with (first | (at_range; refine wpList_range_is (K := kHand) _ rfl _ 46 rfl _ Tryd.underlying46 rfl HMI.out ?_))
      intro w7 hrg hb7 hsz7
      have HRG := Lib.hid hrg
      have HB7 := Lib.hid hb7
      have HS7 : Hid (w6.heap.size + 1 ≤ w7.heap.size) := Lib.hid (by omega)
      clear hrg hb7 hsz7
      go_wp2
      go_loopw [9] (fun v wr => ∃ (todo : List Hd) (cnt : Nat) (ys : List Ch), ys.length + cnt ≤ nk ∧ Hid (RangeIs kHand wr r w6.heap.size ks.length ks f todo cnt) ∧ Hid (GotC ks (atB a) (atB b) todo ys) ∧ Hid (OwnsF elCh wr (w6.heap.size + 1) 36 v ys) ∧ Hid (Below w6.heap.size w6 wr) ∧ Hid (w6.heap.size + 1 ≤ wr.heap.size)) (fun _ wr => wr.rangeLeft r w6.heap.size)
      case atStart => exact ⟨ks, ks.length, [], by rw [HNK.out]; simp, HRG, Lib.hid (GotC.start _ _ _), OwnsF.nil _ _ _ _, HB7, HS7⟩
      case round =>
        obtain ⟨todo, cnt, ys, hyc, hR, hG, hO, hB, hS⟩ := hrel
        go_wp2_with (first | (at_next; refine wpList_next_is (K := kHand) _ rfl _ rfl rfl hR.out ?_ ?_))
        case refine_1 =>
          as_aux_lemma =>
          rintro rfl
          clear HRG HB7 HS7
          go_wp2_with fail
          refine (sortChs_any _ _ ys _ hO.out (by omega)).mono ?_
          rintro e w9 ⟨rfl, zs, hp, hs, ho, hk9⟩
          have HEND := Lib.hid (BetPost.yes HVA.out HVB.out hG.out hp hs HKS.out ho (by have := HSZ6.out; omega) (HB6.out.trans (hB.out.mono HSZ6.out)) hk9)
          clear hp hs ho hk9
          go_wp2
          go_ret2
          exact HEND.out
        case refine_2 =>
          intro k1 k2 w8 cnt' hkt hkm hrg hlt hkp hsz8 hen
          obtain ⟨y, hy⟩ : ∃ y, atB a (k1, k2) = y := ⟨_, rfl⟩
          obtain ⟨z, hz⟩ : ∃ z, atB b (k1, k2) = z := ⟨_, rfl⟩
          have hgs := fun e => hG.out.skip (x := (k1, k2)) e
          have hgn := fun e => hG.out.next (x := (k1, k2)) hkt hkm e
          have hkok : kHand.ok (k1, k2) := HMI.out.okAt hkm
          have hga := fun W h1 h2 => get_any p 60 (atB a) k1 k2 W h1 hkok h2
          have hgb := fun W h1 h2 => get_any q9 60 (atB b) k1 k2 W h1 hkok h2
          rw [hy] at hgs hgn hga
          rw [hz] at hgs hgn hgb
          obtain ⟨m, a0, a1, a2, a3, a4, a5, a6, a7⟩ := y
          obtain ⟨q, b0, b1, b2, b3, b4, b5, b6, b7⟩ := z
          have hszw := hkp.size
          have hB8 : Below w6.heap.size w6 w8 := hB.out.trans (hkp.below hB.out.size (fun k e => by omega))
          have hO8 := hO.out.kept hkp (fun k e => by have := hO.out.ge e; omega)
          have HRG8 := Lib.hid hrg
          have HLT := Lib.hid hlt
          have HB8 := Lib.hid hB8
          have HO8 := Lib.hid hO8
          have HGS := Lib.hid hgs
          have HGN := Lib.hid hgn
          have HGA := Lib.hid hga
          have HGB := Lib.hid hgb
          have HS8 : Hid (w6.heap.size + 1 ≤ w8.heap.size) := Lib.hid (Nat.le_trans hS.out hszw)
          replace hen : (Instr.entry (.pointer (some ⟨w6.heap.size, 0, none⟩))).run Tryd.prog w8 = .ok (.tuple #[.agg #[.int .i64 k1, .int .i64 k2], f (k1, k2)]) w8 := hen
          have HX8 := Lib.hid (nb_alloc (Below.refl w8.heap.size w8) (.cells #[.int .i64 k1, .int .i64 k2] 28))
          have HXX : Hid ((w8.alloc (.cells #[.int .i64 k1, .int .i64 k2] 28)).heap[w8.heap.size]? = some (.cells #[.int .i64 k1, .int .i64 k2] 28)) := Lib.hid (heap_alloc_new _ _)
          generalize f (k1, k2) = fk at *
          simp only [show kHand.val (k1, k2) = .agg #[.int .i64 k1, .int .i64 k2] from rfl]
          clear hrg hlt hB8 hO8 hkt hkm hkp hsz8 hgs hgn hga hgb hy hz HRG HB7 HS7 hszw
          go_upto_region 10 with fail
          generalize w8.alloc (.cells #[.int .i64 k1, .int .i64 k2] 28) = X at *
          have hAl := (Array.getElem?_eq_some_iff.1 HXX.out).1
          have HSA : Hid (∀ Y, Below X.heap.size X Y → (Y.cell? ⟨w8.heap.size, 0, none⟩ = some (.int .i64 k1) ∧ Y.cell? ⟨w8.heap.size, 1, none⟩ = some (.int .i64 k2))) := Lib.hid (fun Y hY => by
            have hb : Y.heap[w8.heap.size]? = _ := (hY.block _ hAl).trans HXX.out
            exact ⟨by rw [cell_of_row _ _ _ _ _ _ hb]; rfl, by rw [cell_of_row _ _ _ _ _ _ hb]; rfl⟩)
          have HBX : Hid (Below w6.heap.size w6 X) := Lib.hid (nb_trans HB8.out HX8.out)
          have HYM : Hid (∀ Y, Below X.heap.size X Y → MapF Y p 60 (atB a) ∧ MapF Y q9 60 (atB b) ∧ DVars Y) := Lib.hid (fun Y hY => by
            have h6 := nb_trans HBX.out hY
            exact ⟨HMA6.out.later h6, HMB6.out.later h6, HV6.out.later h6⟩)
          have HGA2 : Hid (∀ Y, Below X.heap.size X Y → Calls Tryd.prog 21 #[.map (some p), .agg #[.int .i64 k1, .int .i64 k2]] Y fun e w' => e = .returned (beV (m, a0, a1, a2, a3, a4, a5, a6, a7)) ∧ Below Y.heap.size Y w') := Lib.hid (fun Y hY => HGA.out Y (HYM.out Y hY).1 (HYM.out Y hY).2.2)
          have HGB2 : Hid (∀ Y, Below X.heap.size X Y → Calls Tryd.prog 21 #[.map (some q9), .agg #[.int .i64 k1, .int .i64 k2]] Y fun e w' => e = .returned (beV (q, b0, b1, b2, b3, b4, b5, b6, b7)) ∧ Below Y.heap.size Y w') := Lib.hid (fun Y hY => HGB.out Y (HYM.out Y hY).2.1 (HYM.out Y hY).2.2)
          clear HGA HGB HYM
          go_cut [11] from 35 to 42 (fun c wx => ∃ blk, c = .pointer (some ⟨blk, 0, none⟩) ∧ Hid (Below X.heap.size X wx) ∧ Hid (X.heap.size ≤ blk) ∧ Hid (blk < wx.heap.size ∧ ∀ j, j < 20 → wx.cell? ⟨blk, j, none⟩ = #[.int .i64 k1, .int .i64 k2, .int .i64 m, .int .i64 a0, .int .i64 a1, .int .i64 a2, .int .i64 a3, .int .i64 a4, .int .i64 a5, .int .i64 a6, .int .i64 a7, .int .i64 q, .int .i64 b0, .int .i64 b1, .int .i64 b2, .int .i64 b3, .int .i64 b4, .int .i64 b5, .int .i64 b6, .int .i64 b7][j]?))
          case first =>
            have hS0 : (fun x : World => (x.cell? ⟨w8.heap.size, 0, none⟩ = some (.int .i64 k1) ∧ x.cell? ⟨w8.heap.size, 1, none⟩ = some (.int .i64 k2))) X.drew := HSA.out _ (Below.refl _ _).drew
            refine wp_region_noPanic (wp_region_till (fun x : World => (x.cell? ⟨w8.heap.size, 0, none⟩ = some (.int .i64 k1) ∧ x.cell? ⟨w8.heap.size, 1, none⟩ = some (.int .i64 k2))) 9 (by kernel_rfl) ?_)
            refine Till.take (i := 0) (v := ?_) [7] rfl (by kernel_rfl) (by kernel_rfl) (by kernel_rfl) (by kernel_rfl) (fun _ _ _ h => h) (Or.inl ⟨by rfl, ?_⟩) hS0 ?_
            rotate_left
            · (intro w hSw; (try dsimp only at hSw); go_simp; (try with_reducible rfl))
            try simp only [Act.put, di_t, di_0, di_s, List.getElem_toArray, List.getElem_cons_zero]
            refine Till.take (i := 1) (v := ?_) [3, 7] rfl (by kernel_rfl) (by kernel_rfl) (by kernel_rfl) (by kernel_rfl) (fun _ _ _ h => h) (Or.inl ⟨by rfl, ?_⟩) hS0 ?_
            rotate_left
            · (intro w hSw; (try dsimp only at hSw); go_simp; (try with_reducible rfl))
            try simp only [Act.put, di_t, di_0, di_s, List.getElem_toArray, List.getElem_cons_zero, List.getElem_cons_succ]
            refine Till.take (i := 2) (v := ?_) [3, 7] rfl (by kernel_rfl) (by kernel_rfl) (by kernel_rfl) (by kernel_rfl) (fun _ _ _ h => h) (Or.inl ⟨by rfl, ?_⟩) hS0 ?_
            rotate_left
            · (intro w hSw; (try dsimp only at hSw); go_simp; (try with_reducible rfl))
            try simp only [Act.put, di_t, di_0, di_s, List.getElem_toArray, List.getElem_cons_zero, List.getElem_cons_succ]
            refine Till.take (i := 4) (v := ?_) [6, 7] rfl (by kernel_rfl) (by kernel_rfl) (by kernel_rfl) (by kernel_rfl) (fun _ _ _ h => h) (Or.inl ⟨by rfl, ?_⟩) hS0 ?_
            rotate_left
            · (intro w hSw; (try dsimp only at hSw); go_simp; (try with_reducible rfl))
            try simp only [Act.put, di_t, di_0, di_s, List.getElem_toArray, List.getElem_cons_zero, List.getElem_cons_succ]
            refine Till.take (i := 5) (v := ?_) [6, 7] rfl (by kernel_rfl) (by kernel_rfl) (by kernel_rfl) (by kernel_rfl) (fun _ _ _ h => h) (Or.inl ⟨by rfl, ?_⟩) hS0 ?_
            rotate_left
            · (intro w hSw; (try dsimp only at hSw); go_simp; (try with_reducible rfl))
            try simp only [Act.put, di_t, di_0, di_s, List.getElem_toArray, List.getElem_cons_zero, List.getElem_cons_succ]
            refine Till.ready (rs := [3, 8]) (by kernel_rfl) (by simp) (TillAll.cons rfl (fun K hK => ?_) (TillAll.cons rfl (fun K hK => ?_) TillAll.nil))
            focus
              go_simp
              go_at_call 21
              refine (HGA2.out _ ((Below.refl _ _).drew)).mono ?_
              rintro e xa ⟨rfl, hb⟩
              have Ba : Hid (Below X.heap.size X xa) := Lib.hid (nb_trans ((Below.refl _ _).drew) hb)
              clear hb
              dsimp only
              refine hK.out _ _ (.inr (HSA.out _ Ba.out)) ?_
              clear hK K
              try simp only [Act.put, di_t, di_0, di_s, List.getElem_toArray, List.getElem_cons_zero, List.getElem_cons_succ]
              refine Till.ready (rs := [6, 8]) (by kernel_rfl) (by simp) (TillAll.cons rfl (fun K hK => ?_) (TillAll.cons rfl (fun K hK => ?_) TillAll.nil))
              focus
                go_simp
                go_at_call 21
                refine (HGB2.out _ (Ba.out)).mono ?_
                rintro e xb ⟨rfl, hb⟩
                have Bb : Hid (Below X.heap.size X xb) := Lib.hid (nb_trans (Ba.out) hb)
                clear hb
                dsimp only
                refine hK.out _ _ (.inr (HSA.out _ Bb.out)) ?_
                clear hK K
                try simp only [Act.put, di_t, di_0, di_s, List.getElem_toArray, List.getElem_cons_zero, List.getElem_cons_succ]
                refine Till.ready (rs := [7, 8]) (by kernel_rfl) (by simp) (TillAll.cons rfl (fun K hK => ?_) (TillAll.cons rfl (fun K hK => ?_) TillAll.nil))
                focus
                  go_simp
                  refine hK.out _ _ (.inr (HSA.out _ (Bb.out))) ?_
                  clear hK K
                  try simp only [Act.put, di_t, di_0, di_s, List.getElem_toArray, List.getElem_cons_zero, List.getElem_cons_succ]
                  refine Till.ready (rs := [8]) (by kernel_rfl) (by simp) (TillAll.cons rfl (fun K hK => ?_) TillAll.nil)
                  go_simp
                  refine hK.out _ _ (.inr (HSA.out _ (nb_alloc Bb.out _))) ?_
                  clear hK K
                  try simp only [Act.put, di_t, di_0, di_s, List.getElem_toArray, List.getElem_cons_zero, List.getElem_cons_succ]
                  refine Till.ready (rs := [9]) (by kernel_rfl) (by simp) (TillAll.cons rfl (fun K hK => ?_) TillAll.nil)
                  refine wp_store_mid' (by rfl) 36 _ _ (by rfl) (xb.heap.size) #[.int .i64 k1, .int .i64 k2, .int .i64 m, .int .i64 a0, .int .i64 a1, .int .i64 a2, .int .i64 a3, .int .i64 a4, .int .i64 a5, .int .i64 a6, .int .i64 a7, .int .i64 q, .int .i64 b0, .int .i64 b1, .int .i64 b2, .int .i64 b3, .int .i64 b4, .int .i64 b5, .int .i64 b6, .int .i64 b7] (by rfl) (by rfl) (heap_alloc_new _ _) (by rfl) (by kernel_rfl) (all_oneCell_toArray (elCh.one ((k1, k2), (m, a0, a1, a2, a3, a4, a5, a6, a7), q, b0, b1, b2, b3, b4, b5, b6, b7))) ?_
                  intro wz hbz hcz
                  refine hK.out _ _ (.inl rfl) ?_
                  clear hK K
                  try simp only [Act.put, List.getElem_toArray, List.getElem_cons_zero, List.getElem_cons_succ]
                  refine Till.done (by kernel_rfl) (NoPanic.normal ?_) _
                  go_wp2_with fail
                  go_meet
                  exact ⟨_, rfl, Lib.hid ((nb_alloc Bb.out _).trans (hbz.below (nb_alloc Bb.out _).size (fun k e => by rw [e]; exact Bb.out.size))), Lib.hid (Bb.out.size), Lib.hid hcz⟩
                focus
                  go_simp
                  refine hK.out _ _ (.inr (HSA.out _ (nb_alloc Bb.out _))) ?_
                  clear hK K
                  try simp only [Act.put, di_t, di_0, di_s, List.getElem_toArray, List.getElem_cons_zero, List.getElem_cons_succ]
                  refine Till.ready (rs := [7]) (by kernel_rfl) (by simp) (TillAll.cons rfl (fun K hK => ?_) TillAll.nil)
                  go_simp
                  refine hK.out _ _ (.inr (HSA.out _ (nb_alloc Bb.out _))) ?_
                  clear hK K
                  try simp only [Act.put, di_t, di_0, di_s, List.getElem_toArray, List.getElem_cons_zero, List.getElem_cons_succ]
                  refine Till.ready (rs := [9]) (by kernel_rfl) (by simp) (TillAll.cons rfl (fun K hK => ?_) TillAll.nil)
                  refine wp_store_mid' (by rfl) 36 _ _ (by rfl) (xb.heap.size) #[.int .i64 k1, .int .i64 k2, .int .i64 m, .int .i64 a0, .int .i64 a1, .int .i64 a2, .int .i64 a3, .int .i64 a4, .int .i64 a5, .int .i64 a6, .int .i64 a7, .int .i64 q, .int .i64 b0, .int .i64 b1, .int .i64 b2, .int .i64 b3, .int .i64 b4, .int .i64 b5, .int .i64 b6, .int .i64 b7] (by rfl) (by rfl) (heap_alloc_new _ _) (by rfl) (by kernel_rfl) (all_oneCell_toArray (elCh.one ((k1, k2), (m, a0, a1, a2, a3, a4, a5, a6, a7), q, b0, b1, b2, b3, b4, b5, b6, b7))) ?_
                  intro wz hbz hcz
                  refine hK.out _ _ (.inl rfl) ?_
                  clear hK K
                  try simp only [Act.put, List.getElem_toArray, List.getElem_cons_zero, List.getElem_cons_succ]
                  refine Till.done (by kernel_rfl) (NoPanic.normal ?_) _
                  go_wp2_with fail
                  go_meet
                  exact ⟨_, rfl, Lib.hid ((nb_alloc Bb.out _).trans (hbz.below (nb_alloc Bb.out _).size (fun k e => by rw [e]; exact Bb.out.size))), Lib.hid (Bb.out.size), Lib.hid hcz⟩
              focus
                go_simp
                refine hK.out _ _ (.inr (HSA.out _ (nb_alloc Ba.out _))) ?_
                clear hK K
                try simp only [Act.put, di_t, di_0, di_s, List.getElem_toArray, List.getElem_cons_zero, List.getElem_cons_succ]
                refine Till.ready (rs := [6]) (by kernel_rfl) (by simp) (TillAll.cons rfl (fun K hK => ?_) TillAll.nil)
                go_simp
                go_at_call 21
                refine (HGB2.out _ (nb_alloc Ba.out _)).mono ?_
                rintro e xb ⟨rfl, hb⟩
                have Bb : Hid (Below X.heap.size X xb) := Lib.hid (nb_trans (nb_alloc Ba.out _) hb)
                have HZ2 : Hid (xb.heap[xa.heap.size]? = some (.cells #[.int .i64 0, .int .i64 0, .int .i64 0, .int .i64 0, .int .i64 0, .int .i64 0, .int .i64 0, .int .i64 0, .int .i64 0, .int .i64 0, .int .i64 0, .int .i64 0, .int .i64 0, .int .i64 0, .int .i64 0, .int .i64 0, .int .i64 0, .int .i64 0, .int .i64 0, .int .i64 0] 36)) := Lib.hid ((hb.block _ (by simp)).trans (heap_alloc_new xa _))
                clear hb
                dsimp only
                refine hK.out _ _ (.inr (HSA.out _ Bb.out)) ?_
                clear hK K
                try simp only [Act.put, di_t, di_0, di_s, List.getElem_toArray, List.getElem_cons_zero, List.getElem_cons_succ]
                refine Till.ready (rs := [7]) (by kernel_rfl) (by simp) (TillAll.cons rfl (fun K hK => ?_) TillAll.nil)
                go_simp
                refine hK.out _ _ (.inr (HSA.out _ (Bb.out))) ?_
                clear hK K
                try simp only [Act.put, di_t, di_0, di_s, List.getElem_toArray, List.getElem_cons_zero, List.getElem_cons_succ]
                refine Till.ready (rs := [9]) (by kernel_rfl) (by simp) (TillAll.cons rfl (fun K hK => ?_) TillAll.nil)
                refine wp_store_mid' (by rfl) 36 _ _ (by rfl) (xa.heap.size) #[.int .i64 k1, .int .i64 k2, .int .i64 m, .int .i64 a0, .int .i64 a1, .int .i64 a2, .int .i64 a3, .int .i64 a4, .int .i64 a5, .int .i64 a6, .int .i64 a7, .int .i64 q, .int .i64 b0, .int .i64 b1, .int .i64 b2, .int .i64 b3, .int .i64 b4, .int .i64 b5, .int .i64 b6, .int .i64 b7] (by rfl) (by rfl) (HZ2.out) (by rfl) (by kernel_rfl) (all_oneCell_toArray (elCh.one ((k1, k2), (m, a0, a1, a2, a3, a4, a5, a6, a7), q, b0, b1, b2, b3, b4, b5, b6, b7))) ?_
                intro wz hbz hcz
                refine hK.out _ _ (.inl rfl) ?_
                clear hK K
                try simp only [Act.put, List.getElem_toArray, List.getElem_cons_zero, List.getElem_cons_succ]
                refine Till.done (by kernel_rfl) (NoPanic.normal ?_) _
                go_wp2_with fail
                go_meet
                exact ⟨_, rfl, Lib.hid ((Bb.out).trans (hbz.below (Bb.out).size (fun k e => by rw [e]; exact Ba.out.size))), Lib.hid (Ba.out.size), Lib.hid hcz⟩
            focus
              go_simp
              refine hK.out _ _ (.inr (HSA.out _ (nb_alloc (Below.refl _ _).drew _))) ?_
              clear hK K
              try simp only [Act.put, di_t, di_0, di_s, List.getElem_toArray, List.getElem_cons_zero, List.getElem_cons_succ]
              refine Till.ready (rs := [3]) (by kernel_rfl) (by simp) (TillAll.cons rfl (fun K hK => ?_) TillAll.nil)
              go_simp
              go_at_call 21
              refine (HGA2.out _ (by first | exact (nb_alloc (Below.refl _ _) _).drew | exact nb_alloc (Below.refl _ _).drew _)).mono ?_
              rintro e xa ⟨rfl, hb⟩
              have Ba : Hid (Below X.heap.size X xa) := Lib.hid (nb_trans (by first | exact (nb_alloc (Below.refl _ _) _).drew | exact nb_alloc (Below.refl _ _).drew _) hb)
              have HZ1 : Hid (xa.heap[X.heap.size]? = some (.cells #[.int .i64 0, .int .i64 0, .int .i64 0, .int .i64 0, .int .i64 0, .int .i64 0, .int .i64 0, .int .i64 0, .int .i64 0, .int .i64 0, .int .i64 0, .int .i64 0, .int .i64 0, .int .i64 0, .int .i64 0, .int .i64 0, .int .i64 0, .int .i64 0, .int .i64 0, .int .i64 0] 36)) := Lib.hid ((hb.block _ (by simp)).trans (heap_alloc_new X _))
              clear hb
              dsimp only
              refine hK.out _ _ (.inr (HSA.out _ Ba.out)) ?_
              clear hK K
              try simp only [Act.put, di_t, di_0, di_s, List.getElem_toArray, List.getElem_cons_zero, List.getElem_cons_succ]
              refine Till.ready (rs := [6]) (by kernel_rfl) (by simp) (TillAll.cons rfl (fun K hK => ?_) TillAll.nil)
              go_simp
              go_at_call 21
              refine (HGB2.out _ (Ba.out)).mono ?_
              rintro e xb ⟨rfl, hb⟩
              have Bb : Hid (Below X.heap.size X xb) := Lib.hid (nb_trans (Ba.out) hb)
              have HZ2 : Hid (xb.heap[X.heap.size]? = some (.cells #[.int .i64 0, .int .i64 0, .int .i64 0, .int .i64 0, .int .i64 0, .int .i64 0, .int .i64 0, .int .i64 0, .int .i64 0, .int .i64 0, .int .i64 0, .int .i64 0, .int .i64 0, .int .i64 0, .int .i64 0, .int .i64 0, .int .i64 0, .int .i64 0, .int .i64 0, .int .i64 0] 36)) := Lib.hid ((hb.block _ (Array.getElem?_eq_some_iff.1 HZ1.out).1).trans HZ1.out)
              clear hb
              dsimp only
              refine hK.out _ _ (.inr (HSA.out _ Bb.out)) ?_
              clear hK K
              try simp only [Act.put, di_t, di_0, di_s, List.getElem_toArray, List.getElem_cons_zero, List.getElem_cons_succ]
              refine Till.ready (rs := [7]) (by kernel_rfl) (by simp) (TillAll.cons rfl (fun K hK => ?_) TillAll.nil)
              go_simp
              refine hK.out _ _ (.inr (HSA.out _ (Bb.out))) ?_
              clear hK K
              try simp only [Act.put, di_t, di_0, di_s, List.getElem_toArray, List.getElem_cons_zero, List.getElem_cons_succ]
              refine Till.ready (rs := [9]) (by kernel_rfl) (by simp) (TillAll.cons rfl (fun K hK => ?_) TillAll.nil)
              refine wp_store_mid' (by rfl) 36 _ _ (by rfl) (X.heap.size) #[.int .i64 k1, .int .i64 k2, .int .i64 m, .int .i64 a0, .int .i64 a1, .int .i64 a2, .int .i64 a3, .int .i64 a4, .int .i64 a5, .int .i64 a6, .int .i64 a7, .int .i64 q, .int .i64 b0, .int .i64 b1, .int .i64 b2, .int .i64 b3, .int .i64 b4, .int .i64 b5, .int .i64 b6, .int .i64 b7] (by rfl) (by rfl) (HZ2.out) (by rfl) (by kernel_rfl) (all_oneCell_toArray (elCh.one ((k1, k2), (m, a0, a1, a2, a3, a4, a5, a6, a7), q, b0, b1, b2, b3, b4, b5, b6, b7))) ?_
              intro wz hbz hcz
              refine hK.out _ _ (.inl rfl) ?_
              clear hK K
              try simp only [Act.put, List.getElem_toArray, List.getElem_cons_zero, List.getElem_cons_succ]
              refine Till.done (by kernel_rfl) (NoPanic.normal ?_) _
              go_wp2_with fail
              go_meet
              exact ⟨_, rfl, Lib.hid ((Bb.out).trans (hbz.below (Bb.out).size (fun k e => by rw [e]; exact Nat.le_refl _))), Lib.hid (Nat.le_refl _), Lib.hid hcz⟩
          case rest =>
            obtain ⟨blk, rfl, hbx, hge, hcb⟩ := hcut
            have hb8 := nb_trans HX8.out hbx.out
            have HRC := Lib.hid (HRG8.out.later hb8)
            have HOC := Lib.hid (HO8.out.later hb8)
            have HBC := Lib.hid (nb_trans HBX.out hbx.out)
            have HSC : Hid (w6.heap.size + 1 ≤ wc.heap.size) := Lib.hid (Nat.le_trans HS8.out hb8.size)
            have hbl := hcb.out.1
            have HCB := Lib.hid hcb.out.2
            have hcl : ∀ j, j < 20 → wc.cell? ⟨blk, j, none⟩ = (elCh.enc ((k1, k2), (m, a0, a1, a2, a3, a4, a5, a6, a7), q, b0, b1, b2, b3, b4, b5, b6, b7))[j]? := fun j hj => (HCB.out j hj).trans (by simp [elCh])
            have hldC := ld_ch (b := blk) (o := 0) (c := ((k1, k2), (m, a0, a1, a2, a3, a4, a5, a6, a7), q, b0, b1, b2, b3, b4, b5, b6, b7)) (fun j hj => by rw [Nat.zero_add]; exact hcl j hj)
            have hldO := ld_old (c := ((k1, k2), (m, a0, a1, a2, a3, a4, a5, a6, a7), q, b0, b1, b2, b3, b4, b5, b6, b7)) hcl
            have hldN := ld_now (c := ((k1, k2), (m, a0, a1, a2, a3, a4, a5, a6, a7), q, b0, b1, b2, b3, b4, b5, b6, b7)) hcl
            have hbs := run_bsY ((k1, k2), (m, a0, a1, a2, a3, a4, a5, a6, a7), q, b0, b1, b2, b3, b4, b5, b6, b7) wc
            have hone := elCh.one ((k1, k2), (m, a0, a1, a2, a3, a4, a5, a6, a7), q, b0, b1, b2, b3, b4, b5, b6, b7)
            obtain ⟨Y, hY⟩ : ∃ Y, chV ((k1, k2), (m, a0, a1, a2, a3, a4, a5, a6, a7), q, b0, b1, b2, b3, b4, b5, b6, b7) = Y := ⟨_, rfl⟩
            have hqt := fun e => neBe (m, a0, a1, a2, a3, a4, a5, a6, a7) (q, b0, b1, b2, b3, b4, b5, b6, b7) true (decide_eq_true e)
            have hqf := fun e => neBe (m, a0, a1, a2, a3, a4, a5, a6, a7) (q, b0, b1, b2, b3, b4, b5, b6, b7) false (decide_eq_false e)
            dsimp only [beV] at hldO hldN hqt hqf
            rw [hY] at hldC hbs
            have HQT := Lib.hid hqt
            have HQF := Lib.hid hqf
            clear hb8 hbx hge hcb HRG8 HO8 HX8 HXX hAl HSA HGA2 HGB2 HB8 HS8 HBX hen HCB hY hqt hqf hcl
            by_cases e : ((m, a0, a1, a2, a3, a4, a5, a6, a7) : Be) = (q, b0, b1, b2, b3, b4, b5, b6, b7)
            · as_aux_lemma =>
              have hq := HQT.out e
              have HGE := Lib.hid (HGS.out e)
              clear e HGN HGS hbs hone HQT HQF
              go_wp2_with (first | refine wpList_ldY rfl 31 _ rfl _ rfl (.agg #[.int .i64 m, .int .i64 a0, .int .i64 a1, .int .i64 a2, .int .i64 a3, .int .i64 a4, .int .i64 a5, .int .i64 a6, .int .i64 a7]) hldO ?_ | refine wpList_ldY rfl 31 _ rfl _ rfl (.agg #[.int .i64 q, .int .i64 b0, .int .i64 b1, .int .i64 b2, .int .i64 b3, .int .i64 b4, .int .i64 b5, .int .i64 b6, .int .i64 b7]) hldN ?_)
              go_roundw
              case rel => exact ⟨_, cnt', ys, by have := HLT.out; exact Nat.le_trans (Nat.add_le_add_left (Nat.le_of_lt this) _) hyc, HRC, HGE, HOC, HBC, HSC⟩
              case measure => rw [HRC.out.left_eq, hR.out.left_eq]; exact HLT.out
            · have hq := HQF.out e
              have HGE := Lib.hid (HGN.out e)
              have HLC : Hid ((elCh.enc ((k1, k2), (m, a0, a1, a2, a3, a4, a5, a6, a7), q, b0, b1, b2, b3, b4, b5, b6, b7)).length = 20) := Lib.hid (elCh.len _)
              obtain ⟨CC, hCC⟩ : ∃ CC, ((k1, k2), (m, a0, a1, a2, a3, a4, a5, a6, a7), q, b0, b1, b2, b3, b4, b5, b6, b7) = CC := ⟨_, rfl⟩
              rw [hCC] at HGE hbs hone HLC
              clear e HGN HGS HQT HQF hCC
              go_wp2_with (first | refine wpList_ldY rfl 31 _ rfl _ rfl (.agg #[.int .i64 m, .int .i64 a0, .int .i64 a1, .int .i64 a2, .int .i64 a3, .int .i64 a4, .int .i64 a5, .int .i64 a6, .int .i64 a7]) hldO ?_ | refine wpList_ldY rfl 31 _ rfl _ rfl (.agg #[.int .i64 q, .int .i64 b0, .int .i64 b1, .int .i64 b2, .int .i64 b3, .int .i64 b4, .int .i64 b5, .int .i64 b6, .int .i64 b7]) hldN ?_ | refine wpList_ldY rfl 36 _ rfl _ rfl Y hldC ?_ | refine wpList_bsY rfl 23 _ rfl Y rfl hbs ?_ | (at_builtin; refine wpList_append_own _ rfl _ _ 23 rfl (w6.heap.size + 1) 36 i0 (chV chZ) 20 160 Tryd.underlying23 hi hz0 hz1 hz2 rfl (by decide) _ _ _ rfl (World.ownsRow.alloc HOC.out _) ⟨wc.heap.size, 0, none⟩ 1 1 (elCh.enc CC) rfl HLC.out ?d1 ?d2 ?d3 ?d4 ?d5 ?_))
              case d1 => exact World.news_of_block (heap_alloc_new _ _)
              case d2 => exact hone
              case d3 => unfold maxLen; omega
              case d4 => omega
              case d5 => have := HSC.out; simp; omega
              intro v' w9 hown hgr _
              have hF : ∀ k, u9.ownBlock = some k → w6.heap.size + 1 ≤ k := fun k e => HOC.out.ge e
              have HRN := Lib.hid ((HRC.out.later (nb_alloc (Below.refl _ _) _)).kept (F := fun q => u9.ownBlock = some q) (Kept.grown hgr (fun k e => e)) (fun e => by have := hF _ e; have := HLR.out; omega) (fun e => by have := hF _ e; omega))
              have HBN : Hid (Below w6.heap.size w6 w9) := Lib.hid ((nb_alloc HBC.out _).grown hgr (by have := HSC.out; simp; omega) (fun k e => by have := hF k e; omega))
              have HON : Hid (OwnsF elCh w9 (w6.heap.size + 1) 36 v' (ys ++ [CC])) := Lib.hid (OwnsF.snoc hown)
              have HSN : Hid (w6.heap.size + 1 ≤ w9.heap.size) := Lib.hid (by have := HSC.out; have := hgr.size; simp at this; omega)
              clear hown hgr hF
              go_wp2
              go_roundw
              case rel => exact ⟨_, cnt', ys ++ [CC], by have := HLT.out; simp; omega, HRN, HGE, HON, HBN, HSN⟩
              case measure => rw [HRN.out.left_eq, hR.out.left_eq]; exact HLT.out
end Go.Proofs.YtnmlapoiilckhaaDoor

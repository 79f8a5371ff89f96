/- The contract of the reference's Apply. -/
import Derived.Test.YtnmlapoiilckhaaDoorRefAppKit
import Derived.Test.YtnmlapoiilckhaaDoorRefDiffMay
import Derived.Test.YtnmlapoiilckhaaDoorDiffApply
import Derived.Deep.CutRange
import Derived.Deep.DeepCutAuto
namespace Go.Proofs.YtnmlapoiilckhaaDoor
set_option maxRecDepth 8000
open Go.RowKit
set_option linter.unusedSimpArgs false
set_option linter.unusedVariables false

set_option maxRecDepth 100000 in
set_option maxHeartbeats 8000000 in
theorem refApply_any (u v : Value) (l : List Ro) (c : List Ch) (w : World) (hl : Reads elRo w u l) (hc : Reads elCh w v c) : Calls Tryd.prog 13 #[u, v] w (RAppPost w l c) := by
  obtain ⟨i0, hi, hz0, hz1, hz2⟩ := info_parts infoRo
  have HL := Lib.hid hl
  obtain ⟨ua, ul, uc, hue⟩ : ∃ a k c, u = .slice a k c := by obtain ⟨a, c, e, _⟩ := hl; exact ⟨_, _, _, e⟩
  obtain ⟨va, vc, rfl, hlc, hm, hcc⟩ := hc
  unfold maxLen at hm
  obtain ⟨n, hn⟩ : ∃ n, c.length = n := ⟨_, rfl⟩
  have HN := Lib.hid hn
  rw [hn] at hlc hcc ⊢
  have HC := Lib.hid hcc
  clear hl hn hcc
  subst hue
  go_enter Tryd.func13, Tryd.ntmps13
  have HP := Lib.hid (fun (x : Value) (r : List Ro) W => rowsMay_any x r W)
  cases hva : valid l
  · as_aux_lemma =>
    have HP1 := Lib.hid (fun W => HP.out (.slice ua ul uc) l W)
    rw [hva] at HP1
    have HE : Hid (appE l c = 4) := Lib.hid (by rw [appE, hva]; rfl)
    clear hva
    go_wp2_with (go_at_call 25; refine (HP1.out _ HL.out).mono ?_; rintro e w1 ⟨rfl, hb1⟩)
    go_ret2
    exact RAppPost.no HE.out (by decide) hb1
  · have HP1 := Lib.hid (fun W => HP.out (.slice ua ul uc) l W)
    rw [hva] at HP1
    have HVA := Lib.hid hva
    clear hva
    by_cases h120 : n ≤ 120
    · have HVL := Lib.hid (valid_len HVA.out)
      go_wp2_with fail
      refine (HP1.out _ HL.out).mono ?_
      rintro e w1 ⟨rfl, hb1⟩
      have HB1 := Lib.hid hb1
      clear hb1 HP1
      have HL1 := Lib.hid (HL.out.later HB1.out)
      go_wp2
      go_loopw [0, 17] (fun x i wr => ∃ (k : Nat) (ml : List Ro), k ≤ n ∧ i = .int .i64 k ∧ Hid (AppI l c k ml) ∧ Hid (Reads elRo wr x ml) ∧ Hid (ml.length ≤ 60 + k) ∧ Hid (Below w.heap.size w wr)) (fun _ i _ => n - (intOf i).toNat)
      case atStart => exact ⟨0, l, by omega, rfl, Lib.hid (AppI.start c HVA.out), HL1, HVL, HB1⟩
      case round =>
        obtain ⟨k, ml, hk, rfl, hI, hR, hLN, hB⟩ := hrel
        obtain ⟨ra, rn, rc, hre⟩ : ∃ a k c, u0 = .slice a k c := by obtain ⟨a, c, e, _⟩ := hR.out; exact ⟨_, _, _, e⟩
        subst hre
        by_cases hkn : k < n
        · obtain ⟨bb, off, rfl, hbb, hck⟩ := HC.out k hkn
          have hkl : k < c.length := by rw [HN.out]; exact hkn
          have hcr : ∀ j, j < 20 → wr.cell? ⟨bb, off + k * 20 + j, none⟩ = (elCh.enc (c.getD k chZ))[j]? := fun j hj => by rw [hB.out.cell (p := ⟨bb, _, none⟩) hbb]; exact hck j hj
          have hnx := fun h0 => hI.out.next hkl h0
          have hst := fun h0 => hI.out.stop hkl h0 HVA.out (by rw [HN.out]; exact h120)
          obtain ⟨y, hy⟩ : ∃ y, c.getD k chZ = y := ⟨_, rfl⟩
          rw [hy] at hcr hnx hst
          have hbw : bb < wr.heap.size := Nat.lt_of_lt_of_le hbb hB.out.size
          have hld := ld_ch (c := y) hcr
          have hst2 := st_new y wr
          have HXA := Lib.hid (nb_alloc hB.out (.cells (elCh.enc y).toArray 36))
          have HBX := Lib.hid (heap_alloc_new wr (.cells (elCh.enc y).toArray 36))
          have HRX := Lib.hid (hR.out.later (nb_alloc (Below.refl wr.heap.size wr) (.cells (elCh.enc y).toArray 36)))
          have HNX0 := Lib.hid hnx
          have HST := Lib.hid hst
          obtain ⟨Y, hYe⟩ : ∃ Y, chV y = Y := ⟨_, rfl⟩
          obtain ⟨CS, hCS⟩ : ∃ CS, (elCh.enc y).toArray = CS := ⟨_, rfl⟩
          rw [hCS] at HXA HBX HRX hst2
          rw [hYe] at hld hst2
          have HCS := Lib.hid hCS
          have HIU := Lib.hid hI.out.ups
          clear hck hcr hnx hst hy hkl hYe hCS hI hR hB
          go_upto_region 8 with (first | refine wpList_ldY rfl 36 _ rfl _ rfl Y hld ?_ | refine wpList_stY rfl 36 _ _ rfl _ rfl Y rfl hst2 ?_ | fail)
          clear hld hst2 hbw
          obtain ⟨⟨s, g⟩, ⟨m, a0, a1, a2, a3, a4, a5, a6, a7⟩, h, b0, b1, b2, b3, b4, b5, b6, b7⟩ := y
          generalize wr.alloc (.cells CS 36) = X at *
          generalize wr.heap.size = p at *
          try dsimp only [Act.put]
          have HPL : Hid (p < X.heap.size) := Lib.hid (Array.getElem?_eq_some_iff.1 HBX.out).1
          have HCL : Hid (∀ W, Below X.heap.size X W → ∀ j, j < 20 → W.cell? ⟨p, j, none⟩ = (elCh.enc ((s, g), (m, a0, a1, a2, a3, a4, a5, a6, a7), (h, b0, b1, b2, b3, b4, b5, b6, b7)))[j]?) := Lib.hid (fun W hW j hj => by rw [cell_of_row _ _ _ _ _ _ ((hW.block _ HPL.out).trans HBX.out), ← HCS.out]; simp)
          have HBXW : Hid (∀ W, Below X.heap.size X W → W.heap[p]? = some (.cells (elCh.enc ((s, g), (m, a0, a1, a2, a3, a4, a5, a6, a7), (h, b0, b1, b2, b3, b4, b5, b6, b7))).toArray 36)) := Lib.hid (fun W hW => by rw [HCS.out]; exact (hW.block _ HPL.out).trans HBX.out)
          have hldO := ld_old (c := ((s, g), (m, a0, a1, a2, a3, a4, a5, a6, a7), (h, b0, b1, b2, b3, b4, b5, b6, b7))) (HCL.out X (Below.refl _ _))
          have hldN := ld_now (c := ((s, g), (m, a0, a1, a2, a3, a4, a5, a6, a7), (h, b0, b1, b2, b3, b4, b5, b6, b7))) (HCL.out X (Below.refl _ _))
          dsimp only [beV] at hldO hldN
          have HSB : Hid (∀ W, Below X.heap.size X W → (Instr.loadAt 28 (.pointer (some ⟨p, 0, none⟩))).run Tryd.prog W = .ok (.agg #[.int .i64 s, .int .i64 g]) W ∧ (Instr.loadAt 31 (.pointer (some ⟨p, 11, none⟩))).run Tryd.prog W = .ok (.agg #[.int .i64 h, .int .i64 b0, .int .i64 b1, .int .i64 b2, .int .i64 b3, .int .i64 b4, .int .i64 b5, .int .i64 b6, .int .i64 b7]) W) := Lib.hid (fun W hW => ⟨ld_all (cs := [.int .i64 s, .int .i64 g]) (fun j hj => by
            have hj' : j < 2 := hj
            rw [Nat.zero_add, HCL.out W hW j (by omega)]
            match j, hj' with
            | 0, _ => rfl
            | 1, _ => rfl) Tryd.underlying28 rfl (by kernel_rfl), ld_now (c := ((s, g), (m, a0, a1, a2, a3, a4, a5, a6, a7), (h, b0, b1, b2, b3, b4, b5, b6, b7))) (HCL.out W hW)⟩)
          clear HBX HCS
          by_cases e : ((m, a0, a1, a2, a3, a4, a5, a6, a7) : Be) = (h, b0, b1, b2, b3, b4, b5, b6, b7)
          · as_aux_lemma =>
            have hq := eqBe (m, a0, a1, a2, a3, a4, a5, a6, a7) (h, b0, b1, b2, b3, b4, b5, b6, b7) true (decide_eq_true e)
            dsimp only [beV] at hq
            have HE4 : Hid (appE l c = 4) := Lib.hid (by
              have hz : stepE ml ((s, g), (m, a0, a1, a2, a3, a4, a5, a6, a7), (h, b0, b1, b2, b3, b4, b5, b6, b7)) = 4 := by rw [stepE, if_pos e]
              rw [(HST.out (by rw [hz]; decide)).1, hz])
            clear e
            go_wp2_with (first | refine wpList_ldY rfl 31 _ rfl _ rfl _ hldO ?_ | refine wpList_ldY rfl 31 _ rfl _ rfl _ hldN ?_)
            go_ret2
            exact RAppPost.no HE4.out (by decide) HXA.out
          · have hq := eqBe (m, a0, a1, a2, a3, a4, a5, a6, a7) (h, b0, b1, b2, b3, b4, b5, b6, b7) false (decide_eq_false e)
            dsimp only [beV] at hq
            have HNE := Lib.hid e
            clear e
            go_upto_region 10 with (first | refine wpList_ldY rfl 31 _ rfl _ rfl _ hldO ?_ | refine wpList_ldY rfl 31 _ rfl _ rfl _ hldN ?_)
            clear hldO hldN hq
            have HBA := Lib.hid (fun W => beastAt_any (.slice ra rn rc) ml s g W)
            dsimp only [beV] at HBA
            by_cases e2 : atB ml (s, g) = (m, a0, a1, a2, a3, a4, a5, a6, a7)
            · rw [e2] at HBA
              dsimp only at HBA
              have HE2 := Lib.hid e2
              clear e2
              have hq := neBe (m, a0, a1, a2, a3, a4, a5, a6, a7) (m, a0, a1, a2, a3, a4, a5, a6, a7) true (decide_eq_true rfl)
              dsimp only [beV] at hq
              have HZ0 : Hid (stepE ml ((s, g), (m, a0, a1, a2, a3, a4, a5, a6, a7), (h, b0, b1, b2, b3, b4, b5, b6, b7)) = 0) := Lib.hid (by rw [stepE, if_neg HNE.out, if_pos HE2.out])
              have HNX := Lib.hid (HNX0.out HZ0.out)
              dsimp only at HNX
              have HLP : Hid ((putH ml (s, g) (h, b0, b1, b2, b3, b4, b5, b6, b7)).length ≤ 60 + (k + 1)) := Lib.hid (by have h1 := putH_len (l := ml) (s, g) (h, b0, b1, b2, b3, b4, b5, b6, b7); have := hLN.out; omega)
              clear HZ0 HNX0 HST HE2 HNE
              have kc0 : ∀ y : Later X, y.w.cell? ⟨p, 0, none⟩ = some (.int .i64 s) := fun y => HCL.out _ (nb_trans (Below.refl _ _) y.below) 0 (by decide)
              have kc1 : ∀ y : Later X, y.w.cell? ⟨p, 1, none⟩ = some (.int .i64 g) := fun y => HCL.out _ (nb_trans (Below.refl _ _) y.below) 1 (by decide)
              have kc2 : ∀ y : Later X, y.w.cell? ⟨p, 2, none⟩ = some (.int .i64 m) := fun y => HCL.out _ (nb_trans (Below.refl _ _) y.below) 2 (by decide)
              have kc3 : ∀ y : Later X, y.w.cell? ⟨p, 3, none⟩ = some (.int .i64 a0) := fun y => HCL.out _ (nb_trans (Below.refl _ _) y.below) 3 (by decide)
              have kc4 : ∀ y : Later X, y.w.cell? ⟨p, 4, none⟩ = some (.int .i64 a1) := fun y => HCL.out _ (nb_trans (Below.refl _ _) y.below) 4 (by decide)
              have kc5 : ∀ y : Later X, y.w.cell? ⟨p, 5, none⟩ = some (.int .i64 a2) := fun y => HCL.out _ (nb_trans (Below.refl _ _) y.below) 5 (by decide)
              have kc6 : ∀ y : Later X, y.w.cell? ⟨p, 6, none⟩ = some (.int .i64 a3) := fun y => HCL.out _ (nb_trans (Below.refl _ _) y.below) 6 (by decide)
              have kc7 : ∀ y : Later X, y.w.cell? ⟨p, 7, none⟩ = some (.int .i64 a4) := fun y => HCL.out _ (nb_trans (Below.refl _ _) y.below) 7 (by decide)
              have kc8 : ∀ y : Later X, y.w.cell? ⟨p, 8, none⟩ = some (.int .i64 a5) := fun y => HCL.out _ (nb_trans (Below.refl _ _) y.below) 8 (by decide)
              have kc9 : ∀ y : Later X, y.w.cell? ⟨p, 9, none⟩ = some (.int .i64 a6) := fun y => HCL.out _ (nb_trans (Below.refl _ _) y.below) 9 (by decide)
              have kc10 : ∀ y : Later X, y.w.cell? ⟨p, 10, none⟩ = some (.int .i64 a7) := fun y => HCL.out _ (nb_trans (Below.refl _ _) y.below) 10 (by decide)
              have kcl : ∀ y : Later X, p < y.w.heap.size := fun y => Nat.lt_of_lt_of_le HPL.out (nb_trans (Below.refl _ _) y.below).size
              have HCB : Hid (∀ W, Below X.heap.size X W → Calls Tryd.prog 30 #[.slice ra rn rc, .agg #[.int .i64 s, .int .i64 g]] W fun e w' => e = .returned (.agg #[.int .i64 m, .int .i64 a0, .int .i64 a1, .int .i64 a2, .int .i64 a3, .int .i64 a4, .int .i64 a5, .int .i64 a6, .int .i64 a7]) ∧ Below W.heap.size W w') := Lib.hid (fun W hW => HBA.out W (HRX.out.later hW))
              refine wp_region_later (by kernel_rfl) (by kernel_rfl) ?_
              repeat (go_big_quiet_step ((first | (go_at_call 30; with_reducible exact Calls.later (HCB.out _ (Later.below _))))))
              refine wpQuiet_nil ?_
              rintro _ ⟨nq, rfl⟩
              have HXV := Lib.hid nq.below
              generalize nq.w = V at *
              clear kc0 kc1 kc2 kc3 kc4 kc5 kc6 kc7 kc8 kc9 kc10 kcl
              clear hq HBA HCB
              go_wp2_with fail
              refine (withoutCh_any (.slice ra rn rc) ml p s g (m, a0, a1, a2, a3, a4, a5, a6, a7) (h, b0, b1, b2, b3, b4, b5, b6, b7) _ (HRX.out.later HXV.out) (by have := hLN.out; omega) (HBXW.out _ HXV.out)).mono ?_
              rintro e w6 ⟨v6, rfl, ho6, hb6⟩
              have HDRP : Hid (dropH ml (s, g) = dropH ml (s, g)) := Lib.hid rfl
              have HR6 : Hid (Reads elRo w6 v6 (dropH ml (s, g))) := Lib.hid ho6.reads
              have HX6 := Lib.hid (nb_trans HXV.out hb6)
              clear ho6 hb6
              obtain ⟨na, nc, hne, hnl, hnm, -⟩ := HR6.out
              obtain ⟨md, hmd⟩ : ∃ md, dropH ml (s, g) = md := ⟨_, rfl⟩
              have HMD := Lib.hid hmd
              rw [hmd] at HR6 hne hnl
              obtain ⟨nd, hnd⟩ : ∃ nd, md.length = nd := ⟨_, rfl⟩
              have HND := Lib.hid hnd
              rw [hnd] at hne hnl
              subst hne
              have HMC := Lib.hid hnm
              clear hmd hnd hnm HRX HXV HDRP
              go_upto_region 13 with fail
              by_cases e3 : ((h, b0, b1, b2, b3, b4, b5, b6, b7) : Be) = (-1, 0, 0, 0, 0, 0, 0, 0, 0)
              · as_aux_lemma =>
                have hq := neBe (h, b0, b1, b2, b3, b4, b5, b6, b7) (-1, 0, 0, 0, 0, 0, 0, 0, 0) true (decide_eq_true e3)
                dsimp only [beV] at hq
                have HPU : Hid (putH ml (s, g) (h, b0, b1, b2, b3, b4, b5, b6, b7) = md) := Lib.hid (by rw [putH, if_pos (by rw [e3]; rfl)]; exact HMD.out)
                clear e3
                have kc11 : ∀ y : Later w6, y.w.cell? ⟨p, 11, none⟩ = some (.int .i64 h) := fun y => HCL.out _ (nb_trans HX6.out y.below) 11 (by decide)
                have kc12 : ∀ y : Later w6, y.w.cell? ⟨p, 12, none⟩ = some (.int .i64 b0) := fun y => HCL.out _ (nb_trans HX6.out y.below) 12 (by decide)
                have kc13 : ∀ y : Later w6, y.w.cell? ⟨p, 13, none⟩ = some (.int .i64 b1) := fun y => HCL.out _ (nb_trans HX6.out y.below) 13 (by decide)
                have kc14 : ∀ y : Later w6, y.w.cell? ⟨p, 14, none⟩ = some (.int .i64 b2) := fun y => HCL.out _ (nb_trans HX6.out y.below) 14 (by decide)
                have kc15 : ∀ y : Later w6, y.w.cell? ⟨p, 15, none⟩ = some (.int .i64 b3) := fun y => HCL.out _ (nb_trans HX6.out y.below) 15 (by decide)
                have kc16 : ∀ y : Later w6, y.w.cell? ⟨p, 16, none⟩ = some (.int .i64 b4) := fun y => HCL.out _ (nb_trans HX6.out y.below) 16 (by decide)
                have kc17 : ∀ y : Later w6, y.w.cell? ⟨p, 17, none⟩ = some (.int .i64 b5) := fun y => HCL.out _ (nb_trans HX6.out y.below) 17 (by decide)
                have kc18 : ∀ y : Later w6, y.w.cell? ⟨p, 18, none⟩ = some (.int .i64 b6) := fun y => HCL.out _ (nb_trans HX6.out y.below) 18 (by decide)
                have kc19 : ∀ y : Later w6, y.w.cell? ⟨p, 19, none⟩ = some (.int .i64 b7) := fun y => HCL.out _ (nb_trans HX6.out y.below) 19 (by decide)
                have kcl : ∀ y : Later w6, p < y.w.heap.size := fun y => Nat.lt_of_lt_of_le HPL.out (nb_trans HX6.out y.below).size
                have HCN : Hid (∀ W : World, Calls Tryd.prog 26 #[] W fun e w' => e = .returned (.agg #[.int .i64 (-1), .int .i64 0, .int .i64 0, .int .i64 0, .int .i64 0, .int .i64 0, .int .i64 0, .int .i64 0, .int .i64 0]) ∧ Below W.heap.size W w') := Lib.hid (fun W => refNone_any W)
                refine wp_region_later (by kernel_rfl) (by kernel_rfl) ?_
                repeat (go_big_quiet_step ((first | (go_at_call 26; with_reducible exact Calls.later (HCN.out _)))))
                refine wpQuiet_nil ?_
                rintro _ ⟨nq, rfl⟩
                have HX7 := Lib.hid (nb_trans HX6.out nq.below)
                have HR7 := Lib.hid (HR6.out.later nq.below)
                generalize nq.w = V7 at *
                clear kc11 kc12 kc13 kc14 kc15 kc16 kc17 kc18 kc19 kcl
                clear hq
                have HB7 := Lib.hid (nb_trans HXA.out HX7.out)
                rw [HPU.out] at HNX HLP
                go_wp2
                go_roundw
                case rel => exact ⟨k + 1, md, by omega, by go_num, HNX, HR7, HLP, HB7⟩
                case measure => simp [intOf]; omega
              · have hq := neBe (h, b0, b1, b2, b3, b4, b5, b6, b7) (-1, 0, 0, 0, 0, 0, 0, 0, 0) false (decide_eq_false e3)
                dsimp only [beV] at hq
                have HPU : Hid (putH ml (s, g) (h, b0, b1, b2, b3, b4, b5, b6, b7) = insH md ((s, g), (h, b0, b1, b2, b3, b4, b5, b6, b7))) := Lib.hid (by rw [putH, if_neg (by exact e3), HMD.out])
                clear e3
                have kc11 : ∀ y : Later w6, y.w.cell? ⟨p, 11, none⟩ = some (.int .i64 h) := fun y => HCL.out _ (nb_trans HX6.out y.below) 11 (by decide)
                have kc12 : ∀ y : Later w6, y.w.cell? ⟨p, 12, none⟩ = some (.int .i64 b0) := fun y => HCL.out _ (nb_trans HX6.out y.below) 12 (by decide)
                have kc13 : ∀ y : Later w6, y.w.cell? ⟨p, 13, none⟩ = some (.int .i64 b1) := fun y => HCL.out _ (nb_trans HX6.out y.below) 13 (by decide)
                have kc14 : ∀ y : Later w6, y.w.cell? ⟨p, 14, none⟩ = some (.int .i64 b2) := fun y => HCL.out _ (nb_trans HX6.out y.below) 14 (by decide)
                have kc15 : ∀ y : Later w6, y.w.cell? ⟨p, 15, none⟩ = some (.int .i64 b3) := fun y => HCL.out _ (nb_trans HX6.out y.below) 15 (by decide)
                have kc16 : ∀ y : Later w6, y.w.cell? ⟨p, 16, none⟩ = some (.int .i64 b4) := fun y => HCL.out _ (nb_trans HX6.out y.below) 16 (by decide)
                have kc17 : ∀ y : Later w6, y.w.cell? ⟨p, 17, none⟩ = some (.int .i64 b5) := fun y => HCL.out _ (nb_trans HX6.out y.below) 17 (by decide)
                have kc18 : ∀ y : Later w6, y.w.cell? ⟨p, 18, none⟩ = some (.int .i64 b6) := fun y => HCL.out _ (nb_trans HX6.out y.below) 18 (by decide)
                have kc19 : ∀ y : Later w6, y.w.cell? ⟨p, 19, none⟩ = some (.int .i64 b7) := fun y => HCL.out _ (nb_trans HX6.out y.below) 19 (by decide)
                have kcl : ∀ y : Later w6, p < y.w.heap.size := fun y => Nat.lt_of_lt_of_le HPL.out (nb_trans HX6.out y.below).size
                have HCN : Hid (∀ W : World, Calls Tryd.prog 26 #[] W fun e w' => e = .returned (.agg #[.int .i64 (-1), .int .i64 0, .int .i64 0, .int .i64 0, .int .i64 0, .int .i64 0, .int .i64 0, .int .i64 0, .int .i64 0]) ∧ Below W.heap.size W w') := Lib.hid (fun W => refNone_any W)
                refine wp_region_later (by kernel_rfl) (by kernel_rfl) ?_
                repeat (go_big_quiet_step ((first | (go_at_call 26; with_reducible exact Calls.later (HCN.out _)))))
                refine wpQuiet_nil ?_
                rintro _ ⟨nq, rfl⟩
                have HX7 := Lib.hid (nb_trans HX6.out nq.below)
                have HR7 := Lib.hid (HR6.out.later nq.below)
                generalize nq.w = V7 at *
                clear kc11 kc12 kc13 kc14 kc15 kc16 kc17 kc18 kc19 kcl
                clear hq HR6 HX6
                have h180 : nd ≤ 180 := by
                  have h1 := List.length_filter_le (fun r : Ro => !decide (r.1 = (s, g))) ml
                  have h2 : md.length ≤ ml.length := by rw [← HMD.out]; exact h1
                  have := hLN.out
                  rw [HND.out] at h2
                  omega
                have hbs := fun W => run_bsR ((s, g), (h, b0, b1, b2, b3, b4, b5, b6, b7)) W
                obtain ⟨RR, hRR⟩ : ∃ RR : Ro, (((s, g), (h, b0, b1, b2, b3, b4, b5, b6, b7)) : Ro) = RR := ⟨_, rfl⟩
                dsimp only [roV] at hbs
                rw [hRR] at hbs HPU
                have HBS := Lib.hid hbs
                have HRR := Lib.hid hRR
                clear hbs hRR
                go_wp2
                go_loopw [8] (fun i wr => ∃ t : Nat, t ≤ nd ∧ i = .int .i64 t ∧ Hid (∀ j, j < t → hlt (md.getD j roZ).1 (s, g)) ∧ Hid (Below V7.heap.size V7 wr)) (fun i _ => nd - (intOf i).toNat)
                case atStart => exact ⟨0, by omega, rfl, fun j hj => absurd hj (by omega), Below.refl _ _⟩
                case round =>
                  obtain ⟨t, htn, rfl, hbef, hB7⟩ := hrel
                  have HXR := Lib.hid (nb_trans HX7.out hB7.out)
                  have HRR7 := Lib.hid (HR7.out.later hB7.out)
                  by_cases hte : t < nd
                  · obtain ⟨a', c', e', hl', hm', hc'⟩ := HRR7.out
                    simp only [Value.slice.injEq] at e'
                    obtain ⟨rfl, -, rfl⟩ := e'
                    obtain ⟨rb, ro, rfl, hrb, hrc⟩ := hc' t (by rw [HND.out]; exact hte)
                    obtain ⟨⟨⟨s2, g2⟩, f, f0, f1, f2, f3, f4, f5, f6, f7⟩, hx⟩ : ∃ x, md.getD t roZ = x := ⟨_, rfl⟩
                    have hr0 := hrc 0 (by decide)
                    have hr1 := hrc 1 (by decide)
                    rw [show md.getD t elRo.zero = md.getD t roZ from rfl, hx] at hr0 hr1
                    have HR0 : Hid (wr.cell? ⟨rb, ro + t * 11, none⟩ = some (.int .i64 s2)) := Lib.hid hr0
                    have HR1 : Hid (wr.cell? ⟨rb, ro + t * 11 + 1, none⟩ = some (.int .i64 g2)) := Lib.hid hr1
                    have HRBL := Lib.hid hrb
                    have HXT := Lib.hid hx
                    clear hl' hm' hc' hrc hr0 hr1 hx hrb
                    have kr0 : ∀ y : Later wr, y.w.cell? ⟨rb, ro + t * 11, none⟩ = some (.int .i64 s2) := fun y => y.cell HR0.out
                    have kr1 : ∀ y : Later wr, y.w.cell? ⟨rb, ro + t * 11 + 1, none⟩ = some (.int .i64 g2) := fun y => y.cell HR1.out
                    have krl : ∀ y : Later wr, rb < y.w.heap.size := fun y => Nat.lt_of_lt_of_le HRBL.out y.below.size
                    have kc0 : ∀ y : Later wr, y.w.cell? ⟨p, 0, none⟩ = some (.int .i64 s) := fun y => HCL.out _ (nb_trans HXR.out y.below) 0 (by decide)
                    have kc1 : ∀ y : Later wr, y.w.cell? ⟨p, 1, none⟩ = some (.int .i64 g) := fun y => HCL.out _ (nb_trans HXR.out y.below) 1 (by decide)
                    have kcl : ∀ y : Later wr, p < y.w.heap.size := fun y => Nat.lt_of_lt_of_le HPL.out (nb_trans HXR.out y.below).size
                    by_cases hcmp : hlt (s2, g2) (s, g)
                    · as_aux_lemma =>
                      go_upto_region 15 with fail
                      have HLS := Lib.hid (fun W => less_any s2 g2 s g true W (decide_eq_true hcmp))
                      refine wp_region_later (by kernel_rfl) (by kernel_rfl) ?_
                      repeat (go_big_quiet_step ((first | (go_at_call 27; with_reducible exact Calls.later (HLS.out _)))))
                      refine wpQuiet_nil ?_
                      rintro _ ⟨nq, rfl⟩
                      have HBN := Lib.hid (nb_trans hB7.out nq.below)
                      have HBEF : Hid (∀ j, j < t + 1 → hlt (md.getD j roZ).1 (s, g)) := Lib.hid (fun j hj => by
                        by_cases hjt : j < t
                        · exact hbef.out j hjt
                        · obtain rfl : j = t := by omega
                          rw [HXT.out]; exact hcmp)
                      generalize nq.w = V8 at *
                      clear kr0 kr1 krl kc0 kc1 kcl
                      go_wp2
                      go_roundw
                      case rel => exact ⟨t + 1, by omega, by go_num, HBEF, HBN⟩
                      case measure => simp [intOf]; omega
                    · as_aux_lemma =>
                      go_upto_region 15 with fail
                      have HLS := Lib.hid (fun W => less_any s2 g2 s g false W (decide_eq_false hcmp))
                      refine wp_region_later (by kernel_rfl) (by kernel_rfl) ?_
                      repeat (go_big_quiet_step ((first | (go_at_call 27; with_reducible exact Calls.later (HLS.out _)))))
                      refine wpQuiet_nil ?_
                      rintro _ ⟨nq, rfl⟩
                      have HXU := Lib.hid (nb_trans HXR.out nq.below)
                      have HRU := Lib.hid (HRR7.out.later nq.below)
                      generalize nq.w = U at *
                      have HINS : Hid (putH ml (s, g) (h, b0, b1, b2, b3, b4, b5, b6, b7) = md.take t ++ RR :: md.drop t) := Lib.hid (by
                        rw [HPU.out]
                        refine insH_at (d := roZ) (by rw [HND.out]; exact htn) (fun j hj => ?_) (fun h9 => ?_)
                        · rw [← HRR.out]; exact hbef.out j hj
                        · rw [← HRR.out, HXT.out]; exact hcmp)
                      have HLM : Hid ((md.take t).length * 88 ≤ 140737488351232 ∧ (md.take t).length + [RR].length ≤ maxLen ∧ ((md.take t).length + [RR].length) * 88 ≤ 140737488355328 ∧ (md.take t ++ [RR]).length + (md.drop t).length ≤ maxLen ∧ ((md.take t ++ [RR]).length + (md.drop t).length) * 88 ≤ 140737488355328) := Lib.hid (by
                        have h1 : (md.take t).length = t := by rw [List.length_take, HND.out]; omega
                        have h2 : (md.drop t).length = nd - t := by rw [List.length_drop, HND.out]
                        rw [List.length_append, h1, h2]
                        simp [maxLen]
                        omega)
                      clear kr0 kr1 krl kc0 kc1 kcl

                      go_upto_region 17 with fail
                      have HRD : Hid (∀ W, Below U.heap.size U W → Reads elRo W (.slice (some ⟨rb, ro, none⟩) t nc) (md.take t)) := Lib.hid (fun W hW => (HRU.out.later hW).takeY (by rw [HND.out]; exact htn))
                      have HSU : Hid (∀ W, Below U.heap.size U W → (Instr.loadAt 28 (.pointer (some ⟨p, 0, none⟩))).run Tryd.prog W = .ok (.agg #[.int .i64 s, .int .i64 g]) W ∧ (Instr.loadAt 31 (.pointer (some ⟨p, 11, none⟩))).run Tryd.prog W = .ok (.agg #[.int .i64 h, .int .i64 b0, .int .i64 b1, .int .i64 b2, .int .i64 b3, .int .i64 b4, .int .i64 b5, .int .i64 b6, .int .i64 b7]) W) := Lib.hid (fun W hW => HSB.out _ (nb_trans HXU.out hW))
                      have HBD : Hid (Below U.heap.size U U.drew) := Lib.hid (Below.refl _ _).drew
                      have hS0 := HSU.out _ HBD.out
                      have ht0 : (0 : Int) ≤ (t : Int) := by omega
                      have htc : (t : Int) ≤ (nc : Int) := by omega
                      have htn' : (t : Int) ≤ (nd : Int) := by omega
                      have hnc : (nd : Int) ≤ (nc : Int) := by omega
                      have hcq : ¬ nc = t := by omega
                      have HRL : Hid (∀ W, Below U.heap.size U W → Reads elRo W (.slice (some ⟨rb, ro + t * 11, none⟩) (nd - t) (nc - t)) (md.drop t)) := Lib.hid (fun W hW => by have h9 := (HRU.out.later hW).dropY (t := t) (by rw [HND.out]; exact htn); first | exact h9 | (rw [Option.map_some, addr_add'] at h9; exact h9))
                      refine wp_region_noPanic (wp_region_till (fun W : World => (Instr.loadAt 28 (.pointer (some ⟨p, 0, none⟩))).run Tryd.prog W = .ok (.agg #[.int .i64 s, .int .i64 g]) W ∧ (Instr.loadAt 31 (.pointer (some ⟨p, 11, none⟩))).run Tryd.prog W = .ok (.agg #[.int .i64 h, .int .i64 b0, .int .i64 b1, .int .i64 b2, .int .i64 b3, .int .i64 b4, .int .i64 b5, .int .i64 b6, .int .i64 b7]) W) 16 (by kernel_rfl) ?_)
                      refine Till.take' (i := 0) rfl (by kernel_rfl) (by kernel_rfl) (by kernel_rfl) (by kernel_rfl) (fun _ _ _ h => h) (Or.inl ⟨by rfl, fun w hw => by go_simp; (try with_reducible rfl)⟩) hS0 ?_
                      try simp only [Act.put, di_t, di_0, di_s, List.getElem_toArray, List.getElem_cons_zero, List.getElem_cons_succ]
                      refine Till.take' (i := 1) rfl (by kernel_rfl) (by kernel_rfl) (by kernel_rfl) (by kernel_rfl) (fun _ _ _ h => h) (Or.inl ⟨by rfl, fun w hw => by go_simp; (try with_reducible rfl)⟩) hS0 ?_
                      try simp only [Act.put, di_t, di_0, di_s, List.getElem_toArray, List.getElem_cons_zero, List.getElem_cons_succ]
                      refine Till.take' (i := 2) rfl (by kernel_rfl) (by kernel_rfl) (by kernel_rfl) (by kernel_rfl) (fun _ _ _ h => h) (Or.inl ⟨by rfl, fun w hw => by go_simp; (try with_reducible rfl)⟩) hS0 ?_
                      try simp only [Act.put, di_t, di_0, di_s, List.getElem_toArray, List.getElem_cons_zero, List.getElem_cons_succ]
                      refine Till.take' (i := 4) rfl (by kernel_rfl) (by kernel_rfl) (by kernel_rfl) (by kernel_rfl) (fun _ _ _ h => h) (Or.inl ⟨by rfl, fun w hw => by go_simp; (try with_reducible rfl)⟩) hS0 ?_
                      try simp only [Act.put, di_t, di_0, di_s, List.getElem_toArray, List.getElem_cons_zero, List.getElem_cons_succ]
                      refine Till.take' (i := 5) rfl (by kernel_rfl) (by kernel_rfl) (by kernel_rfl) (by kernel_rfl) (fun _ _ _ h => h) (yields_ldY (by rfl) 28 _ (by rfl) _ (by rfl) (.agg #[.int .i64 s, .int .i64 g]) (fun W hW => hW.1)) hS0 ?_
                      try simp only [Act.put, di_t, di_0, di_s, List.getElem_toArray, List.getElem_cons_zero, List.getElem_cons_succ]
                      refine Till.take' (i := 6) rfl (by kernel_rfl) (by kernel_rfl) (by kernel_rfl) (by kernel_rfl) (fun _ _ _ h => h) (Or.inl ⟨by rfl, fun w hw => by go_simp; (try with_reducible rfl)⟩) hS0 ?_
                      try simp only [Act.put, di_t, di_0, di_s, List.getElem_toArray, List.getElem_cons_zero, List.getElem_cons_succ]
                      refine Till.take' (i := 7) rfl (by kernel_rfl) (by kernel_rfl) (by kernel_rfl) (by kernel_rfl) (fun _ _ _ h => h) (yields_ldY (by rfl) 31 _ (by rfl) _ (by rfl) (.agg #[.int .i64 h, .int .i64 b0, .int .i64 b1, .int .i64 b2, .int .i64 b3, .int .i64 b4, .int .i64 b5, .int .i64 b6, .int .i64 b7]) (fun W hW => hW.2)) hS0 ?_
                      try simp only [Act.put, di_t, di_0, di_s, List.getElem_toArray, List.getElem_cons_zero, List.getElem_cons_succ]
                      refine Till.take' (i := 8) rfl (by kernel_rfl) (by kernel_rfl) (by kernel_rfl) (by kernel_rfl) (fun _ _ _ h => h) (yields_bl (by rfl) 33 0 1 _ _ (by rfl) _ _ (by rfl) (by rfl) _ (fun W => run_blR _ _ _ _ _ _ _ _ _ _ _ W)) hS0 ?_
                      try simp only [Act.put, di_t, di_0, di_s, List.getElem_toArray, List.getElem_cons_zero, List.getElem_cons_succ]
                      refine Till.take' (i := 11) rfl (by kernel_rfl) (by kernel_rfl) (by kernel_rfl) (by kernel_rfl) (fun _ _ _ h => h) (Or.inl ⟨by rfl, fun w hw => by go_simp; (try with_reducible rfl)⟩) hS0 ?_
                      try simp only [Act.put, di_t, di_0, di_s, List.getElem_toArray, List.getElem_cons_zero, List.getElem_cons_succ]
                      refine Till.take' (i := 12) rfl (by kernel_rfl) (by kernel_rfl) (by kernel_rfl) (by kernel_rfl) (fun _ _ _ h => h) (Or.inl ⟨by rfl, fun w hw => by go_simp; (try with_reducible rfl)⟩) hS0 ?_
                      try simp only [Act.put, di_t, di_0, di_s, List.getElem_toArray, List.getElem_cons_zero, List.getElem_cons_succ]
                      refine Till.take' (i := 13) rfl (by kernel_rfl) (by kernel_rfl) (by kernel_rfl) (by kernel_rfl) (fun _ _ _ h => h) (Or.inl ⟨by rfl, fun w hw => by go_simp; (try with_reducible rfl)⟩) hS0 ?_
                      try simp only [Act.put, di_t, di_0, di_s, List.getElem_toArray, List.getElem_cons_zero, List.getElem_cons_succ]
                      clear hS0
                      refine Till.ready (rs := [3, 9]) (by kernel_rfl) (by simp) (TillAll.cons rfl (fun K hK => ?_) (TillAll.cons rfl (fun K hK => ?_) TillAll.nil))
                      · go_simp
                        go_at_call 33
                        refine (copyRos_any _ (md.take t) _ (HRD.out _ HBD.out) HLM.out.1).mono ?_
                        rintro e1 w1 ⟨v1, rfl, ho1, hb1⟩
                        have HB1 : Hid (Below U.heap.size U w1) := Lib.hid (nb_trans HBD.out hb1)
                        have HO1 : Hid (OwnsF elRo w1 U.heap.size 33 v1 (md.take t)) := Lib.hid (ho1.weaken HBD.out.size)
                        clear ho1 hb1
                        try dsimp only
                        refine hK.out _ _ (.inr (HSU.out _ HB1.out)) ?_
                        clear hK K
                        try simp only [Act.put, di_t, di_0, di_s, List.getElem_toArray, List.getElem_cons_zero, List.getElem_cons_succ]
                        refine Till.ready (rs := [9]) (by kernel_rfl) (by simp) (TillAll.cons rfl (fun K hK => ?_) TillAll.nil)
                        refine step_bsR (by rfl) 22 _ (by rfl) _ (by rfl) (HBS.out _) ?_
                        have HBA := Lib.hid (nb_alloc HB1.out (.cells (elRo.enc RR).toArray 33))
                        have HRA : Hid (Reads elRo (w1.alloc (.cells (elRo.enc RR).toArray 33)) (.slice (some ⟨w1.heap.size, 0, none⟩) 1 1) [RR]) := Lib.hid (Reads.oneY (heap_alloc_new _ _))
                        have HOA := Lib.hid (HO1.out.later (nb_alloc (Below.refl _ _) (.cells (elRo.enc RR).toArray 33)))
                        refine hK.out _ _ (.inr (HSU.out _ HBA.out)) ?_
                        clear hK K
                        try simp only [Act.put, di_t, di_0, di_s, List.getElem_toArray, List.getElem_cons_zero, List.getElem_cons_succ]
                        refine Till.ready (rs := [10]) (by kernel_rfl) (by simp) (TillAll.cons rfl (fun K hK => ?_) TillAll.nil)
                        refine step_append_ro elRo (by rfl) _ _ 22 (by rfl) U.heap.size 33 i0 _ 88 Tryd.underlying22 hi hz0 hz1 hz2 rfl v1 (md.take t) (by rfl) HOA.out _ [RR] (by rfl) HRA.out HLM.out.2.1 HLM.out.2.2.1 HBA.out HBA.out.size ?_
                        intro v2 w2 ho2 hb2
                        have HO2 := Lib.hid ho2
                        have HB2 := Lib.hid hb2
                        clear ho2 hb2
                        refine hK.out _ _ (.inr (HSU.out _ HB2.out)) ?_
                        clear hK K
                        try simp only [Act.put, di_t, di_0, di_s, List.getElem_toArray, List.getElem_cons_zero, List.getElem_cons_succ]
                        refine Till.ready (rs := [14]) (by kernel_rfl) (by simp) (TillAll.cons rfl (fun K hK => ?_) TillAll.nil)
                        refine step_append_ro elRo (by rfl) _ _ 22 (by rfl) U.heap.size 33 i0 _ 88 Tryd.underlying22 hi hz0 hz1 hz2 rfl v2 (md.take t ++ [RR]) (by rfl) HO2.out _ (md.drop t) (by rfl) (HRL.out _ HB2.out) HLM.out.2.2.2.1 HLM.out.2.2.2.2 HB2.out HB2.out.size ?_
                        intro v3 w3 ho3 hb3
                        have HO3 := Lib.hid ho3
                        have HB3 := Lib.hid hb3
                        clear ho3 hb3
                        refine hK.out _ _ (.inr (HSU.out _ HB3.out)) ?_
                        clear hK K
                        try simp only [Act.put, di_t, di_0, di_s, List.getElem_toArray, List.getElem_cons_zero, List.getElem_cons_succ]
                        refine Till.ready (rs := [15]) (by kernel_rfl) (by simp) (TillAll.cons rfl (fun K hK => ?_) TillAll.nil)
                        go_simp
                        refine hK.out _ _ (.inr (HSU.out _ HB3.out)) ?_
                        clear hK K
                        try simp only [Act.put, di_t, di_0, di_s, List.getElem_toArray, List.getElem_cons_zero, List.getElem_cons_succ]
                        refine Till.done (by kernel_rfl) (NoPanic.normal ?_) _
                        have HRE : Hid (Reads elRo w3 v3 (putH ml (s, g) (h, b0, b1, b2, b3, b4, b5, b6, b7))) := Lib.hid (by rw [HINS.out, ← List.append_cons] at *; exact HO3.out.reads)
                        have HBE : Hid (Below w.heap.size w w3) := Lib.hid (nb_trans HXA.out (nb_trans HXU.out HB3.out))
                        clear HB3 HO3 HB2 HO2 HB1 HO1
                        go_wp2
                        go_roundw
                        case rel => exact ⟨k + 1, putH ml (s, g) (h, b0, b1, b2, b3, b4, b5, b6, b7), by omega, by go_num, HNX, HRE, HLP, HBE⟩
                        case measure => simp [intOf]; omega
                      · refine step_bsR (by rfl) 22 _ (by rfl) _ (by rfl) (HBS.out _) ?_
                        have HBA := Lib.hid (nb_alloc HBD.out (.cells (elRo.enc RR).toArray 33))
                        have HRA : Hid (Reads elRo (U.drew.alloc (.cells (elRo.enc RR).toArray 33)) (.slice (some ⟨U.drew.heap.size, 0, none⟩) 1 1) [RR]) := Lib.hid (Reads.oneY (heap_alloc_new _ _))
                        refine hK.out _ _ (.inr (HSU.out _ HBA.out)) ?_
                        clear hK K
                        try simp only [Act.put, di_t, di_0, di_s, List.getElem_toArray, List.getElem_cons_zero, List.getElem_cons_succ]
                        refine Till.ready (rs := [3]) (by kernel_rfl) (by simp) (TillAll.cons rfl (fun K hK => ?_) TillAll.nil)
                        go_simp
                        go_at_call 33
                        refine (copyRos_any _ (md.take t) _ (HRD.out _ HBA.out) HLM.out.1).mono ?_
                        rintro e1 w1 ⟨v1, rfl, ho1, hb1⟩
                        have HB1 : Hid (Below U.heap.size U w1) := Lib.hid (nb_trans HBA.out hb1)
                        have HO1 : Hid (OwnsF elRo w1 U.heap.size 33 v1 (md.take t)) := Lib.hid (ho1.weaken HBA.out.size)
                        have HR1 := Lib.hid (HRA.out.later hb1)
                        clear ho1 hb1
                        try dsimp only
                        refine hK.out _ _ (.inr (HSU.out _ HB1.out)) ?_
                        clear hK K
                        try simp only [Act.put, di_t, di_0, di_s, List.getElem_toArray, List.getElem_cons_zero, List.getElem_cons_succ]
                        refine Till.ready (rs := [10]) (by kernel_rfl) (by simp) (TillAll.cons rfl (fun K hK => ?_) TillAll.nil)
                        refine step_append_ro elRo (by rfl) _ _ 22 (by rfl) U.heap.size 33 i0 _ 88 Tryd.underlying22 hi hz0 hz1 hz2 rfl v1 (md.take t) (by rfl) HO1.out _ [RR] (by rfl) HR1.out HLM.out.2.1 HLM.out.2.2.1 HB1.out HB1.out.size ?_
                        intro v2 w2 ho2 hb2
                        have HO2 := Lib.hid ho2
                        have HB2 := Lib.hid hb2
                        clear ho2 hb2
                        refine hK.out _ _ (.inr (HSU.out _ HB2.out)) ?_
                        clear hK K
                        try simp only [Act.put, di_t, di_0, di_s, List.getElem_toArray, List.getElem_cons_zero, List.getElem_cons_succ]
                        refine Till.ready (rs := [14]) (by kernel_rfl) (by simp) (TillAll.cons rfl (fun K hK => ?_) TillAll.nil)
                        refine step_append_ro elRo (by rfl) _ _ 22 (by rfl) U.heap.size 33 i0 _ 88 Tryd.underlying22 hi hz0 hz1 hz2 rfl v2 (md.take t ++ [RR]) (by rfl) HO2.out _ (md.drop t) (by rfl) (HRL.out _ HB2.out) HLM.out.2.2.2.1 HLM.out.2.2.2.2 HB2.out HB2.out.size ?_
                        intro v3 w3 ho3 hb3
                        have HO3 := Lib.hid ho3
                        have HB3 := Lib.hid hb3
                        clear ho3 hb3
                        refine hK.out _ _ (.inr (HSU.out _ HB3.out)) ?_
                        clear hK K
                        try simp only [Act.put, di_t, di_0, di_s, List.getElem_toArray, List.getElem_cons_zero, List.getElem_cons_succ]
                        refine Till.ready (rs := [15]) (by kernel_rfl) (by simp) (TillAll.cons rfl (fun K hK => ?_) TillAll.nil)
                        go_simp
                        refine hK.out _ _ (.inr (HSU.out _ HB3.out)) ?_
                        clear hK K
                        try simp only [Act.put, di_t, di_0, di_s, List.getElem_toArray, List.getElem_cons_zero, List.getElem_cons_succ]
                        refine Till.done (by kernel_rfl) (NoPanic.normal ?_) _
                        have HRE : Hid (Reads elRo w3 v3 (putH ml (s, g) (h, b0, b1, b2, b3, b4, b5, b6, b7))) := Lib.hid (by rw [HINS.out, ← List.append_cons] at *; exact HO3.out.reads)
                        have HBE : Hid (Below w.heap.size w w3) := Lib.hid (nb_trans HXA.out (nb_trans HXU.out HB3.out))
                        clear HB3 HO3 HB2 HO2 HB1 HO1
                        go_wp2
                        go_roundw
                        case rel => exact ⟨k + 1, putH ml (s, g) (h, b0, b1, b2, b3, b4, b5, b6, b7), by omega, by go_num, HNX, HRE, HLP, HBE⟩
                        case measure => simp [intOf]; omega
                  · as_aux_lemma =>
                    go_upto_region 15 with fail
                    refine wp_region_later (by kernel_rfl) (by kernel_rfl) ?_
                    repeat (go_big_quiet_step (fail))
                    refine wpQuiet_nil ?_
                    rintro _ ⟨nq, rfl⟩
                    have HXU := Lib.hid (nb_trans HXR.out nq.below)
                    have HRU := Lib.hid (HRR7.out.later nq.below)
                    generalize nq.w = U at *
                    have HINS : Hid (putH ml (s, g) (h, b0, b1, b2, b3, b4, b5, b6, b7) = md.take t ++ RR :: md.drop t) := Lib.hid (by
                      rw [HPU.out]
                      refine insH_at (d := roZ) (by rw [HND.out]; exact htn) (fun j hj => ?_) (fun h9 => ?_)
                      · rw [← HRR.out]; exact hbef.out j hj
                      · exact absurd h9 (by rw [HND.out]; omega))
                    have HLM : Hid ((md.take t).length * 88 ≤ 140737488351232 ∧ (md.take t).length + [RR].length ≤ maxLen ∧ ((md.take t).length + [RR].length) * 88 ≤ 140737488355328 ∧ (md.take t ++ [RR]).length + (md.drop t).length ≤ maxLen ∧ ((md.take t ++ [RR]).length + (md.drop t).length) * 88 ≤ 140737488355328) := Lib.hid (by
                      have h1 : (md.take t).length = t := by rw [List.length_take, HND.out]; omega
                      have h2 : (md.drop t).length = nd - t := by rw [List.length_drop, HND.out]
                      rw [List.length_append, h1, h2]
                      simp [maxLen]
                      omega)

                    go_upto_region 17 with fail
                    have HRD : Hid (∀ W, Below U.heap.size U W → Reads elRo W (.slice na t nc) (md.take t)) := Lib.hid (fun W hW => (HRU.out.later hW).takeY (by rw [HND.out]; exact htn))
                    have HSU : Hid (∀ W, Below U.heap.size U W → (Instr.loadAt 28 (.pointer (some ⟨p, 0, none⟩))).run Tryd.prog W = .ok (.agg #[.int .i64 s, .int .i64 g]) W ∧ (Instr.loadAt 31 (.pointer (some ⟨p, 11, none⟩))).run Tryd.prog W = .ok (.agg #[.int .i64 h, .int .i64 b0, .int .i64 b1, .int .i64 b2, .int .i64 b3, .int .i64 b4, .int .i64 b5, .int .i64 b6, .int .i64 b7]) W) := Lib.hid (fun W hW => HSB.out _ (nb_trans HXU.out hW))
                    have HBD : Hid (Below U.heap.size U U.drew) := Lib.hid (Below.refl _ _).drew
                    have hS0 := HSU.out _ HBD.out
                    have ht0 : (0 : Int) ≤ (t : Int) := by omega
                    have htc : (t : Int) ≤ (nc : Int) := by omega
                    have htn' : (t : Int) ≤ (nd : Int) := by omega
                    have hnc : (nd : Int) ≤ (nc : Int) := by omega
                    by_cases hcq : nc = t
                    · as_aux_lemma =>
                      replace hcq := hcq.symm
                      subst hcq
                      have HRL : Hid (∀ W, Below U.heap.size U W → Reads elRo W (.slice na 0 0) (md.drop t)) := Lib.hid (fun W hW => (HRU.out.later hW).dropZ (by rw [HND.out]; omega) (Nat.zero_le _))
                      refine wp_region_noPanic (wp_region_till (fun W : World => (Instr.loadAt 28 (.pointer (some ⟨p, 0, none⟩))).run Tryd.prog W = .ok (.agg #[.int .i64 s, .int .i64 g]) W ∧ (Instr.loadAt 31 (.pointer (some ⟨p, 11, none⟩))).run Tryd.prog W = .ok (.agg #[.int .i64 h, .int .i64 b0, .int .i64 b1, .int .i64 b2, .int .i64 b3, .int .i64 b4, .int .i64 b5, .int .i64 b6, .int .i64 b7]) W) 16 (by kernel_rfl) ?_)
                      refine Till.take' (i := 0) rfl (by kernel_rfl) (by kernel_rfl) (by kernel_rfl) (by kernel_rfl) (fun _ _ _ h => h) (Or.inl ⟨by rfl, fun w hw => by go_simp; (try with_reducible rfl)⟩) hS0 ?_
                      try simp only [Act.put, di_t, di_0, di_s, List.getElem_toArray, List.getElem_cons_zero, List.getElem_cons_succ]
                      refine Till.take' (i := 1) rfl (by kernel_rfl) (by kernel_rfl) (by kernel_rfl) (by kernel_rfl) (fun _ _ _ h => h) (Or.inl ⟨by rfl, fun w hw => by go_simp; (try with_reducible rfl)⟩) hS0 ?_
                      try simp only [Act.put, di_t, di_0, di_s, List.getElem_toArray, List.getElem_cons_zero, List.getElem_cons_succ]
                      refine Till.take' (i := 2) rfl (by kernel_rfl) (by kernel_rfl) (by kernel_rfl) (by kernel_rfl) (fun _ _ _ h => h) (Or.inl ⟨by rfl, fun w hw => by go_simp; (try with_reducible rfl)⟩) hS0 ?_
                      try simp only [Act.put, di_t, di_0, di_s, List.getElem_toArray, List.getElem_cons_zero, List.getElem_cons_succ]
                      refine Till.take' (i := 4) rfl (by kernel_rfl) (by kernel_rfl) (by kernel_rfl) (by kernel_rfl) (fun _ _ _ h => h) (Or.inl ⟨by rfl, fun w hw => by go_simp; (try with_reducible rfl)⟩) hS0 ?_
                      try simp only [Act.put, di_t, di_0, di_s, List.getElem_toArray, List.getElem_cons_zero, List.getElem_cons_succ]
                      refine Till.take' (i := 5) rfl (by kernel_rfl) (by kernel_rfl) (by kernel_rfl) (by kernel_rfl) (fun _ _ _ h => h) (yields_ldY (by rfl) 28 _ (by rfl) _ (by rfl) (.agg #[.int .i64 s, .int .i64 g]) (fun W hW => hW.1)) hS0 ?_
                      try simp only [Act.put, di_t, di_0, di_s, List.getElem_toArray, List.getElem_cons_zero, List.getElem_cons_succ]
                      refine Till.take' (i := 6) rfl (by kernel_rfl) (by kernel_rfl) (by kernel_rfl) (by kernel_rfl) (fun _ _ _ h => h) (Or.inl ⟨by rfl, fun w hw => by go_simp; (try with_reducible rfl)⟩) hS0 ?_
                      try simp only [Act.put, di_t, di_0, di_s, List.getElem_toArray, List.getElem_cons_zero, List.getElem_cons_succ]
                      refine Till.take' (i := 7) rfl (by kernel_rfl) (by kernel_rfl) (by kernel_rfl) (by kernel_rfl) (fun _ _ _ h => h) (yields_ldY (by rfl) 31 _ (by rfl) _ (by rfl) (.agg #[.int .i64 h, .int .i64 b0, .int .i64 b1, .int .i64 b2, .int .i64 b3, .int .i64 b4, .int .i64 b5, .int .i64 b6, .int .i64 b7]) (fun W hW => hW.2)) hS0 ?_
                      try simp only [Act.put, di_t, di_0, di_s, List.getElem_toArray, List.getElem_cons_zero, List.getElem_cons_succ]
                      refine Till.take' (i := 8) rfl (by kernel_rfl) (by kernel_rfl) (by kernel_rfl) (by kernel_rfl) (fun _ _ _ h => h) (yields_bl (by rfl) 33 0 1 _ _ (by rfl) _ _ (by rfl) (by rfl) _ (fun W => run_blR _ _ _ _ _ _ _ _ _ _ _ W)) hS0 ?_
                      try simp only [Act.put, di_t, di_0, di_s, List.getElem_toArray, List.getElem_cons_zero, List.getElem_cons_succ]
                      refine Till.take' (i := 11) rfl (by kernel_rfl) (by kernel_rfl) (by kernel_rfl) (by kernel_rfl) (fun _ _ _ h => h) (Or.inl ⟨by rfl, fun w hw => by go_simp; (try with_reducible rfl)⟩) hS0 ?_
                      try simp only [Act.put, di_t, di_0, di_s, List.getElem_toArray, List.getElem_cons_zero, List.getElem_cons_succ]
                      refine Till.take' (i := 12) rfl (by kernel_rfl) (by kernel_rfl) (by kernel_rfl) (by kernel_rfl) (fun _ _ _ h => h) (Or.inl ⟨by rfl, fun w hw => by go_simp; (try with_reducible rfl)⟩) hS0 ?_
                      try simp only [Act.put, di_t, di_0, di_s, List.getElem_toArray, List.getElem_cons_zero, List.getElem_cons_succ]
                      refine Till.take' (i := 13) rfl (by kernel_rfl) (by kernel_rfl) (by kernel_rfl) (by kernel_rfl) (fun _ _ _ h => h) (Or.inl ⟨by rfl, fun w hw => by go_simp; (try with_reducible rfl)⟩) hS0 ?_
                      try simp only [Act.put, di_t, di_0, di_s, List.getElem_toArray, List.getElem_cons_zero, List.getElem_cons_succ]
                      clear hS0
                      refine Till.ready (rs := [3, 9]) (by kernel_rfl) (by simp) (TillAll.cons rfl (fun K hK => ?_) (TillAll.cons rfl (fun K hK => ?_) TillAll.nil))
                      · go_simp
                        go_at_call 33
                        refine (copyRos_any _ (md.take t) _ (HRD.out _ HBD.out) HLM.out.1).mono ?_
                        rintro e1 w1 ⟨v1, rfl, ho1, hb1⟩
                        have HB1 : Hid (Below U.heap.size U w1) := Lib.hid (nb_trans HBD.out hb1)
                        have HO1 : Hid (OwnsF elRo w1 U.heap.size 33 v1 (md.take t)) := Lib.hid (ho1.weaken HBD.out.size)
                        clear ho1 hb1
                        try dsimp only
                        refine hK.out _ _ (.inr (HSU.out _ HB1.out)) ?_
                        clear hK K
                        try simp only [Act.put, di_t, di_0, di_s, List.getElem_toArray, List.getElem_cons_zero, List.getElem_cons_succ]
                        refine Till.ready (rs := [9]) (by kernel_rfl) (by simp) (TillAll.cons rfl (fun K hK => ?_) TillAll.nil)
                        refine step_bsR (by rfl) 22 _ (by rfl) _ (by rfl) (HBS.out _) ?_
                        have HBA := Lib.hid (nb_alloc HB1.out (.cells (elRo.enc RR).toArray 33))
                        have HRA : Hid (Reads elRo (w1.alloc (.cells (elRo.enc RR).toArray 33)) (.slice (some ⟨w1.heap.size, 0, none⟩) 1 1) [RR]) := Lib.hid (Reads.oneY (heap_alloc_new _ _))
                        have HOA := Lib.hid (HO1.out.later (nb_alloc (Below.refl _ _) (.cells (elRo.enc RR).toArray 33)))
                        refine hK.out _ _ (.inr (HSU.out _ HBA.out)) ?_
                        clear hK K
                        try simp only [Act.put, di_t, di_0, di_s, List.getElem_toArray, List.getElem_cons_zero, List.getElem_cons_succ]
                        refine Till.ready (rs := [10]) (by kernel_rfl) (by simp) (TillAll.cons rfl (fun K hK => ?_) TillAll.nil)
                        refine step_append_ro elRo (by rfl) _ _ 22 (by rfl) U.heap.size 33 i0 _ 88 Tryd.underlying22 hi hz0 hz1 hz2 rfl v1 (md.take t) (by rfl) HOA.out _ [RR] (by rfl) HRA.out HLM.out.2.1 HLM.out.2.2.1 HBA.out HBA.out.size ?_
                        intro v2 w2 ho2 hb2
                        have HO2 := Lib.hid ho2
                        have HB2 := Lib.hid hb2
                        clear ho2 hb2
                        refine hK.out _ _ (.inr (HSU.out _ HB2.out)) ?_
                        clear hK K
                        try simp only [Act.put, di_t, di_0, di_s, List.getElem_toArray, List.getElem_cons_zero, List.getElem_cons_succ]
                        refine Till.ready (rs := [14]) (by kernel_rfl) (by simp) (TillAll.cons rfl (fun K hK => ?_) TillAll.nil)
                        refine step_append_ro elRo (by rfl) _ _ 22 (by rfl) U.heap.size 33 i0 _ 88 Tryd.underlying22 hi hz0 hz1 hz2 rfl v2 (md.take t ++ [RR]) (by rfl) HO2.out _ (md.drop t) (by rfl) (HRL.out _ HB2.out) HLM.out.2.2.2.1 HLM.out.2.2.2.2 HB2.out HB2.out.size ?_
                        intro v3 w3 ho3 hb3
                        have HO3 := Lib.hid ho3
                        have HB3 := Lib.hid hb3
                        clear ho3 hb3
                        refine hK.out _ _ (.inr (HSU.out _ HB3.out)) ?_
                        clear hK K
                        try simp only [Act.put, di_t, di_0, di_s, List.getElem_toArray, List.getElem_cons_zero, List.getElem_cons_succ]
                        refine Till.ready (rs := [15]) (by kernel_rfl) (by simp) (TillAll.cons rfl (fun K hK => ?_) TillAll.nil)
                        go_simp
                        refine hK.out _ _ (.inr (HSU.out _ HB3.out)) ?_
                        clear hK K
                        try simp only [Act.put, di_t, di_0, di_s, List.getElem_toArray, List.getElem_cons_zero, List.getElem_cons_succ]
                        refine Till.done (by kernel_rfl) (NoPanic.normal ?_) _
                        have HRE : Hid (Reads elRo w3 v3 (putH ml (s, g) (h, b0, b1, b2, b3, b4, b5, b6, b7))) := Lib.hid (by rw [HINS.out, ← List.append_cons] at *; exact HO3.out.reads)
                        have HBE : Hid (Below w.heap.size w w3) := Lib.hid (nb_trans HXA.out (nb_trans HXU.out HB3.out))
                        clear HB3 HO3 HB2 HO2 HB1 HO1
                        go_wp2
                        go_roundw
                        case rel => exact ⟨k + 1, putH ml (s, g) (h, b0, b1, b2, b3, b4, b5, b6, b7), by omega, by go_num, HNX, HRE, HLP, HBE⟩
                        case measure => simp [intOf]; omega
                      · refine step_bsR (by rfl) 22 _ (by rfl) _ (by rfl) (HBS.out _) ?_
                        have HBA := Lib.hid (nb_alloc HBD.out (.cells (elRo.enc RR).toArray 33))
                        have HRA : Hid (Reads elRo (U.drew.alloc (.cells (elRo.enc RR).toArray 33)) (.slice (some ⟨U.drew.heap.size, 0, none⟩) 1 1) [RR]) := Lib.hid (Reads.oneY (heap_alloc_new _ _))
                        refine hK.out _ _ (.inr (HSU.out _ HBA.out)) ?_
                        clear hK K
                        try simp only [Act.put, di_t, di_0, di_s, List.getElem_toArray, List.getElem_cons_zero, List.getElem_cons_succ]
                        refine Till.ready (rs := [3]) (by kernel_rfl) (by simp) (TillAll.cons rfl (fun K hK => ?_) TillAll.nil)
                        go_simp
                        go_at_call 33
                        refine (copyRos_any _ (md.take t) _ (HRD.out _ HBA.out) HLM.out.1).mono ?_
                        rintro e1 w1 ⟨v1, rfl, ho1, hb1⟩
                        have HB1 : Hid (Below U.heap.size U w1) := Lib.hid (nb_trans HBA.out hb1)
                        have HO1 : Hid (OwnsF elRo w1 U.heap.size 33 v1 (md.take t)) := Lib.hid (ho1.weaken HBA.out.size)
                        have HR1 := Lib.hid (HRA.out.later hb1)
                        clear ho1 hb1
                        try dsimp only
                        refine hK.out _ _ (.inr (HSU.out _ HB1.out)) ?_
                        clear hK K
                        try simp only [Act.put, di_t, di_0, di_s, List.getElem_toArray, List.getElem_cons_zero, List.getElem_cons_succ]
                        refine Till.ready (rs := [10]) (by kernel_rfl) (by simp) (TillAll.cons rfl (fun K hK => ?_) TillAll.nil)
                        refine step_append_ro elRo (by rfl) _ _ 22 (by rfl) U.heap.size 33 i0 _ 88 Tryd.underlying22 hi hz0 hz1 hz2 rfl v1 (md.take t) (by rfl) HO1.out _ [RR] (by rfl) HR1.out HLM.out.2.1 HLM.out.2.2.1 HB1.out HB1.out.size ?_
                        intro v2 w2 ho2 hb2
                        have HO2 := Lib.hid ho2
                        have HB2 := Lib.hid hb2
                        clear ho2 hb2
                        refine hK.out _ _ (.inr (HSU.out _ HB2.out)) ?_
                        clear hK K
                        try simp only [Act.put, di_t, di_0, di_s, List.getElem_toArray, List.getElem_cons_zero, List.getElem_cons_succ]
                        refine Till.ready (rs := [14]) (by kernel_rfl) (by simp) (TillAll.cons rfl (fun K hK => ?_) TillAll.nil)
                        refine step_append_ro elRo (by rfl) _ _ 22 (by rfl) U.heap.size 33 i0 _ 88 Tryd.underlying22 hi hz0 hz1 hz2 rfl v2 (md.take t ++ [RR]) (by rfl) HO2.out _ (md.drop t) (by rfl) (HRL.out _ HB2.out) HLM.out.2.2.2.1 HLM.out.2.2.2.2 HB2.out HB2.out.size ?_
                        intro v3 w3 ho3 hb3
                        have HO3 := Lib.hid ho3
                        have HB3 := Lib.hid hb3
                        clear ho3 hb3
                        refine hK.out _ _ (.inr (HSU.out _ HB3.out)) ?_
                        clear hK K
                        try simp only [Act.put, di_t, di_0, di_s, List.getElem_toArray, List.getElem_cons_zero, List.getElem_cons_succ]
                        refine Till.ready (rs := [15]) (by kernel_rfl) (by simp) (TillAll.cons rfl (fun K hK => ?_) TillAll.nil)
                        go_simp
                        refine hK.out _ _ (.inr (HSU.out _ HB3.out)) ?_
                        clear hK K
                        try simp only [Act.put, di_t, di_0, di_s, List.getElem_toArray, List.getElem_cons_zero, List.getElem_cons_succ]
                        refine Till.done (by kernel_rfl) (NoPanic.normal ?_) _
                        have HRE : Hid (Reads elRo w3 v3 (putH ml (s, g) (h, b0, b1, b2, b3, b4, b5, b6, b7))) := Lib.hid (by rw [HINS.out, ← List.append_cons] at *; exact HO3.out.reads)
                        have HBE : Hid (Below w.heap.size w w3) := Lib.hid (nb_trans HXA.out (nb_trans HXU.out HB3.out))
                        clear HB3 HO3 HB2 HO2 HB1 HO1
                        go_wp2
                        go_roundw
                        case rel => exact ⟨k + 1, putH ml (s, g) (h, b0, b1, b2, b3, b4, b5, b6, b7), by omega, by go_num, HNX, HRE, HLP, HBE⟩
                        case measure => simp [intOf]; omega
                    · as_aux_lemma =>
                      have HRL : Hid (∀ W, Below U.heap.size U W → Reads elRo W (.slice (na.map (fun x => x.add (t * 11))) (nd - t) (nc - t)) (md.drop t)) := Lib.hid (fun W hW => by have h9 := (HRU.out.later hW).dropY (t := t) (by rw [HND.out]; exact htn); first | exact h9 | (rw [Option.map_some, addr_add'] at h9; exact h9))
                      refine wp_region_noPanic (wp_region_till (fun W : World => (Instr.loadAt 28 (.pointer (some ⟨p, 0, none⟩))).run Tryd.prog W = .ok (.agg #[.int .i64 s, .int .i64 g]) W ∧ (Instr.loadAt 31 (.pointer (some ⟨p, 11, none⟩))).run Tryd.prog W = .ok (.agg #[.int .i64 h, .int .i64 b0, .int .i64 b1, .int .i64 b2, .int .i64 b3, .int .i64 b4, .int .i64 b5, .int .i64 b6, .int .i64 b7]) W) 16 (by kernel_rfl) ?_)
                      refine Till.take' (i := 0) rfl (by kernel_rfl) (by kernel_rfl) (by kernel_rfl) (by kernel_rfl) (fun _ _ _ h => h) (Or.inl ⟨by rfl, fun w hw => by go_simp; (try with_reducible rfl)⟩) hS0 ?_
                      try simp only [Act.put, di_t, di_0, di_s, List.getElem_toArray, List.getElem_cons_zero, List.getElem_cons_succ]
                      refine Till.take' (i := 1) rfl (by kernel_rfl) (by kernel_rfl) (by kernel_rfl) (by kernel_rfl) (fun _ _ _ h => h) (Or.inl ⟨by rfl, fun w hw => by go_simp; (try with_reducible rfl)⟩) hS0 ?_
                      try simp only [Act.put, di_t, di_0, di_s, List.getElem_toArray, List.getElem_cons_zero, List.getElem_cons_succ]
                      refine Till.take' (i := 2) rfl (by kernel_rfl) (by kernel_rfl) (by kernel_rfl) (by kernel_rfl) (fun _ _ _ h => h) (Or.inl ⟨by rfl, fun w hw => by go_simp; (try with_reducible rfl)⟩) hS0 ?_
                      try simp only [Act.put, di_t, di_0, di_s, List.getElem_toArray, List.getElem_cons_zero, List.getElem_cons_succ]
                      refine Till.take' (i := 4) rfl (by kernel_rfl) (by kernel_rfl) (by kernel_rfl) (by kernel_rfl) (fun _ _ _ h => h) (Or.inl ⟨by rfl, fun w hw => by go_simp; (try with_reducible rfl)⟩) hS0 ?_
                      try simp only [Act.put, di_t, di_0, di_s, List.getElem_toArray, List.getElem_cons_zero, List.getElem_cons_succ]
                      refine Till.take' (i := 5) rfl (by kernel_rfl) (by kernel_rfl) (by kernel_rfl) (by kernel_rfl) (fun _ _ _ h => h) (yields_ldY (by rfl) 28 _ (by rfl) _ (by rfl) (.agg #[.int .i64 s, .int .i64 g]) (fun W hW => hW.1)) hS0 ?_
                      try simp only [Act.put, di_t, di_0, di_s, List.getElem_toArray, List.getElem_cons_zero, List.getElem_cons_succ]
                      refine Till.take' (i := 6) rfl (by kernel_rfl) (by kernel_rfl) (by kernel_rfl) (by kernel_rfl) (fun _ _ _ h => h) (Or.inl ⟨by rfl, fun w hw => by go_simp; (try with_reducible rfl)⟩) hS0 ?_
                      try simp only [Act.put, di_t, di_0, di_s, List.getElem_toArray, List.getElem_cons_zero, List.getElem_cons_succ]
                      refine Till.take' (i := 7) rfl (by kernel_rfl) (by kernel_rfl) (by kernel_rfl) (by kernel_rfl) (fun _ _ _ h => h) (yields_ldY (by rfl) 31 _ (by rfl) _ (by rfl) (.agg #[.int .i64 h, .int .i64 b0, .int .i64 b1, .int .i64 b2, .int .i64 b3, .int .i64 b4, .int .i64 b5, .int .i64 b6, .int .i64 b7]) (fun W hW => hW.2)) hS0 ?_
                      try simp only [Act.put, di_t, di_0, di_s, List.getElem_toArray, List.getElem_cons_zero, List.getElem_cons_succ]
                      refine Till.take' (i := 8) rfl (by kernel_rfl) (by kernel_rfl) (by kernel_rfl) (by kernel_rfl) (fun _ _ _ h => h) (yields_bl (by rfl) 33 0 1 _ _ (by rfl) _ _ (by rfl) (by rfl) _ (fun W => run_blR _ _ _ _ _ _ _ _ _ _ _ W)) hS0 ?_
                      try simp only [Act.put, di_t, di_0, di_s, List.getElem_toArray, List.getElem_cons_zero, List.getElem_cons_succ]
                      refine Till.take' (i := 11) rfl (by kernel_rfl) (by kernel_rfl) (by kernel_rfl) (by kernel_rfl) (fun _ _ _ h => h) (Or.inl ⟨by rfl, fun w hw => by go_simp; (try with_reducible rfl)⟩) hS0 ?_
                      try simp only [Act.put, di_t, di_0, di_s, List.getElem_toArray, List.getElem_cons_zero, List.getElem_cons_succ]
                      refine Till.take' (i := 12) rfl (by kernel_rfl) (by kernel_rfl) (by kernel_rfl) (by kernel_rfl) (fun _ _ _ h => h) (Or.inl ⟨by rfl, fun w hw => by go_simp; (try with_reducible rfl)⟩) hS0 ?_
                      try simp only [Act.put, di_t, di_0, di_s, List.getElem_toArray, List.getElem_cons_zero, List.getElem_cons_succ]
                      refine Till.take' (i := 13) rfl (by kernel_rfl) (by kernel_rfl) (by kernel_rfl) (by kernel_rfl) (fun _ _ _ h => h) (Or.inl ⟨by rfl, fun w hw => by go_simp; (try with_reducible rfl)⟩) hS0 ?_
                      try simp only [Act.put, di_t, di_0, di_s, List.getElem_toArray, List.getElem_cons_zero, List.getElem_cons_succ]
                      clear hS0
                      refine Till.ready (rs := [3, 9]) (by kernel_rfl) (by simp) (TillAll.cons rfl (fun K hK => ?_) (TillAll.cons rfl (fun K hK => ?_) TillAll.nil))
                      · go_simp
                        go_at_call 33
                        refine (copyRos_any _ (md.take t) _ (HRD.out _ HBD.out) HLM.out.1).mono ?_
                        rintro e1 w1 ⟨v1, rfl, ho1, hb1⟩
                        have HB1 : Hid (Below U.heap.size U w1) := Lib.hid (nb_trans HBD.out hb1)
                        have HO1 : Hid (OwnsF elRo w1 U.heap.size 33 v1 (md.take t)) := Lib.hid (ho1.weaken HBD.out.size)
                        clear ho1 hb1
                        try dsimp only
                        refine hK.out _ _ (.inr (HSU.out _ HB1.out)) ?_
                        clear hK K
                        try simp only [Act.put, di_t, di_0, di_s, List.getElem_toArray, List.getElem_cons_zero, List.getElem_cons_succ]
                        refine Till.ready (rs := [9]) (by kernel_rfl) (by simp) (TillAll.cons rfl (fun K hK => ?_) TillAll.nil)
                        refine step_bsR (by rfl) 22 _ (by rfl) _ (by rfl) (HBS.out _) ?_
                        have HBA := Lib.hid (nb_alloc HB1.out (.cells (elRo.enc RR).toArray 33))
                        have HRA : Hid (Reads elRo (w1.alloc (.cells (elRo.enc RR).toArray 33)) (.slice (some ⟨w1.heap.size, 0, none⟩) 1 1) [RR]) := Lib.hid (Reads.oneY (heap_alloc_new _ _))
                        have HOA := Lib.hid (HO1.out.later (nb_alloc (Below.refl _ _) (.cells (elRo.enc RR).toArray 33)))
                        refine hK.out _ _ (.inr (HSU.out _ HBA.out)) ?_
                        clear hK K
                        try simp only [Act.put, di_t, di_0, di_s, List.getElem_toArray, List.getElem_cons_zero, List.getElem_cons_succ]
                        refine Till.ready (rs := [10]) (by kernel_rfl) (by simp) (TillAll.cons rfl (fun K hK => ?_) TillAll.nil)
                        refine step_append_ro elRo (by rfl) _ _ 22 (by rfl) U.heap.size 33 i0 _ 88 Tryd.underlying22 hi hz0 hz1 hz2 rfl v1 (md.take t) (by rfl) HOA.out _ [RR] (by rfl) HRA.out HLM.out.2.1 HLM.out.2.2.1 HBA.out HBA.out.size ?_
                        intro v2 w2 ho2 hb2
                        have HO2 := Lib.hid ho2
                        have HB2 := Lib.hid hb2
                        clear ho2 hb2
                        refine hK.out _ _ (.inr (HSU.out _ HB2.out)) ?_
                        clear hK K
                        try simp only [Act.put, di_t, di_0, di_s, List.getElem_toArray, List.getElem_cons_zero, List.getElem_cons_succ]
                        refine Till.ready (rs := [14]) (by kernel_rfl) (by simp) (TillAll.cons rfl (fun K hK => ?_) TillAll.nil)
                        refine step_append_ro elRo (by rfl) _ _ 22 (by rfl) U.heap.size 33 i0 _ 88 Tryd.underlying22 hi hz0 hz1 hz2 rfl v2 (md.take t ++ [RR]) (by rfl) HO2.out _ (md.drop t) (by rfl) (HRL.out _ HB2.out) HLM.out.2.2.2.1 HLM.out.2.2.2.2 HB2.out HB2.out.size ?_
                        intro v3 w3 ho3 hb3
                        have HO3 := Lib.hid ho3
                        have HB3 := Lib.hid hb3
                        clear ho3 hb3
                        refine hK.out _ _ (.inr (HSU.out _ HB3.out)) ?_
                        clear hK K
                        try simp only [Act.put, di_t, di_0, di_s, List.getElem_toArray, List.getElem_cons_zero, List.getElem_cons_succ]
                        refine Till.ready (rs := [15]) (by kernel_rfl) (by simp) (TillAll.cons rfl (fun K hK => ?_) TillAll.nil)
                        go_simp
                        refine hK.out _ _ (.inr (HSU.out _ HB3.out)) ?_
                        clear hK K
                        try simp only [Act.put, di_t, di_0, di_s, List.getElem_toArray, List.getElem_cons_zero, List.getElem_cons_succ]
                        refine Till.done (by kernel_rfl) (NoPanic.normal ?_) _
                        have HRE : Hid (Reads elRo w3 v3 (putH ml (s, g) (h, b0, b1, b2, b3, b4, b5, b6, b7))) := Lib.hid (by rw [HINS.out, ← List.append_cons] at *; exact HO3.out.reads)
                        have HBE : Hid (Below w.heap.size w w3) := Lib.hid (nb_trans HXA.out (nb_trans HXU.out HB3.out))
                        clear HB3 HO3 HB2 HO2 HB1 HO1
                        go_wp2
                        go_roundw
                        case rel => exact ⟨k + 1, putH ml (s, g) (h, b0, b1, b2, b3, b4, b5, b6, b7), by omega, by go_num, HNX, HRE, HLP, HBE⟩
                        case measure => simp [intOf]; omega
                      · refine step_bsR (by rfl) 22 _ (by rfl) _ (by rfl) (HBS.out _) ?_
                        have HBA := Lib.hid (nb_alloc HBD.out (.cells (elRo.enc RR).toArray 33))
                        have HRA : Hid (Reads elRo (U.drew.alloc (.cells (elRo.enc RR).toArray 33)) (.slice (some ⟨U.drew.heap.size, 0, none⟩) 1 1) [RR]) := Lib.hid (Reads.oneY (heap_alloc_new _ _))
                        refine hK.out _ _ (.inr (HSU.out _ HBA.out)) ?_
                        clear hK K
                        try simp only [Act.put, di_t, di_0, di_s, List.getElem_toArray, List.getElem_cons_zero, List.getElem_cons_succ]
                        refine Till.ready (rs := [3]) (by kernel_rfl) (by simp) (TillAll.cons rfl (fun K hK => ?_) TillAll.nil)
                        go_simp
                        go_at_call 33
                        refine (copyRos_any _ (md.take t) _ (HRD.out _ HBA.out) HLM.out.1).mono ?_
                        rintro e1 w1 ⟨v1, rfl, ho1, hb1⟩
                        have HB1 : Hid (Below U.heap.size U w1) := Lib.hid (nb_trans HBA.out hb1)
                        have HO1 : Hid (OwnsF elRo w1 U.heap.size 33 v1 (md.take t)) := Lib.hid (ho1.weaken HBA.out.size)
                        have HR1 := Lib.hid (HRA.out.later hb1)
                        clear ho1 hb1
                        try dsimp only
                        refine hK.out _ _ (.inr (HSU.out _ HB1.out)) ?_
                        clear hK K
                        try simp only [Act.put, di_t, di_0, di_s, List.getElem_toArray, List.getElem_cons_zero, List.getElem_cons_succ]
                        refine Till.ready (rs := [10]) (by kernel_rfl) (by simp) (TillAll.cons rfl (fun K hK => ?_) TillAll.nil)
                        refine step_append_ro elRo (by rfl) _ _ 22 (by rfl) U.heap.size 33 i0 _ 88 Tryd.underlying22 hi hz0 hz1 hz2 rfl v1 (md.take t) (by rfl) HO1.out _ [RR] (by rfl) HR1.out HLM.out.2.1 HLM.out.2.2.1 HB1.out HB1.out.size ?_
                        intro v2 w2 ho2 hb2
                        have HO2 := Lib.hid ho2
                        have HB2 := Lib.hid hb2
                        clear ho2 hb2
                        refine hK.out _ _ (.inr (HSU.out _ HB2.out)) ?_
                        clear hK K
                        try simp only [Act.put, di_t, di_0, di_s, List.getElem_toArray, List.getElem_cons_zero, List.getElem_cons_succ]
                        refine Till.ready (rs := [14]) (by kernel_rfl) (by simp) (TillAll.cons rfl (fun K hK => ?_) TillAll.nil)
                        refine step_append_ro elRo (by rfl) _ _ 22 (by rfl) U.heap.size 33 i0 _ 88 Tryd.underlying22 hi hz0 hz1 hz2 rfl v2 (md.take t ++ [RR]) (by rfl) HO2.out _ (md.drop t) (by rfl) (HRL.out _ HB2.out) HLM.out.2.2.2.1 HLM.out.2.2.2.2 HB2.out HB2.out.size ?_
                        intro v3 w3 ho3 hb3
                        have HO3 := Lib.hid ho3
                        have HB3 := Lib.hid hb3
                        clear ho3 hb3
                        refine hK.out _ _ (.inr (HSU.out _ HB3.out)) ?_
                        clear hK K
                        try simp only [Act.put, di_t, di_0, di_s, List.getElem_toArray, List.getElem_cons_zero, List.getElem_cons_succ]
                        refine Till.ready (rs := [15]) (by kernel_rfl) (by simp) (TillAll.cons rfl (fun K hK => ?_) TillAll.nil)
                        go_simp
                        refine hK.out _ _ (.inr (HSU.out _ HB3.out)) ?_
                        clear hK K
                        try simp only [Act.put, di_t, di_0, di_s, List.getElem_toArray, List.getElem_cons_zero, List.getElem_cons_succ]
                        refine Till.done (by kernel_rfl) (NoPanic.normal ?_) _
                        have HRE : Hid (Reads elRo w3 v3 (putH ml (s, g) (h, b0, b1, b2, b3, b4, b5, b6, b7))) := Lib.hid (by rw [HINS.out, ← List.append_cons] at *; exact HO3.out.reads)
                        have HBE : Hid (Below w.heap.size w w3) := Lib.hid (nb_trans HXA.out (nb_trans HXU.out HB3.out))
                        clear HB3 HO3 HB2 HO2 HB1 HO1
                        go_wp2
                        go_roundw
                        case rel => exact ⟨k + 1, putH ml (s, g) (h, b0, b1, b2, b3, b4, b5, b6, b7), by omega, by go_num, HNX, HRE, HLP, HBE⟩
                        case measure => simp [intOf]; omega
            · as_aux_lemma =>
              obtain ⟨⟨d, d0, d1, d2, d3, d4, d5, d6, d7⟩, hd⟩ : ∃ x, atB ml (s, g) = x := ⟨_, rfl⟩
              rw [hd] at HBA e2
              dsimp only at HBA
              have hq := neBe (d, d0, d1, d2, d3, d4, d5, d6, d7) (m, a0, a1, a2, a3, a4, a5, a6, a7) false (decide_eq_false e2)
              dsimp only [beV] at hq
              have HE5 : Hid (appE l c = 5) := Lib.hid (by
                have hz : stepE ml ((s, g), (m, a0, a1, a2, a3, a4, a5, a6, a7), (h, b0, b1, b2, b3, b4, b5, b6, b7)) = 5 := by rw [stepE, if_neg HNE.out, if_neg (by rw [hd]; exact e2)]
                rw [(HST.out (by rw [hz]; decide)).1, hz])
              clear e2 hd
              have kc0 : ∀ y : Later X, y.w.cell? ⟨p, 0, none⟩ = some (.int .i64 s) := fun y => HCL.out _ (nb_trans (Below.refl _ _) y.below) 0 (by decide)
              have kc1 : ∀ y : Later X, y.w.cell? ⟨p, 1, none⟩ = some (.int .i64 g) := fun y => HCL.out _ (nb_trans (Below.refl _ _) y.below) 1 (by decide)
              have kc2 : ∀ y : Later X, y.w.cell? ⟨p, 2, none⟩ = some (.int .i64 m) := fun y => HCL.out _ (nb_trans (Below.refl _ _) y.below) 2 (by decide)
              have kc3 : ∀ y : Later X, y.w.cell? ⟨p, 3, none⟩ = some (.int .i64 a0) := fun y => HCL.out _ (nb_trans (Below.refl _ _) y.below) 3 (by decide)
              have kc4 : ∀ y : Later X, y.w.cell? ⟨p, 4, none⟩ = some (.int .i64 a1) := fun y => HCL.out _ (nb_trans (Below.refl _ _) y.below) 4 (by decide)
              have kc5 : ∀ y : Later X, y.w.cell? ⟨p, 5, none⟩ = some (.int .i64 a2) := fun y => HCL.out _ (nb_trans (Below.refl _ _) y.below) 5 (by decide)
              have kc6 : ∀ y : Later X, y.w.cell? ⟨p, 6, none⟩ = some (.int .i64 a3) := fun y => HCL.out _ (nb_trans (Below.refl _ _) y.below) 6 (by decide)
              have kc7 : ∀ y : Later X, y.w.cell? ⟨p, 7, none⟩ = some (.int .i64 a4) := fun y => HCL.out _ (nb_trans (Below.refl _ _) y.below) 7 (by decide)
              have kc8 : ∀ y : Later X, y.w.cell? ⟨p, 8, none⟩ = some (.int .i64 a5) := fun y => HCL.out _ (nb_trans (Below.refl _ _) y.below) 8 (by decide)
              have kc9 : ∀ y : Later X, y.w.cell? ⟨p, 9, none⟩ = some (.int .i64 a6) := fun y => HCL.out _ (nb_trans (Below.refl _ _) y.below) 9 (by decide)
              have kc10 : ∀ y : Later X, y.w.cell? ⟨p, 10, none⟩ = some (.int .i64 a7) := fun y => HCL.out _ (nb_trans (Below.refl _ _) y.below) 10 (by decide)
              have kcl : ∀ y : Later X, p < y.w.heap.size := fun y => Nat.lt_of_lt_of_le HPL.out (nb_trans (Below.refl _ _) y.below).size
              have HCB : Hid (∀ W, Below X.heap.size X W → Calls Tryd.prog 30 #[.slice ra rn rc, .agg #[.int .i64 s, .int .i64 g]] W fun e w' => e = .returned (.agg #[.int .i64 d, .int .i64 d0, .int .i64 d1, .int .i64 d2, .int .i64 d3, .int .i64 d4, .int .i64 d5, .int .i64 d6, .int .i64 d7]) ∧ Below W.heap.size W w') := Lib.hid (fun W hW => HBA.out W (HRX.out.later hW))
              refine wp_region_later (by kernel_rfl) (by kernel_rfl) ?_
              repeat (go_big_quiet_step ((first | (go_at_call 30; with_reducible exact Calls.later (HCB.out _ (Later.below _))))))
              refine wpQuiet_nil ?_
              rintro _ ⟨nq, rfl⟩
              have HXV := Lib.hid nq.below
              generalize nq.w = V at *
              clear kc0 kc1 kc2 kc3 kc4 kc5 kc6 kc7 kc8 kc9 kc10 kcl
              clear hq
              go_wp2
              go_ret2
              exact RAppPost.no HE5.out (by decide) (nb_trans HXA.out HXV.out)
        · as_aux_lemma =>
          obtain rfl : k = n := by omega
          have HD := Lib.hid (hI.out.done (by rw [HN.out]; exact Nat.le_refl _) HVA.out (by rw [HN.out]; exact h120))
          have HPV := Lib.hid (HP.out (.slice ra rn rc) ml wr hR.out)
          cases hvm : valid ml
          · rw [hvm] at HPV HD
            go_wp2_with fail
            refine HPV.out.mono ?_
            rintro e w6 ⟨rfl, hb6⟩
            have HB6 := Lib.hid (nb_trans hB.out hb6)
            clear hb6 HPV
            go_wp2
            go_ret2
            exact RAppPost.no HD.out.1 (by decide) HB6.out
          · rw [hvm] at HPV HD
            go_wp2_with fail
            refine HPV.out.mono ?_
            rintro e w6 ⟨rfl, hb6⟩
            have HB6 := Lib.hid (nb_trans hB.out hb6)
            have HR6 := Lib.hid (hR.out.later hb6)
            clear hb6 HPV
            go_wp2
            go_ret2
            exact ⟨_, by rw [HD.out.1]; rfl, by rw [HD.out.2]; exact HR6.out, HB6.out⟩
    · as_aux_lemma =>
      have HE : Hid (appE l c = 2) := Lib.hid (by rw [appE, if_pos HVA.out, if_neg (by rw [HN.out]; exact h120)])
      go_wp2_with fail
      refine (HP1.out _ HL.out).mono ?_
      rintro e w1 ⟨rfl, hb1⟩
      have HB1 := Lib.hid hb1
      clear hb1 HP1
      go_wp2
      go_ret2
      exact RAppPost.no HE.out (by decide) HB1.out
end Go.Proofs.YtnmlapoiilckhaaDoor

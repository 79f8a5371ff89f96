/- What is handed out may be written over: the zoo and the changes are as they were: the statement OwnMemory. -/
import Derived.Test.YtcmpaohefihijabGreatDoorDiffTold
import Derived.Test.YtcmpaohefihijabGreatDoorDiffInv
import Derived.Test.YtcmpaohefihijabGreatDoorDiffOwn
import Derived.Test.YtcmpaohefihijabGreatDoorKeptZoo
import Derived.Test.YtcmpaohefihijabGreatDoorLaidKit
import Derived.Test.YtcmpaohefihijabGreatDoorGroundA
import Derived.Deep.RegionHeld3
namespace Go.Proofs.YtcmpaohefihijabGreatDoor
set_option maxRecDepth 8000
open Go Go.ChangeShapes Go.WideShapes Go.ChangeAt Go.RowKit
set_option linter.unusedVariables false
set_option linter.unusedSimpArgs false
set_option maxRecDepth 100000 in
set_option maxHeartbeats 16000000 in
theorem ownMemory_walk (u0 : Value) (z0 : List Opm) (j0 : ∀ x ∈ z0, OpOk x) (u1 : Value) (z1 : List Ch) (j1 : ∀ x ∈ z1, I64 x.1.1 ∧ I64 x.1.2) (w : World) (hv : DVars w) (i0 : Reads elOp w u0 z0) (i1 : Reads elCh w u1 z1) (s0 : z0.length * 128 ≤ 140737488351232) (s1 : z1.length * 160 ≤ 140737488351232) :
    Calls Tryz.prog 3 #[u0, u1] w fun e w' => e = .returned (.bool true) ∧ Below w.heap.size w w' := by
  have HR := Lib.hid i0
  have HOS := Lib.hid j0
  have HC1 := Lib.hid i1
  have HS1 := Lib.hid s1
  have HV := Lib.hid hv
  obtain ⟨oa, oc, hue, -⟩ := i0
  subst hue
  obtain ⟨ca, cc, hce, -⟩ := i1
  subst hce
  have HTL := Lib.hid (fun W h => differed_any W (hv.later (w' := W) h))
  clear j0 hv
  go_enter Tryz.func3, Tryz.ntmps3
  go_wp2_with fail
  refine (kept_any _).mono ?_
  rintro e w0 ⟨rfl, hb0⟩
  have HB0 := Lib.hid hb0
  clear hb0
  go_wp2_with fail
  refine (HTL.out _ HB0.out).mono ?_
  rintro e w1 ⟨rfl, hb1⟩
  have HB1 := Lib.hid (nb_trans HB0.out hb1)
  clear hb1 HTL
  go_wp2_with fail
  refine (done_any _ z0 _ (HR.out.later HB1.out) HOS.out).mono ?_
  rintro e w2 ⟨p, F, rfl, hz, hF, hb2⟩
  have HZ := Lib.hid hz
  have HB2 := Lib.hid (nb_trans HB1.out hb2)
  have HOK : Hid (ZOk (doneZ z0)) := Lib.hid (ZOk.done z0)
  clear hz hF hb2
  obtain ⟨s, hs⟩ : ∃ s, doneZ z0 = s := ⟨_, rfl⟩
  rw [hs] at HZ HOK
  clear hs
  go_wp2_with fail
  refine (zooState_any p F s _ HZ.out HOK.out).mono ?_
  rintro e w3 ⟨vg, vr, vb, rfl, hst, hb3⟩
  have HST := Lib.hid hst
  have HB23 := Lib.hid hb3
  obtain ⟨g1, g2, rfl, -⟩ := hst.g.reads
  obtain ⟨r1, r2, rfl, -⟩ := hst.r.reads
  obtain ⟨b1, b2, rfl, -⟩ := hst.b.reads
  have HA : Hid (Below w3.heap.size w3 (w3.alloc (.cells #[.slice g1 (gensL s.l).length g2, .slice r1 s.rows.length r2, .slice b1 s.bs.length b2] 31))) := Lib.hid (nb_alloc (Below.refl _ _) _)
  have HAB : Hid ((w3.alloc (.cells #[.slice g1 (gensL s.l).length g2, .slice r1 s.rows.length r2, .slice b1 s.bs.length b2] 31)).heap[w3.heap.size]? = some (.cells #[.slice g1 (gensL s.l).length g2, .slice r1 s.rows.length r2, .slice b1 s.bs.length b2] 31)) := Lib.hid (heap_alloc_new _ _)
  clear hst hb3
  go_wp2_with fail
  generalize w3.alloc (.cells #[.slice g1 (gensL s.l).length g2, .slice r1 s.rows.length r2, .slice b1 s.bs.length b2] 31) = A at *
  refine (zooState_any p F s _ (HZ.out.later (nb_trans HB23.out HA.out)) HOK.out).mono ?_
  rintro e w4 ⟨vg, vr, vb, rfl, hst, hb4⟩
  have HBA4 := Lib.hid hb4
  have HWG := Lib.hid (Wr.of hst.g (Nat.le_refl _))
  have HWR := Lib.hid (Wr.of hst.r (Nat.le_refl _))
  have HWB := Lib.hid (Wr.of hst.b (Nat.le_refl _))
  obtain ⟨ng, hng⟩ : ∃ n, (gensL s.l).length = n := ⟨_, rfl⟩
  obtain ⟨nr, hnr⟩ : ∃ n, s.rows.length = n := ⟨_, rfl⟩
  obtain ⟨nb, hnb⟩ : ∃ n, s.bs.length = n := ⟨_, rfl⟩
  rw [hng] at HWG
  rw [hnr] at HWR
  rw [hnb] at HWB
  obtain ⟨xg, yg, rfl, lg, mg, -⟩ := HWG.out
  obtain ⟨xr, yr, rfl, lr, mr, -⟩ := HWR.out
  obtain ⟨xb, yb, rfl, lb, mb, -⟩ := HWB.out
  unfold maxLen at mg mr mb
  have HX : Hid (Below w4.heap.size w4 (w4.alloc (.cells #[.slice xg ng yg, .slice xr nr yr, .slice xb nb yb] 31))) := Lib.hid (nb_alloc (Below.refl _ _) _)
  have HXB : Hid ((w4.alloc (.cells #[.slice xg ng yg, .slice xr nr yr, .slice xb nb yb] 31)).heap[w4.heap.size]? = some (.cells #[.slice xg ng yg, .slice xr nr yr, .slice xb nb yb] 31)) := Lib.hid (heap_alloc_new _ _)
  rw [hng, hnr, hnb] at HAB HST
  clear hst hb4 hng hnr hnb
  go_wp2_with fail
  generalize w4.alloc (.cells #[.slice xg ng yg, .slice xr nr yr, .slice xb nb yb] 31) = W0 at *
  have HOW : Hid (Ow W0 A.heap.size w4.heap.size (.slice xg ng yg) (.slice xr nr yr) (.slice xb nb yb) ng nr nb W0) := Lib.hid ⟨Kept.refl _ _, HWG.out.later (Nat.le_refl _) HX.out, HWR.out.later (Nat.le_refl _) HX.out, HWB.out.later (Nat.le_refl _) HX.out⟩
  have HBOX : Hid (∀ W, Ow W0 A.heap.size w4.heap.size (.slice xg ng yg) (.slice xr nr yr) (.slice xb nb yb) ng nr nb W → W.cell? ⟨w4.heap.size, 0, none⟩ = some (.slice xg ng yg) ∧ W.cell? ⟨w4.heap.size, 1, none⟩ = some (.slice xr nr yr) ∧ W.cell? ⟨w4.heap.size, 2, none⟩ = some (.slice xb nb yb) ∧ w4.heap.size < W.heap.size) := Lib.hid (fun W h => by
    have hl := (Array.getElem?_eq_some_iff.1 HXB.out).1
    have hb := (h.k.block _ hl (by omega)).trans HXB.out
    exact ⟨by rw [cell_of_row _ _ _ _ _ _ hb]; rfl, by rw [cell_of_row _ _ _ _ _ _ hb]; rfl, by rw [cell_of_row _ _ _ _ _ _ hb]; rfl, (Array.getElem?_eq_some_iff.1 hb).1⟩)
  obtain ⟨c0, c1, c2, hl4⟩ := HBOX.out W0 HOW.out
  go_wp2
  go_loopw [31] (fun i wr => ∃ k : Nat, k ≤ nr ∧ i = .int .i64 k ∧ Hid (Ow W0 A.heap.size w4.heap.size (.slice xg ng yg) (.slice xr nr yr) (.slice xb nb yb) ng nr nb wr)) (fun i _ => nr - (intOf i).toNat)
  case atStart => exact ⟨0, by omega, rfl, HOW⟩
  case round =>
    obtain ⟨k, hk, rfl, hO⟩ := hrel
    obtain ⟨d0, d1, d2, hl5⟩ := HBOX.out _ hO.out
    by_cases hkn : k < nr
    · obtain ⟨xx, yy, hxe, -, -, hW⟩ := hO.out.r
      cases hxe
      obtain ⟨g, rfl, hg1, hg2, hth⟩ := hW k hkn
      have HNX := Lib.hid (hO.out.put hg1 hg2 (k * 11) [.int .i64 0, .int .i64 0, .int .i64 0, .int .i64 0, .int .i64 0, .int .i64 0, .int .i64 0, .int .i64 0, .int .i64 0, .int .i64 0, .int .i64 0])
      clear hW c0 c1 c2
      go_wp2_with (refine wpList_store_mid rfl 39 _ _ rfl _ _ _ rfl rfl ?m1 ?m2 ?m3 ?m4; all_goals refine Hid.out ?_)
      case m1 => exact Lib.hid hth
      case m2 => exact Lib.hid (by kernel_rfl)
      case m3 => exact Lib.hid (by kernel_rfl)
      case m4 =>
        refine Lib.hid ?_
        clear hth
        go_wp2
        go_roundw
        case rel => exact ⟨k + 1, by omega, by go_num, HNX⟩
        case measure => simp [intOf]; omega
    · obtain rfl : k = nr := by omega
      clear c0 c1 c2
      go_wp2
      clear d0 d1 d2
      go_loopw [43] (fun i wr => ∃ t : Nat, t ≤ ng ∧ i = .int .i64 t ∧ Hid (Ow W0 A.heap.size w4.heap.size (.slice xg ng yg) (.slice xr k yr) (.slice xb nb yb) ng k nb wr)) (fun i _ => ng - (intOf i).toNat)
      case atStart => exact ⟨0, by omega, rfl, hO⟩
      case round =>
        clear hl5
        obtain ⟨t, ht, rfl, hO1⟩ := hrel
        obtain ⟨d0, d1, d2, hl5⟩ := HBOX.out _ hO1.out
        by_cases htn : t < ng
        · obtain ⟨xx, yy, hxe, -, -, hW⟩ := hO1.out.g
          cases hxe
          obtain ⟨g, rfl, hg1, hg2, hth⟩ := hW t htn
          have HNX := Lib.hid (hO1.out.put hg1 hg2 t [.int .i64 77])
          obtain ⟨hs1, hf1⟩ := hth 0 (by decide)
          rw [Nat.mul_one, Nat.add_zero] at hs1 hf1
          obtain ⟨u, hu⟩ := Option.isSome_iff_exists.1 hs1
          have hgl : g < wr.heap.size := by omega
          clear hW hth hs1
          go_wp2
          go_roundw
          case rel => exact ⟨t + 1, by omega, by go_num, HNX⟩
          case measure => simp [intOf]; omega
        · obtain rfl : t = ng := by omega
          go_wp2
          clear d0 d1 d2
          go_loopw [54] (fun i wr => ∃ q : Nat, q ≤ nb ∧ i = .int .i64 q ∧ Hid (Ow W0 A.heap.size w4.heap.size (.slice xg t yg) (.slice xr k yr) (.slice xb nb yb) t k nb wr)) (fun i _ => nb - (intOf i).toNat)
          case atStart => exact ⟨0, by omega, rfl, hO1⟩
          case round =>
            clear hl5
            obtain ⟨q, hq, rfl, hO2⟩ := hrel
            obtain ⟨d0, d1, d2, hl5⟩ := HBOX.out _ hO2.out
            by_cases hqn : q < nb
            · obtain ⟨xx, yy, hxe, -, -, hW⟩ := hO2.out.b
              cases hxe
              obtain ⟨g, rfl, hg1, hg2, hth⟩ := hW q hqn
              have HNX := Lib.hid (hO2.out.put hg1 hg2 (q * 4) [.int .i64 0, .int .i64 0, .int .i64 0, .int .i64 0])
              clear hW
              go_wp2_with (refine wpList_store_mid rfl 41 _ _ rfl _ _ _ rfl rfl ?m1 ?m2 ?m3 ?m4; all_goals refine Hid.out ?_)
              case m1 => exact Lib.hid hth
              case m2 => exact Lib.hid (by kernel_rfl)
              case m3 => exact Lib.hid (by kernel_rfl)
              case m4 =>
                refine Lib.hid ?_
                clear hth
                go_wp2
                go_roundw
                case rel => exact ⟨q + 1, by omega, by go_num, HNX⟩
                case measure => simp [intOf]; omega
            · obtain rfl : q = nb := by omega
              have HBW : Hid (Below A.heap.size A wr) := Lib.hid ((nb_trans HBA4.out HX.out).trans (hO2.out.k.below (nb_trans HBA4.out HX.out).size (fun b e => e.1)))
              have H3W := Lib.hid (nb_trans HA.out HBW.out)
              have H2W := Lib.hid (nb_trans HB23.out H3W.out)
              have HWW := Lib.hid (nb_trans HB2.out H2W.out)
              have HCW := Lib.hid (HC1.out.later HWW.out)
              have hw3 := (Array.getElem?_eq_some_iff.1 HAB.out).1
              have HABW : Hid (wr.heap[w3.heap.size]? = some (.cells #[.slice g1 t g2, .slice r1 k r2, .slice b1 q b2] 31)) := Lib.hid ((HBW.out.block _ hw3).trans HAB.out)
              clear hw3
              go_wp2_with fail
              refine (copyChs_any _ z1 wr HCW.out HS1.out).mono ?_
              rintro e w5 ⟨u5, rfl, ho5, hb5⟩
              obtain ⟨x5, y5, rfl, -⟩ := ho5.reads
              have HO5 := Lib.hid ho5.reads
              have HB5 := Lib.hid (nb_trans HWW.out hb5)
              have HC5 := Lib.hid (HCW.out.later hb5)
              have HZ5 := Lib.hid (HZ.out.later (nb_trans H2W.out hb5))
              have HST5 := Lib.hid (HST.out.later (nb_trans H3W.out hb5))
              have hwl := (Array.getElem?_eq_some_iff.1 HABW.out).1
              have HAB5 : Hid (w5.heap[w3.heap.size]? = some (.cells #[.slice g1 t g2, .slice r1 k r2, .slice b1 q b2] 31)) := Lib.hid ((hb5.block _ hwl).trans HABW.out)
              clear ho5 hb5 hwl d0 d1 d2
              go_wp2_with fail
              refine (invert_any _ z1 w5 HC5.out HS1.out).mono ?_
              rintro e w6 ⟨u6, rfl, ho6, hb6⟩
              have HW6 := Lib.hid (Wr.of ho6 (Nat.le_refl _))
              have HB6 := Lib.hid hb6
              obtain ⟨n6, hn6⟩ : ∃ n, (invC z1).length = n := ⟨_, rfl⟩
              rw [hn6] at HW6
              obtain ⟨x6, y6, rfl, l6, m6, -⟩ := HW6.out
              unfold maxLen at m6
              clear ho6 hb6 hn6
              go_wp2
              go_loopw [69] (fun i wr => ∃ r : Nat, r ≤ n6 ∧ i = .int .i64 r ∧ Hid (Below w5.heap.size w5 wr) ∧ Hid (Wr wr w5.heap.size w6.heap.size 20 (.slice x6 n6 y6) n6)) (fun i _ => n6 - (intOf i).toNat)
              case atStart => exact ⟨0, by omega, rfl, HB6, HW6⟩
              case round =>
                obtain ⟨r, hr, rfl, hB, hWW⟩ := hrel
                by_cases hrn : r < n6
                · obtain ⟨xx, yy, hxe, -, -, hW⟩ := hWW.out
                  cases hxe
                  obtain ⟨g, rfl, hg1, hg2, hth⟩ := hW r hrn
                  have HNW := Lib.hid (hWW.out.setCells g (r * 20) [.int .i64 0, .int .i64 0, .int .i64 0, .int .i64 0, .int .i64 0, .int .i64 0, .int .i64 0, .int .i64 0, .int .i64 0, .int .i64 0, .int .i64 0, .int .i64 0, .int .i64 0, .int .i64 0, .int .i64 0, .int .i64 0, .int .i64 0, .int .i64 0, .int .i64 0, .int .i64 0])
                  have HNB : Hid (∀ o vs, Below w5.heap.size w5 (wr.setCells g o vs)) := Lib.hid (fun o vs => hB.out.trans ((ow_setCells g vs o wr).below hB.out.size (fun b e => by rw [e]; exact hg1)))
                  clear hW
                  go_wp2_with (refine wpList_store_mid rfl 44 _ _ rfl _ _ _ rfl rfl ?m1 ?m2 ?m3 ?m4; all_goals refine Hid.out ?_)
                  case m1 => exact Lib.hid hth
                  case m2 => exact Lib.hid (by kernel_rfl)
                  case m3 => exact Lib.hid (by kernel_rfl)
                  case m4 =>
                    refine Lib.hid ?_
                    clear hth
                    go_wp2
                    go_roundw
                    case rel => exact ⟨r + 1, by omega, by go_num, Lib.hid (HNB.out _ _), HNW⟩
                    case measure => simp [intOf]; omega
                · obtain rfl : r = n6 := by omega
                  have HKK : Hid (∀ Y, Below w5.heap.size w5 Y → Y.cell? ⟨w3.heap.size, 0, none⟩ = some (.slice g1 t g2) ∧ Y.cell? ⟨w3.heap.size, 1, none⟩ = some (.slice r1 k r2) ∧ Y.cell? ⟨w3.heap.size, 2, none⟩ = some (.slice b1 q b2)) := Lib.hid (fun Y hY => by
                    have hb := (hY.block _ (Array.getElem?_eq_some_iff.1 HAB5.out).1).trans HAB5.out
                    exact ⟨by rw [cell_of_row _ _ _ _ _ _ hb]; rfl, by rw [cell_of_row _ _ _ _ _ _ hb]; rfl, by rw [cell_of_row _ _ _ _ _ _ hb]; rfl⟩)
                  obtain ⟨f0, f1, f2⟩ := HKK.out _ hB.out
                  have HBD := Lib.hid hB.out.drew
                  go_wp2_with fail
                  go_region_held3 (fun x => (x.cell? ⟨w3.heap.size, 0, none⟩ = some (.slice g1 t g2) ∧ x.cell? ⟨w3.heap.size, 1, none⟩ = some (.slice r1 k r2) ∧ x.cell? ⟨w3.heap.size, 2, none⟩ = some (.slice b1 q b2))) (first | go_keep | exact HKK.out _ HX1.out | exact HKK.out _ HX2.out | exact HKK.out _ HX3.out) (first
                    | ((go_at_call 7; refine (zooState_any p F s _ (HZ5.out.later HBD.out) HOK.out).mono ?_; rintro e x1 ⟨yg, yr, yb, rfl, hyt, hx1⟩; have HYT := Lib.hid hyt; have HX1 : Hid (Below w5.heap.size w5 x1) := Lib.hid (nb_trans HBD.out hx1); clear hyt hx1))
                    | ((go_at_call 10; refine (sameSt_any _ (HST5.out.later HX1.out) HYT.out).mono ?_; rintro e x2 ⟨rfl, hx2⟩; have HX2 : Hid (Below w5.heap.size w5 x2) := Lib.hid (nb_trans HX1.out hx2); clear hx2))
                    | ((go_at_call 11; refine (eqChs_any _ _ z1 z1 _ (HO5.out.later HX2.out) (HC5.out.later HX2.out)).mono ?_; rw [decide_eq_true (rfl : z1 = z1)]; rintro e x3 ⟨rfl, hx3⟩; have HX3 : Hid (Below w5.heap.size w5 x3) := Lib.hid (nb_trans HX2.out hx3); clear hx3)))
                  have HEND : Hid (Below w.heap.size w x3) := Lib.hid (nb_trans HB5.out HX3.out)
                  go_wp2
                  go_ret
                  exact ⟨rfl, HEND.out⟩
namespace ownMemory
theorem own : ownKnob Tryz.prog.godebug = none := by kernel_rfl
theorem laidOut : laidOutB Tryz.prog = true := by kernel_rfl

set_option maxRecDepth 100000 in
set_option maxHeartbeats 4000000 in
theorem lifted (os : Os) (started : os.Started) (H : Type) (enc : TypeId × Value → H) :
    ReturnsInHanded {} Tryz.checked os 3 .any (fun w args => (Rows.ownMemorySpec.pre enc Tryz.prog Tryz.f3 Rows.ownMemoryRow.domain false w args ∧ laidMetH Tryz.prog Rows.ownMemoryRow.laid w) ∧ sizedMet enc Tryz.prog Tryz.f3 (OpenSpec.ofChange Rows.ownMemorySpec) false w args)
      (Rows.ownMemorySpec.post enc Tryz.prog Tryz.f3 false true false false) := by
  refine returnsInHanded_laid_shaped (C := Tryz.checked) (X := fun w _ => laidMetH Tryz.prog Rows.ownMemoryRow.laid w) (fun _ _ _ hh h => h.of_heap hh) own started (by kernel_rfl) Tryz.func3
    (ChangeSpec.witness_shaped (enc := enc) (C := Tryz.checked) (os := os) (X := fun w _ => laidMetH Tryz.prog Rows.ownMemoryRow.laid w) false (World.laidAll Tryz.prog os Rows.ownMemoryRow.laid) #[.slice none 0 0, .slice none 0 0] 8 (World.laidAll_os _ _ _)
      (World.shaped_of_ZipB (by kernel_rfl) (by kernel_rfl)) (by kernel_rfl) (by kernel_rfl) (by kernel_rfl)
      (by rw [MakeChecks.laidMetH_plain _ _ _ (by kernel_rfl)]; exact laidMet_laidAll _ (by kernel_rfl) (by kernel_rfl))) ?_
  intro W base args ds gs before hval0 hW hcnd hsz hlaid hshape
  have hval : ∀ (j : Nat) t v, Tryz.f3.params[j]? = some t → args[j]? = some v → Value.okWide Tryz.prog W .any base t v := hval0
  have hW' := hW
  obtain ⟨p, q, hA0, hV, rfl, hfz, hnd⟩ := hW
  have hA : DataW.TrodAll enc Tryz.prog W 0 (fun _ => true) true Tryz.f3.params.toList args.toList ds p := hA0
  rw [Tryz.params3] at hA hval
  obtain ⟨v0, vs0, d0, ds0, p0, q0, hargs, rfl, rfl, h0, r0⟩ := trodAll_cons hA
  obtain ⟨v1, vs1, d1, ds1, p1, q1, rfl, rfl, rfl, h1, r1⟩ := trodAll_cons r0
  obtain ⟨rfl, rfl, rfl⟩ := trodAll_nil r1
  obtain rfl : args = #[v0, v1] := by cases args; simp_all
  obtain ⟨rfl, rfl⟩ := trodVars_none hV
  have k0' := h0
  have lt0 : ∀ x ∈ p0, x.block < W.heap.size := by obtain ⟨m, hm⟩ := h0; exact DataW.trod_lt m _ _ _ hm
  have k1' := h1
  have lt1 : ∀ x ∈ p1, x.block < W.heap.size := by obtain ⟨m, hm⟩ := h1; exact DataW.trod_lt m _ _ _ hm
  obtain ⟨z0, i0, j0⟩ : ∃ zs, Reads elOp W v0 zs ∧ ∀ x ∈ zs, OpOk x := by
    obtain ⟨a0, len0, cap0, rfl⟩ := okWide_slice Tryz.underlying22 (hval 0 22 v0 rfl rfl)
    exact Reads_ofP elOp OpOk Tryz.underlying22 (by kernel_rfl) op_dec h0
  obtain ⟨z1, i1, j1⟩ : ∃ zs, Reads elCh W v1 zs ∧ ∀ x ∈ zs, I64 x.1.1 ∧ I64 x.1.2 := by
    obtain ⟨a0, len0, cap0, rfl⟩ := okWide_slice Tryz.underlying23 (hval 1 23 v1 rfl rfl)
    exact Reads_ofP elCh (fun x => I64 x.1.1 ∧ I64 x.1.2) Tryz.underlying23 (by kernel_rfl) ch_dec h1
  rw [Tryz.params3] at hsz
  have s0 : z0.length * 128 ≤ 140737488351232 := by
    obtain ⟨aa, cc, ee, _⟩ := i0
    have hh := k0'
    rw [ee] at hh
    exact trod_len Tryz.underlying22 (show Tryz.prog.bytesOf 53 = 128 by kernel_rfl) hh (fun el sp hd => sized_slice hsz (j := 0) (t := 22) rfl (by rw [hd]; rfl) Tryz.underlying22)
  have s1 : z1.length * 160 ≤ 140737488351232 := by
    obtain ⟨aa, cc, ee, _⟩ := i1
    have hh := k1'
    rw [ee] at hh
    exact trod_len Tryz.underlying23 (show Tryz.prog.bytesOf 44 = 160 by kernel_rfl) hh (fun el sp hd => sized_slice hsz (j := 1) (t := 23) rfl (by rw [hd]; rfl) Tryz.underlying23)
  clear hA0 hval0
  refine (ownMemory_walk v0 z0 j0 v1 z1 j1 W (DVars.of hlaid hshape) i0 i1 s0 s1).mono fun e W' ⟨he, bel⟩ => ?_
  subst he
  exact ⟨_, rfl, _, _, _, [], _, [], hW', trodAll_mk1 (shut_bool Tryz.underlying4 _), (trodAll_cons_mk (Below.trod laidOut (by kernel_rfl) (of_decide_eq_true (by kernel_rfl)) k0' bel lt0) (trodAll_cons_mk (Below.trod laidOut (by kernel_rfl) (of_decide_eq_true (by kernel_rfl)) k1' bel lt1) trodAll_mk0)), rfl, bel.frame _, fun h => by cases h⟩
end ownMemory

theorem ownMemory_proved : Rows.OwnMemorySaid :=
  OpenClaim.holds_of_wide 3 Tryz.f3 rfl rfl rfl rfl rfl rfl rfl ⟨rfl, rfl, rfl, rfl, rfl⟩ rfl rfl rfl rfl rfl (by kernel_rfl) Tryz.func3 (by kernel_rfl)
    (of_decide_eq_true (by kernel_rfl)) (by unfold Func.isWrapper; first | (rw [if_pos (by decide +kernel)]; kernel_rfl) | (rw [if_neg (by decide +kernel)]; exact ⟨rfl, rfl⟩))
    (fun os started H enc _ => ownMemory.lifted os started H enc)
theorem ownMemory_card : Rows.OwnMemoryCardSaid :=
  Claim7.holds_tied_plain_at .later [] [.data] true (true, "0a9178a54ef9666b324d742a46167eba4fa9ab885cc22989cea6b2217eec928b") true ownMemory_proved (fun _ h => by cases h) (by kernel_rfl) (fun _ h => by cases h) ownMemory_row_tie rfl ⟨rfl, rfl⟩ (by kernel_rfl) rfl
    (fun f fn hf hfn => by
      obtain rfl : f = 3 := Option.some.inj ((show Tryz.prog.funcNamed Rows.ownMemoryRow.func = some 3 by kernel_rfl).symm.trans hf) |>.symm
      obtain rfl : fn = Tryz.f3 := (Option.some.inj (Tryz.func3.symm.trans hfn)).symm
      exact ⟨by kernel_rfl, fun j t ht => by
        rw [Tryz.params3] at ht
        have hm : t ∈ [22, 23] := by simpa using Array.mem_of_getElem? ht
        have hall : ([22, 23].all fun u => !Tryz.prog.wantsStandIn u) = true := by kernel_rfl
        exact (show Tryz.prog.wantsStandIn t = false by simpa using List.all_eq_true.1 hall t hm)⟩)
    (by kernel_rfl)

end Go.Proofs.YtcmpaohefihijabGreatDoor

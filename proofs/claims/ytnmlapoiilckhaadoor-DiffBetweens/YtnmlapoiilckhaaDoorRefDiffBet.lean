/- The contract of the reference's Between. -/
import Derived.Test.YtnmlapoiilckhaaDoorRefBetKit
import Derived.Test.YtnmlapoiilckhaaDoorRefDiffMay
import Derived.Deep.CutRange
import Derived.Deep.DeepCutAuto
namespace Go.Proofs.YtnmlapoiilckhaaDoor
set_option maxRecDepth 8000
open Go.RowKit
set_option linter.unusedSimpArgs false
set_option linter.unusedVariables false

def lenV : Value → Nat
  | .slice _ n _ => n
  | _ => 0
set_option maxRecDepth 100000 in
set_option maxHeartbeats 8000000 in
theorem refBetween_any (u v : Value) (a b : List Ro) (w : World) (ha : Reads elRo w u a) (hb : Reads elRo w v b) : Calls Tryd.prog 10 #[u, v] w (BetPost w a b) := by
  obtain ⟨i0, hi, hz0, hz1, hz2⟩ := info_parts infoCh
  have HA := Lib.hid ha
  have HB := Lib.hid hb
  obtain ⟨ua, ul, uc, hue⟩ : ∃ a k c, u = .slice a k c := by obtain ⟨a, c, e, _⟩ := ha; exact ⟨_, _, _, e⟩
  obtain ⟨va, vl, vc, hve⟩ : ∃ a k c, v = .slice a k c := by obtain ⟨a, c, e, _⟩ := hb; exact ⟨_, _, _, e⟩
  clear ha hb
  subst hue hve
  go_enter Tryd.func10, Tryd.ntmps10
  cases hva : valid a
  · as_aux_lemma =>
    have HP := Lib.hid (fun W => rowsMay_any (.slice ua ul uc) a W)
    rw [hva] at HP
    have HE : Hid ((valid a && valid b) = false) := Lib.hid (by rw [hva]; rfl)
    clear hva
    go_wp2_with (go_at_call 25; refine (HP.out _ HA.out).mono ?_; rintro e w1 ⟨rfl, hb1⟩)
    go_ret2
    exact BetPost.no HE.out hb1
  · cases hvb : valid b
    · as_aux_lemma =>
      have HP := Lib.hid (fun W => rowsMay_any (.slice ua ul uc) a W)
      have HP2 := Lib.hid (fun W => rowsMay_any (.slice va vl vc) b W)
      rw [hva] at HP
      rw [hvb] at HP2
      have HE : Hid ((valid a && valid b) = false) := Lib.hid (by rw [hvb]; cases valid a <;> rfl)
      clear hva hvb
      go_wp2_with fail
      refine (HP.out _ HA.out).mono ?_
      rintro e w1 ⟨rfl, hb1⟩
      have HB1 := Lib.hid hb1
      clear hb1
      go_wp2_with fail
      refine (HP2.out _ (HB.out.later HB1.out)).mono ?_
      rintro e w2 ⟨rfl, hb2⟩
      have HB2 := Lib.hid (nb_trans HB1.out hb2)
      clear hb2
      go_wp2
      go_ret2
      exact BetPost.no HE.out HB2.out
    · have HP := Lib.hid (fun W => rowsMay_any (.slice ua ul uc) a W)
      have HP2 := Lib.hid (fun W => rowsMay_any (.slice va vl vc) b W)
      rw [hva] at HP
      rw [hvb] at HP2
      have HLA := Lib.hid (valid_len hva)
      have HLB := Lib.hid (valid_len hvb)
      have HEND : Hid (∀ (x : Value) (w' : World), OwnsF elCh w' w.heap.size 36 x (mrg a b) → Below w.heap.size w w' → BetPost w a b (.returned (.tuple #[x, .int .i64 0])) w') := Lib.hid (fun x w' ho hb => ⟨x, by rw [betE, hva, hvb]; rfl, by rw [betL, hva, hvb]; exact ho, hb⟩)
      clear hva hvb
      go_wp2_with fail
      refine (HP.out _ HA.out).mono ?_
      rintro e w1 ⟨rfl, hb1⟩
      have HB1 := Lib.hid hb1
      clear hb1
      go_wp2_with fail
      refine (HP2.out _ (HB.out.later HB1.out)).mono ?_
      rintro e w2 ⟨rfl, hb2⟩
      have HB2 := Lib.hid (nb_trans HB1.out hb2)
      clear hb2 HP HP2
      go_wp2
      go_loopw [0, 1, 6] (fun x y z wr => ∃ (xs ys : List Ro) (out : List Ch), Hid (Reads elRo w x xs) ∧ Hid (Reads elRo w y ys) ∧ Hid (mrg a b = out ++ mrg xs ys) ∧ Hid (out.length + (xs.length + ys.length) ≤ 120) ∧ Hid (OwnsF elCh wr w.heap.size 36 z out) ∧ Hid (Below w.heap.size w wr)) (fun x y _ _ => lenV x + lenV y)
      case atStart => exact ⟨a, b, [], HA, HB, Lib.hid rfl, Lib.hid (by have := HLA.out; have := HLB.out; simp; omega), OwnsF.nil _ _ _ _, HB2⟩
      case round =>
        obtain ⟨xs, ys, out, hx, hy, hm, hl, hO, hB⟩ := hrel
        obtain ⟨xa, xc, hxe, hxl, hxm, hxc⟩ := hx.out
        obtain ⟨ya, yc, hye, hyl, hym, hyc⟩ := hy.out
        obtain ⟨oa, oc, hoe, -⟩ := hO.out.reads
        subst hxe hye
        clear hxl hxm hxc hyl hym hyc
        obtain ⟨no, hno⟩ : ∃ no, out.length = no := ⟨_, rfl⟩
        have HNO := Lib.hid hno
        rw [hno] at hoe
        clear hno
        rw [hoe] at hO ⊢
        clear hoe
        cases xs with
        | nil =>
          cases ys with
          | nil =>
            have HE : Hid (mrg a b = out) := Lib.hid (by rw [hm.out, mrg, List.append_nil])
            go_wp2
            go_ret2
            exact HEND.out _ _ (by rw [HE.out]; exact hO.out) hB.out
          | cons y ys =>
            obtain ⟨⟨ys_, yg⟩, n, b0, b1, b2, b3, b4, b5, b6, b7⟩ := y
            obtain ⟨by_, oy, ny, rfl, hny, hny', hcny, hmny, hbny, hwny, hrny, htny, htny'⟩ := first_ro hy.out
            have HCY := Lib.hid hrny
            have HTY := Lib.hid htny
            have HTY' := Lib.hid htny'
            have HWY := Lib.hid hwny
            have HNY := Lib.hid hny
            have hSY : ∀ W, Below w.heap.size w W → (Instr.loadAt 28 (.pointer (some ⟨by_, oy, none⟩))).run Tryd.prog W = .ok (.agg #[.int .i64 ys_, .int .i64 yg]) W ∧ (Instr.loadAt 31 (.pointer (some ⟨by_, oy + 2, none⟩))).run Tryd.prog W = .ok (.agg #[.int .i64 n, .int .i64 b0, .int .i64 b1, .int .i64 b2, .int .i64 b3, .int .i64 b4, .int .i64 b5, .int .i64 b6, .int .i64 b7]) W := fun W hW => ⟨ld_roH (hrny W hW), ld_roB (hrny W hW)⟩
            have HSY := Lib.hid hSY
            have hn0Y : ((ny : Int) + 1 == 0) = false := by simp; omega
            have hp0Y : (0 : Int) < (ny : Int) + 1 := by omega
            have hyR : Hid (Reads elRo w (.slice (some ⟨by_, oy, none⟩) (ny + 1) yc) (((ys_, yg), n, b0, b1, b2, b3, b4, b5, b6, b7) :: ys)) := Lib.hid (by rw [← hny']; exact hy.out)
            rw [hny'] at *
            clear hrny htny htny' hwny hny hSY hny'

            have hl9 := hl.out
            simp only [List.length_cons, List.length_nil] at hl9
            rw [HNY.out] at hl9
            simp only [List.length_nil] at hx ⊢
            have HM : Hid (mrg a b = out ++ consC ((ys_, yg), (-1, 0, 0, 0, 0, 0, 0, 0, 0), (n, b0, b1, b2, b3, b4, b5, b6, b7)) (mrg [] ys)) := Lib.hid (by rw [hm.out, mrg]; rfl)
            clear hm
            go_wp2_with fail
            refine (refNone_any _).mono ?_
            rintro e w3 ⟨rfl, hb3⟩
            have HB3 := Lib.hid (nb_trans hB.out hb3)
            have HO3 := Lib.hid (hO.out.later hb3)
            clear hb3
            go_wp2_with fail
            refine (refNone_any _).mono ?_
            rintro e w4 ⟨rfl, hb4⟩
            have HB4 := Lib.hid (nb_trans HB3.out hb4)
            have HO4 := Lib.hid (HO3.out.later hb4)
            clear hb4 HO3 HB3
            have hst := st_new ((0, 0), noB, noB) w4
            dsimp only [chV, noB] at hst
            have HX0 : Hid (Bx w w4.heap.size (.slice oa no oc) out ((0, 0), (-1, 0, 0, 0, 0, 0, 0, 0, 0), (-1, 0, 0, 0, 0, 0, 0, 0, 0)) (w4.alloc (.cells (elCh.enc ((0, 0), (-1, 0, 0, 0, 0, 0, 0, 0, 0), (-1, 0, 0, 0, 0, 0, 0, 0, 0))).toArray 36))) := Lib.hid ⟨HB4.out.size, fun k e e2 => by have := HO4.out.lt e; omega, nb_alloc HB4.out _, heap_alloc_new _ _, HO4.out.later (nb_alloc (Below.refl _ _) _)⟩
            clear HB4 HO4 hO hB
            generalize w4.alloc (.cells (elCh.enc ((0, 0), (-1, 0, 0, 0, 0, 0, 0, 0, 0), (-1, 0, 0, 0, 0, 0, 0, 0, 0))).toArray 36) = X at *
            go_upto_region 6 with (refine wpList_stY rfl 36 _ _ rfl _ rfl _ rfl hst ?_)
            clear hst
            generalize w4.heap.size = q at *
            try dsimp only [Act.put]
            refine wp_region_later (by kernel_rfl) (by kernel_rfl) ?_
            repeat (go_big_quiet_step ((fail)))
            refine wpQuiet_nil ?_
            rintro _ ⟨nq, rfl⟩
            have HV0 := Lib.hid (HX0.out.later nq.below)
            generalize nq.w = V at *
            clear HX0
            go_upto_region 7 with fail
            refine wp_region_later (by kernel_rfl) (by kernel_rfl) ?_
            repeat (go_big_quiet_step ((fail)))
            refine wpQuiet_nil ?_
            rintro _ ⟨nq, rfl⟩
            have HZ0 := Lib.hid (HV0.out.later nq.below)
            generalize nq.w = Z at *
            clear HV0
            go_upto_if 80 with fail
            go_cut [1] from 18 to 101 (fun c0 wx => Hid (Reads elRo w c0 ys) ∧ Hid (Bx w q (.slice oa no oc) out ((ys_, yg), (-1, 0, 0, 0, 0, 0, 0, 0, 0), (n, b0, b1, b2, b3, b4, b5, b6, b7)) wx))
            case first =>
              go_upto_region 12 with fail
              have hS0 := HSY.out _ HZ0.out.drew.below
              have HBD := Lib.hid HZ0.out.drew
              refine wp_region_noPanic (wp_region_till (fun W : World => (Instr.loadAt 28 (.pointer (some ⟨by_, oy, none⟩))).run Tryd.prog W = .ok (.agg #[.int .i64 ys_, .int .i64 yg]) W ∧ (Instr.loadAt 31 (.pointer (some ⟨by_, oy + 2, none⟩))).run Tryd.prog W = .ok (.agg #[.int .i64 n, .int .i64 b0, .int .i64 b1, .int .i64 b2, .int .i64 b3, .int .i64 b4, .int .i64 b5, .int .i64 b6, .int .i64 b7]) W) 12 (by kernel_rfl) ?_)
              refine Till.take' (i := 0) rfl (by kernel_rfl) (by kernel_rfl) (by kernel_rfl) (by kernel_rfl) (fun _ _ _ h => h) (Or.inl ⟨by rfl, fun w hw => by go_simp; (try with_reducible rfl)⟩) hS0 ?_
              try simp only [Act.put, di_t, di_0, di_s, List.getElem_toArray, List.getElem_cons_zero, List.getElem_cons_succ]
              refine Till.take' (i := 1) rfl (by kernel_rfl) (by kernel_rfl) (by kernel_rfl) (by kernel_rfl) (fun _ _ _ h => h) (Or.inl ⟨by rfl, fun w hw => by go_simp; (try with_reducible rfl)⟩) hS0 ?_
              try simp only [Act.put, di_t, di_0, di_s, List.getElem_toArray, List.getElem_cons_zero, List.getElem_cons_succ]
              refine Till.take' (i := 2) rfl (by kernel_rfl) (by kernel_rfl) (by kernel_rfl) (by kernel_rfl) (fun _ _ _ h => h) (Or.inl ⟨by rfl, fun w hw => by go_simp; (try with_reducible rfl)⟩) hS0 ?_
              try simp only [Act.put, di_t, di_0, di_s, List.getElem_toArray, List.getElem_cons_zero, List.getElem_cons_succ]
              refine Till.take' (i := 3) rfl (by kernel_rfl) (by kernel_rfl) (by kernel_rfl) (by kernel_rfl) (fun _ _ _ h => h) (yields_ldY (by rfl) 28 _ (by rfl) _ (by rfl) (.agg #[.int .i64 ys_, .int .i64 yg]) (fun W hW => hW.1)) hS0 ?_
              try simp only [Act.put, di_t, di_0, di_s, List.getElem_toArray, List.getElem_cons_zero, List.getElem_cons_succ]
              refine Till.take' (i := 4) rfl (by kernel_rfl) (by kernel_rfl) (by kernel_rfl) (by kernel_rfl) (fun _ _ _ h => h) (Or.inl ⟨by rfl, fun w hw => by go_simp; (try with_reducible rfl)⟩) hS0 ?_
              try simp only [Act.put, di_t, di_0, di_s, List.getElem_toArray, List.getElem_cons_zero, List.getElem_cons_succ]
              refine Till.take' (i := 5) rfl (by kernel_rfl) (by kernel_rfl) (by kernel_rfl) (by kernel_rfl) (fun _ _ _ h => h) (Or.inl ⟨by rfl, fun w hw => by go_simp; (try with_reducible rfl)⟩) hS0 ?_
              try simp only [Act.put, di_t, di_0, di_s, List.getElem_toArray, List.getElem_cons_zero, List.getElem_cons_succ]
              refine Till.take' (i := 6) rfl (by kernel_rfl) (by kernel_rfl) (by kernel_rfl) (by kernel_rfl) (fun _ _ _ h => h) (Or.inl ⟨by rfl, fun w hw => by go_simp; (try with_reducible rfl)⟩) hS0 ?_
              try simp only [Act.put, di_t, di_0, di_s, List.getElem_toArray, List.getElem_cons_zero, List.getElem_cons_succ]
              refine Till.take' (i := 7) rfl (by kernel_rfl) (by kernel_rfl) (by kernel_rfl) (by kernel_rfl) (fun _ _ _ h => h) (yields_ldY (by rfl) 31 _ (by rfl) _ (by rfl) (.agg #[.int .i64 n, .int .i64 b0, .int .i64 b1, .int .i64 b2, .int .i64 b3, .int .i64 b4, .int .i64 b5, .int .i64 b6, .int .i64 b7]) (fun W hW => hW.2)) hS0 ?_
              try simp only [Act.put, di_t, di_0, di_s, List.getElem_toArray, List.getElem_cons_zero, List.getElem_cons_succ]
              refine Till.take' (i := 8) rfl (by kernel_rfl) (by kernel_rfl) (by kernel_rfl) (by kernel_rfl) (fun _ _ _ h => h) (Or.inl ⟨by rfl, fun w hw => by go_simp; (try with_reducible rfl)⟩) hS0 ?_
              try simp only [Act.put, di_t, di_0, di_s, List.getElem_toArray, List.getElem_cons_zero, List.getElem_cons_succ]
              refine Till.ready (rs := [9]) (by kernel_rfl) (by simp) (TillAll.cons rfl (fun K hK => ?_) TillAll.nil)
              refine step_put (by rfl) 28 _ _ (by rfl) q 0 [.int .i64 ys_, .int .i64 yg] (by rfl) (by rfl) (HBD.out.there 0 2 (by decide)) (by kernel_rfl) (one2 _ _) ?_
              have Ha := Lib.hid (HBD.out.at_ ys_ yg)
              refine hK.out _ _ (.inr (HSY.out _ Ha.out.below)) ?_
              clear hK K hS0
              try simp only [Act.put, di_t, di_0, di_s, List.getElem_toArray, List.getElem_cons_zero, List.getElem_cons_succ]
              have hS0 := HSY.out _ Ha.out.below
              refine Till.take' (i := 10) rfl (by kernel_rfl) (by kernel_rfl) (by kernel_rfl) (by kernel_rfl) (fun _ _ _ h => h) (Or.inl ⟨by rfl, fun w hw => by go_simp; (try with_reducible rfl)⟩) hS0 ?_
              try simp only [Act.put, di_t, di_0, di_s, List.getElem_toArray, List.getElem_cons_zero, List.getElem_cons_succ]
              refine Till.ready (rs := [11]) (by kernel_rfl) (by simp) (TillAll.cons rfl (fun K hK => ?_) TillAll.nil)
              refine step_put (by rfl) 31 _ _ (by rfl) q 11 [.int .i64 n, .int .i64 b0, .int .i64 b1, .int .i64 b2, .int .i64 b3, .int .i64 b4, .int .i64 b5, .int .i64 b6, .int .i64 b7] (by rfl) (by rfl) (Ha.out.there 11 9 (by decide)) (by kernel_rfl) (one9 _ _ _ _ _ _ _ _ _) ?_
              have Hb := Lib.hid (Ha.out.now n b0 b1 b2 b3 b4 b5 b6 b7)
              refine hK.out _ _ (.inr (HSY.out _ Hb.out.below)) ?_
              clear hK K Ha HBD hS0
              try simp only [Act.put, di_t, di_0, di_s, List.getElem_toArray, List.getElem_cons_zero, List.getElem_cons_succ]
              refine Till.done (by kernel_rfl) (NoPanic.normal ?_) _
              generalize World.setCells _ _ _ _ = Z2 at *
              by_cases hcc : yc = 1
              · have HRR := Lib.hid (HTY'.out hcc)
                subst hcc
                go_wp2
                go_meet
                exact ⟨Lib.hid (HRR.out _), Hb⟩
              · have hcc' : ¬ (yc : Int) = 1 := by omega
                go_wp2
                go_meet
                exact ⟨Lib.hid HTY.out, Hb⟩
            case rest =>
              obtain ⟨HRY, HZ2⟩ := hcut
              obtain ⟨rY, rkY, heY, -⟩ := HRY.out
              rw [HNY.out] at heY
              subst heY

              clear HZ0 HTY HTY' HSY
              generalize wc = Z at *

              have hcl := HZ2.out.cell
              have hldC := ld_ch (b := q) (o := 0) (c := ((ys_, yg), (-1, 0, 0, 0, 0, 0, 0, 0, 0), (n, b0, b1, b2, b3, b4, b5, b6, b7))) (fun j hj => by rw [Nat.zero_add]; exact hcl j hj)
              have hldO := ld_old (c := ((ys_, yg), (-1, 0, 0, 0, 0, 0, 0, 0, 0), (n, b0, b1, b2, b3, b4, b5, b6, b7))) hcl
              have hldN := ld_now (c := ((ys_, yg), (-1, 0, 0, 0, 0, 0, 0, 0, 0), (n, b0, b1, b2, b3, b4, b5, b6, b7))) hcl
              have hbs := fun W => run_bsY ((ys_, yg), (-1, 0, 0, 0, 0, 0, 0, 0, 0), (n, b0, b1, b2, b3, b4, b5, b6, b7)) W
              have hone := elCh.one ((ys_, yg), (-1, 0, 0, 0, 0, 0, 0, 0, 0), (n, b0, b1, b2, b3, b4, b5, b6, b7))
              obtain ⟨Y, hY⟩ : ∃ Y, chV ((ys_, yg), (-1, 0, 0, 0, 0, 0, 0, 0, 0), (n, b0, b1, b2, b3, b4, b5, b6, b7)) = Y := ⟨_, rfl⟩
              have hqt := fun e => neBe (-1, 0, 0, 0, 0, 0, 0, 0, 0) (n, b0, b1, b2, b3, b4, b5, b6, b7) true (decide_eq_true e)
              have hqf := fun e => neBe (-1, 0, 0, 0, 0, 0, 0, 0, 0) (n, b0, b1, b2, b3, b4, b5, b6, b7) false (decide_eq_false e)
              dsimp only [beV] at hldO hldN hqt hqf
              rw [hY] at hldC hbs
              have HQT := Lib.hid hqt
              have HQF := Lib.hid hqf
              clear hY hqt hqf hcl
              by_cases e : ((-1, 0, 0, 0, 0, 0, 0, 0, 0) : Be) = (n, b0, b1, b2, b3, b4, b5, b6, b7)
              · as_aux_lemma =>
                  have hq := HQT.out e
                  have HGE : Hid (mrg a b = out ++ mrg [] ys) := Lib.hid (by rw [HM.out, consC, if_pos e])
                  clear e hbs hone HQT HQF
                  go_wp2_with (first | refine wpList_ldY rfl 31 _ rfl _ rfl _ hldO ?_ | refine wpList_ldY rfl 31 _ rfl _ rfl _ hldN ?_)
                  go_roundw
                  case rel => exact ⟨_, _, _, hx, HRY, HGE, by have := hl.out; refine Lib.hid ?_; simp only [List.length_cons] at this; (try simp only [List.length_cons]); omega, Lib.hid HZ2.out.own, Lib.hid HZ2.out.below⟩
                  case measure => simp [lenV]; try omega
              · have hq := HQF.out e
                have HGE : Hid (mrg a b = (out ++ [((ys_, yg), (-1, 0, 0, 0, 0, 0, 0, 0, 0), (n, b0, b1, b2, b3, b4, b5, b6, b7))]) ++ mrg [] ys) := Lib.hid (by rw [HM.out, consC, if_neg e, List.append_assoc]; rfl)
                have HLC : Hid ((elCh.enc ((ys_, yg), (-1, 0, 0, 0, 0, 0, 0, 0, 0), (n, b0, b1, b2, b3, b4, b5, b6, b7))).length = 20) := Lib.hid (elCh.len _)
                obtain ⟨CC, hCC⟩ : ∃ CC : Ch, (((ys_, yg), (-1, 0, 0, 0, 0, 0, 0, 0, 0), (n, b0, b1, b2, b3, b4, b5, b6, b7)) : Ch) = CC := ⟨_, rfl⟩
                rw [hCC] at HGE hbs hone HLC
                clear e HQT HQF hCC
                have hl9 := hl.out
                simp only [List.length_cons] at hl9
                have hno9 := HNO.out
                go_wp2_with (first | refine wpList_ldY rfl 31 _ rfl _ rfl _ hldO ?_ | refine wpList_ldY rfl 31 _ rfl _ rfl _ hldN ?_ | refine wpList_ldY rfl 36 _ rfl _ rfl Y hldC ?_ | refine wpList_bsY rfl 23 _ rfl Y rfl (hbs _) ?_ | (at_builtin; refine wpList_append_own _ rfl _ _ 23 rfl w.heap.size 36 i0 (chV chZ) 20 160 Tryd.underlying23 hi hz0 hz1 hz2 rfl (by decide) _ _ _ rfl (World.ownsRow.alloc HZ2.out.own _) ⟨Z.heap.size, 0, none⟩ 1 1 (elCh.enc CC) rfl HLC.out ?d1 ?d2 ?d3 ?d4 ?d5 ?_))
                case d1 => exact World.news_of_block (heap_alloc_new _ _)
                case d2 => exact hone
                case d3 => unfold maxLen; omega
                case d4 => omega
                case d5 => have := HZ2.out.below.size; simp; omega
                intro v' w9 hown hgr _
                have HBN : Hid (Below w.heap.size w w9) := Lib.hid ((nb_alloc HZ2.out.below _).grown hgr (nb_alloc HZ2.out.below _).size (fun k e => HZ2.out.own.ge e))
                have HON : Hid (OwnsF elCh w9 w.heap.size 36 v' (out ++ [CC])) := Lib.hid (OwnsF.snoc (by rw [HNO.out]; exact hown))
                clear hown hgr
                go_wp2
                go_roundw
                case rel => exact ⟨_, _, out ++ [CC], hx, HRY, HGE, by have := hl.out; refine Lib.hid ?_; simp only [List.length_cons] at this; simp only [List.length_append, List.length_cons, List.length_nil]; omega, HON, HBN⟩
                case measure => simp [lenV]; try omega
        | cons x xs =>
          cases ys with
          | nil =>
            obtain ⟨⟨xs_, xg⟩, m, a0, a1, a2, a3, a4, a5, a6, a7⟩ := x
            obtain ⟨bx, ox, nx, rfl, hnx, hnx', hcnx, hmnx, hbnx, hwnx, hrnx, htnx, htnx'⟩ := first_ro hx.out
            have HCX := Lib.hid hrnx
            have HTX := Lib.hid htnx
            have HTX' := Lib.hid htnx'
            have HWX := Lib.hid hwnx
            have HNX := Lib.hid hnx
            have hSX : ∀ W, Below w.heap.size w W → (Instr.loadAt 28 (.pointer (some ⟨bx, ox, none⟩))).run Tryd.prog W = .ok (.agg #[.int .i64 xs_, .int .i64 xg]) W ∧ (Instr.loadAt 31 (.pointer (some ⟨bx, ox + 2, none⟩))).run Tryd.prog W = .ok (.agg #[.int .i64 m, .int .i64 a0, .int .i64 a1, .int .i64 a2, .int .i64 a3, .int .i64 a4, .int .i64 a5, .int .i64 a6, .int .i64 a7]) W := fun W hW => ⟨ld_roH (hrnx W hW), ld_roB (hrnx W hW)⟩
            have HSX := Lib.hid hSX
            have hn0X : ((nx : Int) + 1 == 0) = false := by simp; omega
            have hp0X : (0 : Int) < (nx : Int) + 1 := by omega
            have hxR : Hid (Reads elRo w (.slice (some ⟨bx, ox, none⟩) (nx + 1) xc) (((xs_, xg), m, a0, a1, a2, a3, a4, a5, a6, a7) :: xs)) := Lib.hid (by rw [← hnx']; exact hx.out)
            rw [hnx'] at *
            clear hrnx htnx htnx' hwnx hnx hSX hnx'

            have hl9 := hl.out
            simp only [List.length_cons, List.length_nil] at hl9
            rw [HNX.out] at hl9
            simp only [List.length_nil] at hy ⊢
            have HM : Hid (mrg a b = out ++ consC ((xs_, xg), (m, a0, a1, a2, a3, a4, a5, a6, a7), (-1, 0, 0, 0, 0, 0, 0, 0, 0)) (mrg xs [])) := Lib.hid (by rw [hm.out, mrg]; rfl)
            clear hm
            go_wp2_with fail
            refine (refNone_any _).mono ?_
            rintro e w3 ⟨rfl, hb3⟩
            have HB3 := Lib.hid (nb_trans hB.out hb3)
            have HO3 := Lib.hid (hO.out.later hb3)
            clear hb3
            go_wp2_with fail
            refine (refNone_any _).mono ?_
            rintro e w4 ⟨rfl, hb4⟩
            have HB4 := Lib.hid (nb_trans HB3.out hb4)
            have HO4 := Lib.hid (HO3.out.later hb4)
            clear hb4 HO3 HB3
            have hst := st_new ((0, 0), noB, noB) w4
            dsimp only [chV, noB] at hst
            have HX0 : Hid (Bx w w4.heap.size (.slice oa no oc) out ((0, 0), (-1, 0, 0, 0, 0, 0, 0, 0, 0), (-1, 0, 0, 0, 0, 0, 0, 0, 0)) (w4.alloc (.cells (elCh.enc ((0, 0), (-1, 0, 0, 0, 0, 0, 0, 0, 0), (-1, 0, 0, 0, 0, 0, 0, 0, 0))).toArray 36))) := Lib.hid ⟨HB4.out.size, fun k e e2 => by have := HO4.out.lt e; omega, nb_alloc HB4.out _, heap_alloc_new _ _, HO4.out.later (nb_alloc (Below.refl _ _) _)⟩
            clear HB4 HO4 hO hB
            generalize w4.alloc (.cells (elCh.enc ((0, 0), (-1, 0, 0, 0, 0, 0, 0, 0, 0), (-1, 0, 0, 0, 0, 0, 0, 0, 0))).toArray 36) = X at *
            go_upto_region 6 with (refine wpList_stY rfl 36 _ _ rfl _ rfl _ rfl hst ?_)
            clear hst
            generalize w4.heap.size = q at *
            try dsimp only [Act.put]
            refine wp_region_later (by kernel_rfl) (by kernel_rfl) ?_
            repeat (go_big_quiet_step ((fail)))
            refine wpQuiet_nil ?_
            rintro _ ⟨nq, rfl⟩
            have HV0 := Lib.hid (HX0.out.later nq.below)
            generalize nq.w = V at *
            clear HX0
            go_upto_region 7 with fail
            refine wp_region_later (by kernel_rfl) (by kernel_rfl) ?_
            repeat (go_big_quiet_step ((fail)))
            refine wpQuiet_nil ?_
            rintro _ ⟨nq, rfl⟩
            have HZ0 := Lib.hid (HV0.out.later nq.below)
            generalize nq.w = Z at *
            clear HV0
            go_upto_if 67 with fail
            go_cut [0] from 18 to 101 (fun c0 wx => Hid (Reads elRo w c0 xs) ∧ Hid (Bx w q (.slice oa no oc) out ((xs_, xg), (m, a0, a1, a2, a3, a4, a5, a6, a7), (-1, 0, 0, 0, 0, 0, 0, 0, 0)) wx))
            case first =>
              go_upto_region 9 with fail
              have hS0 := HSX.out _ HZ0.out.drew.below
              have HBD := Lib.hid HZ0.out.drew
              refine wp_region_noPanic (wp_region_till (fun W : World => (Instr.loadAt 28 (.pointer (some ⟨bx, ox, none⟩))).run Tryd.prog W = .ok (.agg #[.int .i64 xs_, .int .i64 xg]) W ∧ (Instr.loadAt 31 (.pointer (some ⟨bx, ox + 2, none⟩))).run Tryd.prog W = .ok (.agg #[.int .i64 m, .int .i64 a0, .int .i64 a1, .int .i64 a2, .int .i64 a3, .int .i64 a4, .int .i64 a5, .int .i64 a6, .int .i64 a7]) W) 12 (by kernel_rfl) ?_)
              refine Till.take' (i := 0) rfl (by kernel_rfl) (by kernel_rfl) (by kernel_rfl) (by kernel_rfl) (fun _ _ _ h => h) (Or.inl ⟨by rfl, fun w hw => by go_simp; (try with_reducible rfl)⟩) hS0 ?_
              try simp only [Act.put, di_t, di_0, di_s, List.getElem_toArray, List.getElem_cons_zero, List.getElem_cons_succ]
              refine Till.take' (i := 1) rfl (by kernel_rfl) (by kernel_rfl) (by kernel_rfl) (by kernel_rfl) (fun _ _ _ h => h) (Or.inl ⟨by rfl, fun w hw => by go_simp; (try with_reducible rfl)⟩) hS0 ?_
              try simp only [Act.put, di_t, di_0, di_s, List.getElem_toArray, List.getElem_cons_zero, List.getElem_cons_succ]
              refine Till.take' (i := 2) rfl (by kernel_rfl) (by kernel_rfl) (by kernel_rfl) (by kernel_rfl) (fun _ _ _ h => h) (Or.inl ⟨by rfl, fun w hw => by go_simp; (try with_reducible rfl)⟩) hS0 ?_
              try simp only [Act.put, di_t, di_0, di_s, List.getElem_toArray, List.getElem_cons_zero, List.getElem_cons_succ]
              refine Till.take' (i := 3) rfl (by kernel_rfl) (by kernel_rfl) (by kernel_rfl) (by kernel_rfl) (fun _ _ _ h => h) (yields_ldY (by rfl) 28 _ (by rfl) _ (by rfl) (.agg #[.int .i64 xs_, .int .i64 xg]) (fun W hW => hW.1)) hS0 ?_
              try simp only [Act.put, di_t, di_0, di_s, List.getElem_toArray, List.getElem_cons_zero, List.getElem_cons_succ]
              refine Till.take' (i := 4) rfl (by kernel_rfl) (by kernel_rfl) (by kernel_rfl) (by kernel_rfl) (fun _ _ _ h => h) (Or.inl ⟨by rfl, fun w hw => by go_simp; (try with_reducible rfl)⟩) hS0 ?_
              try simp only [Act.put, di_t, di_0, di_s, List.getElem_toArray, List.getElem_cons_zero, List.getElem_cons_succ]
              refine Till.take' (i := 5) rfl (by kernel_rfl) (by kernel_rfl) (by kernel_rfl) (by kernel_rfl) (fun _ _ _ h => h) (Or.inl ⟨by rfl, fun w hw => by go_simp; (try with_reducible rfl)⟩) hS0 ?_
              try simp only [Act.put, di_t, di_0, di_s, List.getElem_toArray, List.getElem_cons_zero, List.getElem_cons_succ]
              refine Till.take' (i := 6) rfl (by kernel_rfl) (by kernel_rfl) (by kernel_rfl) (by kernel_rfl) (fun _ _ _ h => h) (Or.inl ⟨by rfl, fun w hw => by go_simp; (try with_reducible rfl)⟩) hS0 ?_
              try simp only [Act.put, di_t, di_0, di_s, List.getElem_toArray, List.getElem_cons_zero, List.getElem_cons_succ]
              refine Till.take' (i := 7) rfl (by kernel_rfl) (by kernel_rfl) (by kernel_rfl) (by kernel_rfl) (fun _ _ _ h => h) (yields_ldY (by rfl) 31 _ (by rfl) _ (by rfl) (.agg #[.int .i64 m, .int .i64 a0, .int .i64 a1, .int .i64 a2, .int .i64 a3, .int .i64 a4, .int .i64 a5, .int .i64 a6, .int .i64 a7]) (fun W hW => hW.2)) hS0 ?_
              try simp only [Act.put, di_t, di_0, di_s, List.getElem_toArray, List.getElem_cons_zero, List.getElem_cons_succ]
              refine Till.take' (i := 8) rfl (by kernel_rfl) (by kernel_rfl) (by kernel_rfl) (by kernel_rfl) (fun _ _ _ h => h) (Or.inl ⟨by rfl, fun w hw => by go_simp; (try with_reducible rfl)⟩) hS0 ?_
              try simp only [Act.put, di_t, di_0, di_s, List.getElem_toArray, List.getElem_cons_zero, List.getElem_cons_succ]
              refine Till.ready (rs := [9]) (by kernel_rfl) (by simp) (TillAll.cons rfl (fun K hK => ?_) TillAll.nil)
              refine step_put (by rfl) 28 _ _ (by rfl) q 0 [.int .i64 xs_, .int .i64 xg] (by rfl) (by rfl) (HBD.out.there 0 2 (by decide)) (by kernel_rfl) (one2 _ _) ?_
              have Ha := Lib.hid (HBD.out.at_ xs_ xg)
              refine hK.out _ _ (.inr (HSX.out _ Ha.out.below)) ?_
              clear hK K hS0
              try simp only [Act.put, di_t, di_0, di_s, List.getElem_toArray, List.getElem_cons_zero, List.getElem_cons_succ]
              have hS0 := HSX.out _ Ha.out.below
              refine Till.take' (i := 10) rfl (by kernel_rfl) (by kernel_rfl) (by kernel_rfl) (by kernel_rfl) (fun _ _ _ h => h) (Or.inl ⟨by rfl, fun w hw => by go_simp; (try with_reducible rfl)⟩) hS0 ?_
              try simp only [Act.put, di_t, di_0, di_s, List.getElem_toArray, List.getElem_cons_zero, List.getElem_cons_succ]
              refine Till.ready (rs := [11]) (by kernel_rfl) (by simp) (TillAll.cons rfl (fun K hK => ?_) TillAll.nil)
              refine step_put (by rfl) 31 _ _ (by rfl) q 2 [.int .i64 m, .int .i64 a0, .int .i64 a1, .int .i64 a2, .int .i64 a3, .int .i64 a4, .int .i64 a5, .int .i64 a6, .int .i64 a7] (by rfl) (by rfl) (Ha.out.there 2 9 (by decide)) (by kernel_rfl) (one9 _ _ _ _ _ _ _ _ _) ?_
              have Hb := Lib.hid (Ha.out.old m a0 a1 a2 a3 a4 a5 a6 a7)
              refine hK.out _ _ (.inr (HSX.out _ Hb.out.below)) ?_
              clear hK K Ha HBD hS0
              try simp only [Act.put, di_t, di_0, di_s, List.getElem_toArray, List.getElem_cons_zero, List.getElem_cons_succ]
              refine Till.done (by kernel_rfl) (NoPanic.normal ?_) _
              generalize World.setCells _ _ _ _ = Z2 at *
              by_cases hcc : xc = 1
              · have HRR := Lib.hid (HTX'.out hcc)
                subst hcc
                go_wp2
                go_meet
                exact ⟨Lib.hid (HRR.out _), Hb⟩
              · have hcc' : ¬ (xc : Int) = 1 := by omega
                go_wp2
                go_meet
                exact ⟨Lib.hid HTX.out, Hb⟩
            case rest =>
              obtain ⟨HRX, HZ1⟩ := hcut
              obtain ⟨rX, rkX, heX, -⟩ := HRX.out
              rw [HNX.out] at heX
              subst heX

              clear HZ0 HTX HTX' HSX
              generalize wc = Z at *

              have hcl := HZ1.out.cell
              have hldC := ld_ch (b := q) (o := 0) (c := ((xs_, xg), (m, a0, a1, a2, a3, a4, a5, a6, a7), (-1, 0, 0, 0, 0, 0, 0, 0, 0))) (fun j hj => by rw [Nat.zero_add]; exact hcl j hj)
              have hldO := ld_old (c := ((xs_, xg), (m, a0, a1, a2, a3, a4, a5, a6, a7), (-1, 0, 0, 0, 0, 0, 0, 0, 0))) hcl
              have hldN := ld_now (c := ((xs_, xg), (m, a0, a1, a2, a3, a4, a5, a6, a7), (-1, 0, 0, 0, 0, 0, 0, 0, 0))) hcl
              have hbs := fun W => run_bsY ((xs_, xg), (m, a0, a1, a2, a3, a4, a5, a6, a7), (-1, 0, 0, 0, 0, 0, 0, 0, 0)) W
              have hone := elCh.one ((xs_, xg), (m, a0, a1, a2, a3, a4, a5, a6, a7), (-1, 0, 0, 0, 0, 0, 0, 0, 0))
              obtain ⟨Y, hY⟩ : ∃ Y, chV ((xs_, xg), (m, a0, a1, a2, a3, a4, a5, a6, a7), (-1, 0, 0, 0, 0, 0, 0, 0, 0)) = Y := ⟨_, rfl⟩
              have hqt := fun e => neBe (m, a0, a1, a2, a3, a4, a5, a6, a7) (-1, 0, 0, 0, 0, 0, 0, 0, 0) true (decide_eq_true e)
              have hqf := fun e => neBe (m, a0, a1, a2, a3, a4, a5, a6, a7) (-1, 0, 0, 0, 0, 0, 0, 0, 0) false (decide_eq_false e)
              dsimp only [beV] at hldO hldN hqt hqf
              rw [hY] at hldC hbs
              have HQT := Lib.hid hqt
              have HQF := Lib.hid hqf
              clear hY hqt hqf hcl
              by_cases e : ((m, a0, a1, a2, a3, a4, a5, a6, a7) : Be) = (-1, 0, 0, 0, 0, 0, 0, 0, 0)
              · as_aux_lemma =>
                  have hq := HQT.out e
                  have HGE : Hid (mrg a b = out ++ mrg xs []) := Lib.hid (by rw [HM.out, consC, if_pos e])
                  clear e hbs hone HQT HQF
                  go_wp2_with (first | refine wpList_ldY rfl 31 _ rfl _ rfl _ hldO ?_ | refine wpList_ldY rfl 31 _ rfl _ rfl _ hldN ?_)
                  go_roundw
                  case rel => exact ⟨_, _, _, HRX, hy, HGE, by have := hl.out; refine Lib.hid ?_; simp only [List.length_cons] at this; (try simp only [List.length_cons]); omega, Lib.hid HZ1.out.own, Lib.hid HZ1.out.below⟩
                  case measure => simp [lenV]; try omega
              · have hq := HQF.out e
                have HGE : Hid (mrg a b = (out ++ [((xs_, xg), (m, a0, a1, a2, a3, a4, a5, a6, a7), (-1, 0, 0, 0, 0, 0, 0, 0, 0))]) ++ mrg xs []) := Lib.hid (by rw [HM.out, consC, if_neg e, List.append_assoc]; rfl)
                have HLC : Hid ((elCh.enc ((xs_, xg), (m, a0, a1, a2, a3, a4, a5, a6, a7), (-1, 0, 0, 0, 0, 0, 0, 0, 0))).length = 20) := Lib.hid (elCh.len _)
                obtain ⟨CC, hCC⟩ : ∃ CC : Ch, (((xs_, xg), (m, a0, a1, a2, a3, a4, a5, a6, a7), (-1, 0, 0, 0, 0, 0, 0, 0, 0)) : Ch) = CC := ⟨_, rfl⟩
                rw [hCC] at HGE hbs hone HLC
                clear e HQT HQF hCC
                have hl9 := hl.out
                simp only [List.length_cons] at hl9
                have hno9 := HNO.out
                go_wp2_with (first | refine wpList_ldY rfl 31 _ rfl _ rfl _ hldO ?_ | refine wpList_ldY rfl 31 _ rfl _ rfl _ hldN ?_ | refine wpList_ldY rfl 36 _ rfl _ rfl Y hldC ?_ | refine wpList_bsY rfl 23 _ rfl Y rfl (hbs _) ?_ | (at_builtin; refine wpList_append_own _ rfl _ _ 23 rfl w.heap.size 36 i0 (chV chZ) 20 160 Tryd.underlying23 hi hz0 hz1 hz2 rfl (by decide) _ _ _ rfl (World.ownsRow.alloc HZ1.out.own _) ⟨Z.heap.size, 0, none⟩ 1 1 (elCh.enc CC) rfl HLC.out ?d1 ?d2 ?d3 ?d4 ?d5 ?_))
                case d1 => exact World.news_of_block (heap_alloc_new _ _)
                case d2 => exact hone
                case d3 => unfold maxLen; omega
                case d4 => omega
                case d5 => have := HZ1.out.below.size; simp; omega
                intro v' w9 hown hgr _
                have HBN : Hid (Below w.heap.size w w9) := Lib.hid ((nb_alloc HZ1.out.below _).grown hgr (nb_alloc HZ1.out.below _).size (fun k e => HZ1.out.own.ge e))
                have HON : Hid (OwnsF elCh w9 w.heap.size 36 v' (out ++ [CC])) := Lib.hid (OwnsF.snoc (by rw [HNO.out]; exact hown))
                clear hown hgr
                go_wp2
                go_roundw
                case rel => exact ⟨_, _, out ++ [CC], HRX, hy, HGE, by have := hl.out; refine Lib.hid ?_; simp only [List.length_cons] at this; simp only [List.length_append, List.length_cons, List.length_nil]; omega, HON, HBN⟩
                case measure => simp [lenV]; try omega
          | cons y ys =>
            by_cases hcmp : hlt x.1 y.1
            · have hcmp2 : ¬ hlt y.1 x.1 := fun h => hlt_irrefl _ (hlt_trans h hcmp)
              have hg1 := decide_eq_false hcmp2
              have hg2 := decide_eq_true hcmp
              obtain ⟨⟨xs_, xg⟩, m, a0, a1, a2, a3, a4, a5, a6, a7⟩ := x
              obtain ⟨bx, ox, nx, rfl, hnx, hnx', hcnx, hmnx, hbnx, hwnx, hrnx, htnx, htnx'⟩ := first_ro hx.out
              have HCX := Lib.hid hrnx
              have HTX := Lib.hid htnx
              have HTX' := Lib.hid htnx'
              have HWX := Lib.hid hwnx
              have HNX := Lib.hid hnx
              have hSX : ∀ W, Below w.heap.size w W → (Instr.loadAt 28 (.pointer (some ⟨bx, ox, none⟩))).run Tryd.prog W = .ok (.agg #[.int .i64 xs_, .int .i64 xg]) W ∧ (Instr.loadAt 31 (.pointer (some ⟨bx, ox + 2, none⟩))).run Tryd.prog W = .ok (.agg #[.int .i64 m, .int .i64 a0, .int .i64 a1, .int .i64 a2, .int .i64 a3, .int .i64 a4, .int .i64 a5, .int .i64 a6, .int .i64 a7]) W := fun W hW => ⟨ld_roH (hrnx W hW), ld_roB (hrnx W hW)⟩
              have HSX := Lib.hid hSX
              have hn0X : ((nx : Int) + 1 == 0) = false := by simp; omega
              have hp0X : (0 : Int) < (nx : Int) + 1 := by omega
              have hxR : Hid (Reads elRo w (.slice (some ⟨bx, ox, none⟩) (nx + 1) xc) (((xs_, xg), m, a0, a1, a2, a3, a4, a5, a6, a7) :: xs)) := Lib.hid (by rw [← hnx']; exact hx.out)
              rw [hnx'] at *
              clear hrnx htnx htnx' hwnx hnx hSX hnx'

              obtain ⟨⟨ys_, yg⟩, n, b0, b1, b2, b3, b4, b5, b6, b7⟩ := y
              obtain ⟨by_, oy, ny, rfl, hny, hny', hcny, hmny, hbny, hwny, hrny, htny, htny'⟩ := first_ro hy.out
              have HCY := Lib.hid hrny
              have HTY := Lib.hid htny
              have HTY' := Lib.hid htny'
              have HWY := Lib.hid hwny
              have HNY := Lib.hid hny
              have hSY : ∀ W, Below w.heap.size w W → (Instr.loadAt 28 (.pointer (some ⟨by_, oy, none⟩))).run Tryd.prog W = .ok (.agg #[.int .i64 ys_, .int .i64 yg]) W ∧ (Instr.loadAt 31 (.pointer (some ⟨by_, oy + 2, none⟩))).run Tryd.prog W = .ok (.agg #[.int .i64 n, .int .i64 b0, .int .i64 b1, .int .i64 b2, .int .i64 b3, .int .i64 b4, .int .i64 b5, .int .i64 b6, .int .i64 b7]) W := fun W hW => ⟨ld_roH (hrny W hW), ld_roB (hrny W hW)⟩
              have HSY := Lib.hid hSY
              have hn0Y : ((ny : Int) + 1 == 0) = false := by simp; omega
              have hp0Y : (0 : Int) < (ny : Int) + 1 := by omega
              have hyR : Hid (Reads elRo w (.slice (some ⟨by_, oy, none⟩) (ny + 1) yc) (((ys_, yg), n, b0, b1, b2, b3, b4, b5, b6, b7) :: ys)) := Lib.hid (by rw [← hny']; exact hy.out)
              rw [hny'] at *
              clear hrny htny htny' hwny hny hSY hny'

              have hl9 := hl.out
              simp only [List.length_cons] at hl9
              rw [HNX.out, HNY.out] at hl9

              have HL1 := Lib.hid (fun W => less_any ys_ yg xs_ xg false W hg1)
              have HL2 := Lib.hid (fun W => less_any xs_ xg ys_ yg true W hg2)
              clear hg1 hg2
              have HM : Hid (mrg a b = out ++ consC ((xs_, xg), (m, a0, a1, a2, a3, a4, a5, a6, a7), (-1, 0, 0, 0, 0, 0, 0, 0, 0)) (mrg xs (((ys_, yg), n, b0, b1, b2, b3, b4, b5, b6, b7) :: ys))) := Lib.hid (by rw [hm.out, mrg, if_pos hcmp]; rfl)
              clear hm
              go_wp2_with fail
              refine (refNone_any _).mono ?_
              rintro e w3 ⟨rfl, hb3⟩
              have HB3 := Lib.hid (nb_trans hB.out hb3)
              have HO3 := Lib.hid (hO.out.later hb3)
              clear hb3
              go_wp2_with fail
              refine (refNone_any _).mono ?_
              rintro e w4 ⟨rfl, hb4⟩
              have HB4 := Lib.hid (nb_trans HB3.out hb4)
              have HO4 := Lib.hid (HO3.out.later hb4)
              clear hb4 HO3 HB3
              have hst := st_new ((0, 0), noB, noB) w4
              dsimp only [chV, noB] at hst
              have HX0 : Hid (Bx w w4.heap.size (.slice oa no oc) out ((0, 0), (-1, 0, 0, 0, 0, 0, 0, 0, 0), (-1, 0, 0, 0, 0, 0, 0, 0, 0)) (w4.alloc (.cells (elCh.enc ((0, 0), (-1, 0, 0, 0, 0, 0, 0, 0, 0), (-1, 0, 0, 0, 0, 0, 0, 0, 0))).toArray 36))) := Lib.hid ⟨HB4.out.size, fun k e e2 => by have := HO4.out.lt e; omega, nb_alloc HB4.out _, heap_alloc_new _ _, HO4.out.later (nb_alloc (Below.refl _ _) _)⟩
              clear HB4 HO4 hO hB
              generalize w4.alloc (.cells (elCh.enc ((0, 0), (-1, 0, 0, 0, 0, 0, 0, 0, 0), (-1, 0, 0, 0, 0, 0, 0, 0, 0))).toArray 36) = X at *
              go_upto_region 6 with (refine wpList_stY rfl 36 _ _ rfl _ rfl _ rfl hst ?_)
              clear hst
              generalize w4.heap.size = q at *
              try dsimp only [Act.put]
              have hl0 : ∀ y : Later X, y.w.cell? ⟨bx, ox, none⟩ = some (.int .i64 xs_) := fun y => HCX.out _ (nb_trans HX0.out.below y.below) 0 (by decide)
              have hl1 : ∀ y : Later X, y.w.cell? ⟨bx, ox + 1, none⟩ = some (.int .i64 xg) := fun y => HCX.out _ (nb_trans HX0.out.below y.below) 1 (by decide)
              have hl2 : ∀ y : Later X, y.w.cell? ⟨by_, oy, none⟩ = some (.int .i64 ys_) := fun y => HCY.out _ (nb_trans HX0.out.below y.below) 0 (by decide)
              have hl3 : ∀ y : Later X, y.w.cell? ⟨by_, oy + 1, none⟩ = some (.int .i64 yg) := fun y => HCY.out _ (nb_trans HX0.out.below y.below) 1 (by decide)
              have hl4 : ∀ y : Later X, bx < y.w.heap.size := fun y => HWX.out _ (nb_trans HX0.out.below y.below)
              have hl5 : ∀ y : Later X, by_ < y.w.heap.size := fun y => HWY.out _ (nb_trans HX0.out.below y.below)
              refine wp_region_later (by kernel_rfl) (by kernel_rfl) ?_
              repeat (go_big_quiet_step ((first | (go_at_call 27; first | with_reducible exact Calls.later (HL1.out _) | with_reducible exact Calls.later (HL2.out _)))))
              refine wpQuiet_nil ?_
              rintro _ ⟨nq, rfl⟩
              have HV0 := Lib.hid (HX0.out.later nq.below)
              generalize nq.w = V at *
              clear hl0 hl1 hl2 hl3 hl4 hl5
              clear HX0
              go_upto_region 7 with fail
              have hl0 : ∀ y : Later V, y.w.cell? ⟨bx, ox, none⟩ = some (.int .i64 xs_) := fun y => HCX.out _ (nb_trans HV0.out.below y.below) 0 (by decide)
              have hl1 : ∀ y : Later V, y.w.cell? ⟨bx, ox + 1, none⟩ = some (.int .i64 xg) := fun y => HCX.out _ (nb_trans HV0.out.below y.below) 1 (by decide)
              have hl2 : ∀ y : Later V, y.w.cell? ⟨by_, oy, none⟩ = some (.int .i64 ys_) := fun y => HCY.out _ (nb_trans HV0.out.below y.below) 0 (by decide)
              have hl3 : ∀ y : Later V, y.w.cell? ⟨by_, oy + 1, none⟩ = some (.int .i64 yg) := fun y => HCY.out _ (nb_trans HV0.out.below y.below) 1 (by decide)
              have hl4 : ∀ y : Later V, bx < y.w.heap.size := fun y => HWX.out _ (nb_trans HV0.out.below y.below)
              have hl5 : ∀ y : Later V, by_ < y.w.heap.size := fun y => HWY.out _ (nb_trans HV0.out.below y.below)
              refine wp_region_later (by kernel_rfl) (by kernel_rfl) ?_
              repeat (go_big_quiet_step ((first | (go_at_call 27; first | with_reducible exact Calls.later (HL1.out _) | with_reducible exact Calls.later (HL2.out _)))))
              refine wpQuiet_nil ?_
              rintro _ ⟨nq, rfl⟩
              have HZ0 := Lib.hid (HV0.out.later nq.below)
              generalize nq.w = Z at *
              clear hl0 hl1 hl2 hl3 hl4 hl5
              clear HV0
              go_upto_if 67 with fail
              go_cut [0] from 18 to 101 (fun c0 wx => Hid (Reads elRo w c0 xs) ∧ Hid (Bx w q (.slice oa no oc) out ((xs_, xg), (m, a0, a1, a2, a3, a4, a5, a6, a7), (-1, 0, 0, 0, 0, 0, 0, 0, 0)) wx))
              case first =>
                go_upto_region 9 with fail
                have hS0 := HSX.out _ HZ0.out.drew.below
                have HBD := Lib.hid HZ0.out.drew
                refine wp_region_noPanic (wp_region_till (fun W : World => (Instr.loadAt 28 (.pointer (some ⟨bx, ox, none⟩))).run Tryd.prog W = .ok (.agg #[.int .i64 xs_, .int .i64 xg]) W ∧ (Instr.loadAt 31 (.pointer (some ⟨bx, ox + 2, none⟩))).run Tryd.prog W = .ok (.agg #[.int .i64 m, .int .i64 a0, .int .i64 a1, .int .i64 a2, .int .i64 a3, .int .i64 a4, .int .i64 a5, .int .i64 a6, .int .i64 a7]) W) 12 (by kernel_rfl) ?_)
                refine Till.take' (i := 0) rfl (by kernel_rfl) (by kernel_rfl) (by kernel_rfl) (by kernel_rfl) (fun _ _ _ h => h) (Or.inl ⟨by rfl, fun w hw => by go_simp; (try with_reducible rfl)⟩) hS0 ?_
                try simp only [Act.put, di_t, di_0, di_s, List.getElem_toArray, List.getElem_cons_zero, List.getElem_cons_succ]
                refine Till.take' (i := 1) rfl (by kernel_rfl) (by kernel_rfl) (by kernel_rfl) (by kernel_rfl) (fun _ _ _ h => h) (Or.inl ⟨by rfl, fun w hw => by go_simp; (try with_reducible rfl)⟩) hS0 ?_
                try simp only [Act.put, di_t, di_0, di_s, List.getElem_toArray, List.getElem_cons_zero, List.getElem_cons_succ]
                refine Till.take' (i := 2) rfl (by kernel_rfl) (by kernel_rfl) (by kernel_rfl) (by kernel_rfl) (fun _ _ _ h => h) (Or.inl ⟨by rfl, fun w hw => by go_simp; (try with_reducible rfl)⟩) hS0 ?_
                try simp only [Act.put, di_t, di_0, di_s, List.getElem_toArray, List.getElem_cons_zero, List.getElem_cons_succ]
                refine Till.take' (i := 3) rfl (by kernel_rfl) (by kernel_rfl) (by kernel_rfl) (by kernel_rfl) (fun _ _ _ h => h) (yields_ldY (by rfl) 28 _ (by rfl) _ (by rfl) (.agg #[.int .i64 xs_, .int .i64 xg]) (fun W hW => hW.1)) hS0 ?_
                try simp only [Act.put, di_t, di_0, di_s, List.getElem_toArray, List.getElem_cons_zero, List.getElem_cons_succ]
                refine Till.take' (i := 4) rfl (by kernel_rfl) (by kernel_rfl) (by kernel_rfl) (by kernel_rfl) (fun _ _ _ h => h) (Or.inl ⟨by rfl, fun w hw => by go_simp; (try with_reducible rfl)⟩) hS0 ?_
                try simp only [Act.put, di_t, di_0, di_s, List.getElem_toArray, List.getElem_cons_zero, List.getElem_cons_succ]
                refine Till.take' (i := 5) rfl (by kernel_rfl) (by kernel_rfl) (by kernel_rfl) (by kernel_rfl) (fun _ _ _ h => h) (Or.inl ⟨by rfl, fun w hw => by go_simp; (try with_reducible rfl)⟩) hS0 ?_
                try simp only [Act.put, di_t, di_0, di_s, List.getElem_toArray, List.getElem_cons_zero, List.getElem_cons_succ]
                refine Till.take' (i := 6) rfl (by kernel_rfl) (by kernel_rfl) (by kernel_rfl) (by kernel_rfl) (fun _ _ _ h => h) (Or.inl ⟨by rfl, fun w hw => by go_simp; (try with_reducible rfl)⟩) hS0 ?_
                try simp only [Act.put, di_t, di_0, di_s, List.getElem_toArray, List.getElem_cons_zero, List.getElem_cons_succ]
                refine Till.take' (i := 7) rfl (by kernel_rfl) (by kernel_rfl) (by kernel_rfl) (by kernel_rfl) (fun _ _ _ h => h) (yields_ldY (by rfl) 31 _ (by rfl) _ (by rfl) (.agg #[.int .i64 m, .int .i64 a0, .int .i64 a1, .int .i64 a2, .int .i64 a3, .int .i64 a4, .int .i64 a5, .int .i64 a6, .int .i64 a7]) (fun W hW => hW.2)) hS0 ?_
                try simp only [Act.put, di_t, di_0, di_s, List.getElem_toArray, List.getElem_cons_zero, List.getElem_cons_succ]
                refine Till.take' (i := 8) rfl (by kernel_rfl) (by kernel_rfl) (by kernel_rfl) (by kernel_rfl) (fun _ _ _ h => h) (Or.inl ⟨by rfl, fun w hw => by go_simp; (try with_reducible rfl)⟩) hS0 ?_
                try simp only [Act.put, di_t, di_0, di_s, List.getElem_toArray, List.getElem_cons_zero, List.getElem_cons_succ]
                refine Till.ready (rs := [9]) (by kernel_rfl) (by simp) (TillAll.cons rfl (fun K hK => ?_) TillAll.nil)
                refine step_put (by rfl) 28 _ _ (by rfl) q 0 [.int .i64 xs_, .int .i64 xg] (by rfl) (by rfl) (HBD.out.there 0 2 (by decide)) (by kernel_rfl) (one2 _ _) ?_
                have Ha := Lib.hid (HBD.out.at_ xs_ xg)
                refine hK.out _ _ (.inr (HSX.out _ Ha.out.below)) ?_
                clear hK K hS0
                try simp only [Act.put, di_t, di_0, di_s, List.getElem_toArray, List.getElem_cons_zero, List.getElem_cons_succ]
                have hS0 := HSX.out _ Ha.out.below
                refine Till.take' (i := 10) rfl (by kernel_rfl) (by kernel_rfl) (by kernel_rfl) (by kernel_rfl) (fun _ _ _ h => h) (Or.inl ⟨by rfl, fun w hw => by go_simp; (try with_reducible rfl)⟩) hS0 ?_
                try simp only [Act.put, di_t, di_0, di_s, List.getElem_toArray, List.getElem_cons_zero, List.getElem_cons_succ]
                refine Till.ready (rs := [11]) (by kernel_rfl) (by simp) (TillAll.cons rfl (fun K hK => ?_) TillAll.nil)
                refine step_put (by rfl) 31 _ _ (by rfl) q 2 [.int .i64 m, .int .i64 a0, .int .i64 a1, .int .i64 a2, .int .i64 a3, .int .i64 a4, .int .i64 a5, .int .i64 a6, .int .i64 a7] (by rfl) (by rfl) (Ha.out.there 2 9 (by decide)) (by kernel_rfl) (one9 _ _ _ _ _ _ _ _ _) ?_
                have Hb := Lib.hid (Ha.out.old m a0 a1 a2 a3 a4 a5 a6 a7)
                refine hK.out _ _ (.inr (HSX.out _ Hb.out.below)) ?_
                clear hK K Ha HBD hS0
                try simp only [Act.put, di_t, di_0, di_s, List.getElem_toArray, List.getElem_cons_zero, List.getElem_cons_succ]
                refine Till.done (by kernel_rfl) (NoPanic.normal ?_) _
                generalize World.setCells _ _ _ _ = Z2 at *
                by_cases hcc : xc = 1
                · have HRR := Lib.hid (HTX'.out hcc)
                  subst hcc
                  go_wp2
                  go_meet
                  exact ⟨Lib.hid (HRR.out _), Hb⟩
                · have hcc' : ¬ (xc : Int) = 1 := by omega
                  go_wp2
                  go_meet
                  exact ⟨Lib.hid HTX.out, Hb⟩
              case rest =>
                obtain ⟨HRX, HZ1⟩ := hcut
                obtain ⟨rX, rkX, heX, -⟩ := HRX.out
                rw [HNX.out] at heX
                subst heX

                clear HZ0 HTX HTX' HSX
                generalize wc = Z at *

                have hcl := HZ1.out.cell
                have hldC := ld_ch (b := q) (o := 0) (c := ((xs_, xg), (m, a0, a1, a2, a3, a4, a5, a6, a7), (-1, 0, 0, 0, 0, 0, 0, 0, 0))) (fun j hj => by rw [Nat.zero_add]; exact hcl j hj)
                have hldO := ld_old (c := ((xs_, xg), (m, a0, a1, a2, a3, a4, a5, a6, a7), (-1, 0, 0, 0, 0, 0, 0, 0, 0))) hcl
                have hldN := ld_now (c := ((xs_, xg), (m, a0, a1, a2, a3, a4, a5, a6, a7), (-1, 0, 0, 0, 0, 0, 0, 0, 0))) hcl
                have hbs := fun W => run_bsY ((xs_, xg), (m, a0, a1, a2, a3, a4, a5, a6, a7), (-1, 0, 0, 0, 0, 0, 0, 0, 0)) W
                have hone := elCh.one ((xs_, xg), (m, a0, a1, a2, a3, a4, a5, a6, a7), (-1, 0, 0, 0, 0, 0, 0, 0, 0))
                obtain ⟨Y, hY⟩ : ∃ Y, chV ((xs_, xg), (m, a0, a1, a2, a3, a4, a5, a6, a7), (-1, 0, 0, 0, 0, 0, 0, 0, 0)) = Y := ⟨_, rfl⟩
                have hqt := fun e => neBe (m, a0, a1, a2, a3, a4, a5, a6, a7) (-1, 0, 0, 0, 0, 0, 0, 0, 0) true (decide_eq_true e)
                have hqf := fun e => neBe (m, a0, a1, a2, a3, a4, a5, a6, a7) (-1, 0, 0, 0, 0, 0, 0, 0, 0) false (decide_eq_false e)
                dsimp only [beV] at hldO hldN hqt hqf
                rw [hY] at hldC hbs
                have HQT := Lib.hid hqt
                have HQF := Lib.hid hqf
                clear hY hqt hqf hcl
                by_cases e : ((m, a0, a1, a2, a3, a4, a5, a6, a7) : Be) = (-1, 0, 0, 0, 0, 0, 0, 0, 0)
                · as_aux_lemma =>
                    have hq := HQT.out e
                    have HGE : Hid (mrg a b = out ++ mrg xs (((ys_, yg), n, b0, b1, b2, b3, b4, b5, b6, b7) :: ys)) := Lib.hid (by rw [HM.out, consC, if_pos e])
                    clear e hbs hone HQT HQF
                    go_wp2_with (first | refine wpList_ldY rfl 31 _ rfl _ rfl _ hldO ?_ | refine wpList_ldY rfl 31 _ rfl _ rfl _ hldN ?_)
                    go_roundw
                    case rel => exact ⟨_, _, _, HRX, hyR, HGE, by have := hl.out; refine Lib.hid ?_; simp only [List.length_cons] at this; (try simp only [List.length_cons]); omega, Lib.hid HZ1.out.own, Lib.hid HZ1.out.below⟩
                    case measure => simp [lenV]; try omega
                · have hq := HQF.out e
                  have HGE : Hid (mrg a b = (out ++ [((xs_, xg), (m, a0, a1, a2, a3, a4, a5, a6, a7), (-1, 0, 0, 0, 0, 0, 0, 0, 0))]) ++ mrg xs (((ys_, yg), n, b0, b1, b2, b3, b4, b5, b6, b7) :: ys)) := Lib.hid (by rw [HM.out, consC, if_neg e, List.append_assoc]; rfl)
                  have HLC : Hid ((elCh.enc ((xs_, xg), (m, a0, a1, a2, a3, a4, a5, a6, a7), (-1, 0, 0, 0, 0, 0, 0, 0, 0))).length = 20) := Lib.hid (elCh.len _)
                  obtain ⟨CC, hCC⟩ : ∃ CC : Ch, (((xs_, xg), (m, a0, a1, a2, a3, a4, a5, a6, a7), (-1, 0, 0, 0, 0, 0, 0, 0, 0)) : Ch) = CC := ⟨_, rfl⟩
                  rw [hCC] at HGE hbs hone HLC
                  clear e HQT HQF hCC
                  have hl9 := hl.out
                  simp only [List.length_cons] at hl9
                  have hno9 := HNO.out
                  go_wp2_with (first | refine wpList_ldY rfl 31 _ rfl _ rfl _ hldO ?_ | refine wpList_ldY rfl 31 _ rfl _ rfl _ hldN ?_ | refine wpList_ldY rfl 36 _ rfl _ rfl Y hldC ?_ | refine wpList_bsY rfl 23 _ rfl Y rfl (hbs _) ?_ | (at_builtin; refine wpList_append_own _ rfl _ _ 23 rfl w.heap.size 36 i0 (chV chZ) 20 160 Tryd.underlying23 hi hz0 hz1 hz2 rfl (by decide) _ _ _ rfl (World.ownsRow.alloc HZ1.out.own _) ⟨Z.heap.size, 0, none⟩ 1 1 (elCh.enc CC) rfl HLC.out ?d1 ?d2 ?d3 ?d4 ?d5 ?_))
                  case d1 => exact World.news_of_block (heap_alloc_new _ _)
                  case d2 => exact hone
                  case d3 => unfold maxLen; omega
                  case d4 => omega
                  case d5 => have := HZ1.out.below.size; simp; omega
                  intro v' w9 hown hgr _
                  have HBN : Hid (Below w.heap.size w w9) := Lib.hid ((nb_alloc HZ1.out.below _).grown hgr (nb_alloc HZ1.out.below _).size (fun k e => HZ1.out.own.ge e))
                  have HON : Hid (OwnsF elCh w9 w.heap.size 36 v' (out ++ [CC])) := Lib.hid (OwnsF.snoc (by rw [HNO.out]; exact hown))
                  clear hown hgr
                  go_wp2
                  go_roundw
                  case rel => exact ⟨_, _, out ++ [CC], HRX, hyR, HGE, by have := hl.out; refine Lib.hid ?_; simp only [List.length_cons] at this; simp only [List.length_append, List.length_cons, List.length_nil]; omega, HON, HBN⟩
                  case measure => simp [lenV]; try omega
            · by_cases hcmp2 : hlt y.1 x.1
              · have hg1 := decide_eq_true hcmp2
                have hg2 := decide_eq_false hcmp
                obtain ⟨⟨xs_, xg⟩, m, a0, a1, a2, a3, a4, a5, a6, a7⟩ := x
                obtain ⟨bx, ox, nx, rfl, hnx, hnx', hcnx, hmnx, hbnx, hwnx, hrnx, htnx, htnx'⟩ := first_ro hx.out
                have HCX := Lib.hid hrnx
                have HTX := Lib.hid htnx
                have HTX' := Lib.hid htnx'
                have HWX := Lib.hid hwnx
                have HNX := Lib.hid hnx
                have hSX : ∀ W, Below w.heap.size w W → (Instr.loadAt 28 (.pointer (some ⟨bx, ox, none⟩))).run Tryd.prog W = .ok (.agg #[.int .i64 xs_, .int .i64 xg]) W ∧ (Instr.loadAt 31 (.pointer (some ⟨bx, ox + 2, none⟩))).run Tryd.prog W = .ok (.agg #[.int .i64 m, .int .i64 a0, .int .i64 a1, .int .i64 a2, .int .i64 a3, .int .i64 a4, .int .i64 a5, .int .i64 a6, .int .i64 a7]) W := fun W hW => ⟨ld_roH (hrnx W hW), ld_roB (hrnx W hW)⟩
                have HSX := Lib.hid hSX
                have hn0X : ((nx : Int) + 1 == 0) = false := by simp; omega
                have hp0X : (0 : Int) < (nx : Int) + 1 := by omega
                have hxR : Hid (Reads elRo w (.slice (some ⟨bx, ox, none⟩) (nx + 1) xc) (((xs_, xg), m, a0, a1, a2, a3, a4, a5, a6, a7) :: xs)) := Lib.hid (by rw [← hnx']; exact hx.out)
                rw [hnx'] at *
                clear hrnx htnx htnx' hwnx hnx hSX hnx'

                obtain ⟨⟨ys_, yg⟩, n, b0, b1, b2, b3, b4, b5, b6, b7⟩ := y
                obtain ⟨by_, oy, ny, rfl, hny, hny', hcny, hmny, hbny, hwny, hrny, htny, htny'⟩ := first_ro hy.out
                have HCY := Lib.hid hrny
                have HTY := Lib.hid htny
                have HTY' := Lib.hid htny'
                have HWY := Lib.hid hwny
                have HNY := Lib.hid hny
                have hSY : ∀ W, Below w.heap.size w W → (Instr.loadAt 28 (.pointer (some ⟨by_, oy, none⟩))).run Tryd.prog W = .ok (.agg #[.int .i64 ys_, .int .i64 yg]) W ∧ (Instr.loadAt 31 (.pointer (some ⟨by_, oy + 2, none⟩))).run Tryd.prog W = .ok (.agg #[.int .i64 n, .int .i64 b0, .int .i64 b1, .int .i64 b2, .int .i64 b3, .int .i64 b4, .int .i64 b5, .int .i64 b6, .int .i64 b7]) W := fun W hW => ⟨ld_roH (hrny W hW), ld_roB (hrny W hW)⟩
                have HSY := Lib.hid hSY
                have hn0Y : ((ny : Int) + 1 == 0) = false := by simp; omega
                have hp0Y : (0 : Int) < (ny : Int) + 1 := by omega
                have hyR : Hid (Reads elRo w (.slice (some ⟨by_, oy, none⟩) (ny + 1) yc) (((ys_, yg), n, b0, b1, b2, b3, b4, b5, b6, b7) :: ys)) := Lib.hid (by rw [← hny']; exact hy.out)
                rw [hny'] at *
                clear hrny htny htny' hwny hny hSY hny'

                have hl9 := hl.out
                simp only [List.length_cons] at hl9
                rw [HNX.out, HNY.out] at hl9

                have HL1 := Lib.hid (fun W => less_any ys_ yg xs_ xg true W hg1)
                have HL2 := Lib.hid (fun W => less_any xs_ xg ys_ yg false W hg2)
                clear hg1 hg2
                have HM : Hid (mrg a b = out ++ consC ((ys_, yg), (-1, 0, 0, 0, 0, 0, 0, 0, 0), (n, b0, b1, b2, b3, b4, b5, b6, b7)) (mrg (((xs_, xg), m, a0, a1, a2, a3, a4, a5, a6, a7) :: xs) ys)) := Lib.hid (by rw [hm.out, mrg, if_neg hcmp, if_pos hcmp2]; rfl)
                clear hm
                go_wp2_with fail
                refine (refNone_any _).mono ?_
                rintro e w3 ⟨rfl, hb3⟩
                have HB3 := Lib.hid (nb_trans hB.out hb3)
                have HO3 := Lib.hid (hO.out.later hb3)
                clear hb3
                go_wp2_with fail
                refine (refNone_any _).mono ?_
                rintro e w4 ⟨rfl, hb4⟩
                have HB4 := Lib.hid (nb_trans HB3.out hb4)
                have HO4 := Lib.hid (HO3.out.later hb4)
                clear hb4 HO3 HB3
                have hst := st_new ((0, 0), noB, noB) w4
                dsimp only [chV, noB] at hst
                have HX0 : Hid (Bx w w4.heap.size (.slice oa no oc) out ((0, 0), (-1, 0, 0, 0, 0, 0, 0, 0, 0), (-1, 0, 0, 0, 0, 0, 0, 0, 0)) (w4.alloc (.cells (elCh.enc ((0, 0), (-1, 0, 0, 0, 0, 0, 0, 0, 0), (-1, 0, 0, 0, 0, 0, 0, 0, 0))).toArray 36))) := Lib.hid ⟨HB4.out.size, fun k e e2 => by have := HO4.out.lt e; omega, nb_alloc HB4.out _, heap_alloc_new _ _, HO4.out.later (nb_alloc (Below.refl _ _) _)⟩
                clear HB4 HO4 hO hB
                generalize w4.alloc (.cells (elCh.enc ((0, 0), (-1, 0, 0, 0, 0, 0, 0, 0, 0), (-1, 0, 0, 0, 0, 0, 0, 0, 0))).toArray 36) = X at *
                go_upto_region 6 with (refine wpList_stY rfl 36 _ _ rfl _ rfl _ rfl hst ?_)
                clear hst
                generalize w4.heap.size = q at *
                try dsimp only [Act.put]
                have hl0 : ∀ y : Later X, y.w.cell? ⟨bx, ox, none⟩ = some (.int .i64 xs_) := fun y => HCX.out _ (nb_trans HX0.out.below y.below) 0 (by decide)
                have hl1 : ∀ y : Later X, y.w.cell? ⟨bx, ox + 1, none⟩ = some (.int .i64 xg) := fun y => HCX.out _ (nb_trans HX0.out.below y.below) 1 (by decide)
                have hl2 : ∀ y : Later X, y.w.cell? ⟨by_, oy, none⟩ = some (.int .i64 ys_) := fun y => HCY.out _ (nb_trans HX0.out.below y.below) 0 (by decide)
                have hl3 : ∀ y : Later X, y.w.cell? ⟨by_, oy + 1, none⟩ = some (.int .i64 yg) := fun y => HCY.out _ (nb_trans HX0.out.below y.below) 1 (by decide)
                have hl4 : ∀ y : Later X, bx < y.w.heap.size := fun y => HWX.out _ (nb_trans HX0.out.below y.below)
                have hl5 : ∀ y : Later X, by_ < y.w.heap.size := fun y => HWY.out _ (nb_trans HX0.out.below y.below)
                refine wp_region_later (by kernel_rfl) (by kernel_rfl) ?_
                repeat (go_big_quiet_step ((first | (go_at_call 27; first | with_reducible exact Calls.later (HL1.out _) | with_reducible exact Calls.later (HL2.out _)))))
                refine wpQuiet_nil ?_
                rintro _ ⟨nq, rfl⟩
                have HV0 := Lib.hid (HX0.out.later nq.below)
                generalize nq.w = V at *
                clear hl0 hl1 hl2 hl3 hl4 hl5
                clear HX0
                go_upto_region 7 with fail
                have hl0 : ∀ y : Later V, y.w.cell? ⟨bx, ox, none⟩ = some (.int .i64 xs_) := fun y => HCX.out _ (nb_trans HV0.out.below y.below) 0 (by decide)
                have hl1 : ∀ y : Later V, y.w.cell? ⟨bx, ox + 1, none⟩ = some (.int .i64 xg) := fun y => HCX.out _ (nb_trans HV0.out.below y.below) 1 (by decide)
                have hl2 : ∀ y : Later V, y.w.cell? ⟨by_, oy, none⟩ = some (.int .i64 ys_) := fun y => HCY.out _ (nb_trans HV0.out.below y.below) 0 (by decide)
                have hl3 : ∀ y : Later V, y.w.cell? ⟨by_, oy + 1, none⟩ = some (.int .i64 yg) := fun y => HCY.out _ (nb_trans HV0.out.below y.below) 1 (by decide)
                have hl4 : ∀ y : Later V, bx < y.w.heap.size := fun y => HWX.out _ (nb_trans HV0.out.below y.below)
                have hl5 : ∀ y : Later V, by_ < y.w.heap.size := fun y => HWY.out _ (nb_trans HV0.out.below y.below)
                refine wp_region_later (by kernel_rfl) (by kernel_rfl) ?_
                repeat (go_big_quiet_step ((first | (go_at_call 27; first | with_reducible exact Calls.later (HL1.out _) | with_reducible exact Calls.later (HL2.out _)))))
                refine wpQuiet_nil ?_
                rintro _ ⟨nq, rfl⟩
                have HZ0 := Lib.hid (HV0.out.later nq.below)
                generalize nq.w = Z at *
                clear hl0 hl1 hl2 hl3 hl4 hl5
                clear HV0
                go_upto_if 80 with fail
                go_cut [1] from 18 to 101 (fun c0 wx => Hid (Reads elRo w c0 ys) ∧ Hid (Bx w q (.slice oa no oc) out ((ys_, yg), (-1, 0, 0, 0, 0, 0, 0, 0, 0), (n, b0, b1, b2, b3, b4, b5, b6, b7)) wx))
                case first =>
                  go_upto_region 12 with fail
                  have hS0 := HSY.out _ HZ0.out.drew.below
                  have HBD := Lib.hid HZ0.out.drew
                  refine wp_region_noPanic (wp_region_till (fun W : World => (Instr.loadAt 28 (.pointer (some ⟨by_, oy, none⟩))).run Tryd.prog W = .ok (.agg #[.int .i64 ys_, .int .i64 yg]) W ∧ (Instr.loadAt 31 (.pointer (some ⟨by_, oy + 2, none⟩))).run Tryd.prog W = .ok (.agg #[.int .i64 n, .int .i64 b0, .int .i64 b1, .int .i64 b2, .int .i64 b3, .int .i64 b4, .int .i64 b5, .int .i64 b6, .int .i64 b7]) W) 12 (by kernel_rfl) ?_)
                  refine Till.take' (i := 0) rfl (by kernel_rfl) (by kernel_rfl) (by kernel_rfl) (by kernel_rfl) (fun _ _ _ h => h) (Or.inl ⟨by rfl, fun w hw => by go_simp; (try with_reducible rfl)⟩) hS0 ?_
                  try simp only [Act.put, di_t, di_0, di_s, List.getElem_toArray, List.getElem_cons_zero, List.getElem_cons_succ]
                  refine Till.take' (i := 1) rfl (by kernel_rfl) (by kernel_rfl) (by kernel_rfl) (by kernel_rfl) (fun _ _ _ h => h) (Or.inl ⟨by rfl, fun w hw => by go_simp; (try with_reducible rfl)⟩) hS0 ?_
                  try simp only [Act.put, di_t, di_0, di_s, List.getElem_toArray, List.getElem_cons_zero, List.getElem_cons_succ]
                  refine Till.take' (i := 2) rfl (by kernel_rfl) (by kernel_rfl) (by kernel_rfl) (by kernel_rfl) (fun _ _ _ h => h) (Or.inl ⟨by rfl, fun w hw => by go_simp; (try with_reducible rfl)⟩) hS0 ?_
                  try simp only [Act.put, di_t, di_0, di_s, List.getElem_toArray, List.getElem_cons_zero, List.getElem_cons_succ]
                  refine Till.take' (i := 3) rfl (by kernel_rfl) (by kernel_rfl) (by kernel_rfl) (by kernel_rfl) (fun _ _ _ h => h) (yields_ldY (by rfl) 28 _ (by rfl) _ (by rfl) (.agg #[.int .i64 ys_, .int .i64 yg]) (fun W hW => hW.1)) hS0 ?_
                  try simp only [Act.put, di_t, di_0, di_s, List.getElem_toArray, List.getElem_cons_zero, List.getElem_cons_succ]
                  refine Till.take' (i := 4) rfl (by kernel_rfl) (by kernel_rfl) (by kernel_rfl) (by kernel_rfl) (fun _ _ _ h => h) (Or.inl ⟨by rfl, fun w hw => by go_simp; (try with_reducible rfl)⟩) hS0 ?_
                  try simp only [Act.put, di_t, di_0, di_s, List.getElem_toArray, List.getElem_cons_zero, List.getElem_cons_succ]
                  refine Till.take' (i := 5) rfl (by kernel_rfl) (by kernel_rfl) (by kernel_rfl) (by kernel_rfl) (fun _ _ _ h => h) (Or.inl ⟨by rfl, fun w hw => by go_simp; (try with_reducible rfl)⟩) hS0 ?_
                  try simp only [Act.put, di_t, di_0, di_s, List.getElem_toArray, List.getElem_cons_zero, List.getElem_cons_succ]
                  refine Till.take' (i := 6) rfl (by kernel_rfl) (by kernel_rfl) (by kernel_rfl) (by kernel_rfl) (fun _ _ _ h => h) (Or.inl ⟨by rfl, fun w hw => by go_simp; (try with_reducible rfl)⟩) hS0 ?_
                  try simp only [Act.put, di_t, di_0, di_s, List.getElem_toArray, List.getElem_cons_zero, List.getElem_cons_succ]
                  refine Till.take' (i := 7) rfl (by kernel_rfl) (by kernel_rfl) (by kernel_rfl) (by kernel_rfl) (fun _ _ _ h => h) (yields_ldY (by rfl) 31 _ (by rfl) _ (by rfl) (.agg #[.int .i64 n, .int .i64 b0, .int .i64 b1, .int .i64 b2, .int .i64 b3, .int .i64 b4, .int .i64 b5, .int .i64 b6, .int .i64 b7]) (fun W hW => hW.2)) hS0 ?_
                  try simp only [Act.put, di_t, di_0, di_s, List.getElem_toArray, List.getElem_cons_zero, List.getElem_cons_succ]
                  refine Till.take' (i := 8) rfl (by kernel_rfl) (by kernel_rfl) (by kernel_rfl) (by kernel_rfl) (fun _ _ _ h => h) (Or.inl ⟨by rfl, fun w hw => by go_simp; (try with_reducible rfl)⟩) hS0 ?_
                  try simp only [Act.put, di_t, di_0, di_s, List.getElem_toArray, List.getElem_cons_zero, List.getElem_cons_succ]
                  refine Till.ready (rs := [9]) (by kernel_rfl) (by simp) (TillAll.cons rfl (fun K hK => ?_) TillAll.nil)
                  refine step_put (by rfl) 28 _ _ (by rfl) q 0 [.int .i64 ys_, .int .i64 yg] (by rfl) (by rfl) (HBD.out.there 0 2 (by decide)) (by kernel_rfl) (one2 _ _) ?_
                  have Ha := Lib.hid (HBD.out.at_ ys_ yg)
                  refine hK.out _ _ (.inr (HSY.out _ Ha.out.below)) ?_
                  clear hK K hS0
                  try simp only [Act.put, di_t, di_0, di_s, List.getElem_toArray, List.getElem_cons_zero, List.getElem_cons_succ]
                  have hS0 := HSY.out _ Ha.out.below
                  refine Till.take' (i := 10) rfl (by kernel_rfl) (by kernel_rfl) (by kernel_rfl) (by kernel_rfl) (fun _ _ _ h => h) (Or.inl ⟨by rfl, fun w hw => by go_simp; (try with_reducible rfl)⟩) hS0 ?_
                  try simp only [Act.put, di_t, di_0, di_s, List.getElem_toArray, List.getElem_cons_zero, List.getElem_cons_succ]
                  refine Till.ready (rs := [11]) (by kernel_rfl) (by simp) (TillAll.cons rfl (fun K hK => ?_) TillAll.nil)
                  refine step_put (by rfl) 31 _ _ (by rfl) q 11 [.int .i64 n, .int .i64 b0, .int .i64 b1, .int .i64 b2, .int .i64 b3, .int .i64 b4, .int .i64 b5, .int .i64 b6, .int .i64 b7] (by rfl) (by rfl) (Ha.out.there 11 9 (by decide)) (by kernel_rfl) (one9 _ _ _ _ _ _ _ _ _) ?_
                  have Hb := Lib.hid (Ha.out.now n b0 b1 b2 b3 b4 b5 b6 b7)
                  refine hK.out _ _ (.inr (HSY.out _ Hb.out.below)) ?_
                  clear hK K Ha HBD hS0
                  try simp only [Act.put, di_t, di_0, di_s, List.getElem_toArray, List.getElem_cons_zero, List.getElem_cons_succ]
                  refine Till.done (by kernel_rfl) (NoPanic.normal ?_) _
                  generalize World.setCells _ _ _ _ = Z2 at *
                  by_cases hcc : yc = 1
                  · have HRR := Lib.hid (HTY'.out hcc)
                    subst hcc
                    go_wp2
                    go_meet
                    exact ⟨Lib.hid (HRR.out _), Hb⟩
                  · have hcc' : ¬ (yc : Int) = 1 := by omega
                    go_wp2
                    go_meet
                    exact ⟨Lib.hid HTY.out, Hb⟩
                case rest =>
                  obtain ⟨HRY, HZ2⟩ := hcut
                  obtain ⟨rY, rkY, heY, -⟩ := HRY.out
                  rw [HNY.out] at heY
                  subst heY

                  clear HZ0 HTY HTY' HSY
                  generalize wc = Z at *

                  have hcl := HZ2.out.cell
                  have hldC := ld_ch (b := q) (o := 0) (c := ((ys_, yg), (-1, 0, 0, 0, 0, 0, 0, 0, 0), (n, b0, b1, b2, b3, b4, b5, b6, b7))) (fun j hj => by rw [Nat.zero_add]; exact hcl j hj)
                  have hldO := ld_old (c := ((ys_, yg), (-1, 0, 0, 0, 0, 0, 0, 0, 0), (n, b0, b1, b2, b3, b4, b5, b6, b7))) hcl
                  have hldN := ld_now (c := ((ys_, yg), (-1, 0, 0, 0, 0, 0, 0, 0, 0), (n, b0, b1, b2, b3, b4, b5, b6, b7))) hcl
                  have hbs := fun W => run_bsY ((ys_, yg), (-1, 0, 0, 0, 0, 0, 0, 0, 0), (n, b0, b1, b2, b3, b4, b5, b6, b7)) W
                  have hone := elCh.one ((ys_, yg), (-1, 0, 0, 0, 0, 0, 0, 0, 0), (n, b0, b1, b2, b3, b4, b5, b6, b7))
                  obtain ⟨Y, hY⟩ : ∃ Y, chV ((ys_, yg), (-1, 0, 0, 0, 0, 0, 0, 0, 0), (n, b0, b1, b2, b3, b4, b5, b6, b7)) = Y := ⟨_, rfl⟩
                  have hqt := fun e => neBe (-1, 0, 0, 0, 0, 0, 0, 0, 0) (n, b0, b1, b2, b3, b4, b5, b6, b7) true (decide_eq_true e)
                  have hqf := fun e => neBe (-1, 0, 0, 0, 0, 0, 0, 0, 0) (n, b0, b1, b2, b3, b4, b5, b6, b7) false (decide_eq_false e)
                  dsimp only [beV] at hldO hldN hqt hqf
                  rw [hY] at hldC hbs
                  have HQT := Lib.hid hqt
                  have HQF := Lib.hid hqf
                  clear hY hqt hqf hcl
                  by_cases e : ((-1, 0, 0, 0, 0, 0, 0, 0, 0) : Be) = (n, b0, b1, b2, b3, b4, b5, b6, b7)
                  · as_aux_lemma =>
                      have hq := HQT.out e
                      have HGE : Hid (mrg a b = out ++ mrg (((xs_, xg), m, a0, a1, a2, a3, a4, a5, a6, a7) :: xs) ys) := Lib.hid (by rw [HM.out, consC, if_pos e])
                      clear e hbs hone HQT HQF
                      go_wp2_with (first | refine wpList_ldY rfl 31 _ rfl _ rfl _ hldO ?_ | refine wpList_ldY rfl 31 _ rfl _ rfl _ hldN ?_)
                      go_roundw
                      case rel => exact ⟨_, _, _, hxR, HRY, HGE, by have := hl.out; refine Lib.hid ?_; simp only [List.length_cons] at this; (try simp only [List.length_cons]); omega, Lib.hid HZ2.out.own, Lib.hid HZ2.out.below⟩
                      case measure => simp [lenV]; try omega
                  · have hq := HQF.out e
                    have HGE : Hid (mrg a b = (out ++ [((ys_, yg), (-1, 0, 0, 0, 0, 0, 0, 0, 0), (n, b0, b1, b2, b3, b4, b5, b6, b7))]) ++ mrg (((xs_, xg), m, a0, a1, a2, a3, a4, a5, a6, a7) :: xs) ys) := Lib.hid (by rw [HM.out, consC, if_neg e, List.append_assoc]; rfl)
                    have HLC : Hid ((elCh.enc ((ys_, yg), (-1, 0, 0, 0, 0, 0, 0, 0, 0), (n, b0, b1, b2, b3, b4, b5, b6, b7))).length = 20) := Lib.hid (elCh.len _)
                    obtain ⟨CC, hCC⟩ : ∃ CC : Ch, (((ys_, yg), (-1, 0, 0, 0, 0, 0, 0, 0, 0), (n, b0, b1, b2, b3, b4, b5, b6, b7)) : Ch) = CC := ⟨_, rfl⟩
                    rw [hCC] at HGE hbs hone HLC
                    clear e HQT HQF hCC
                    have hl9 := hl.out
                    simp only [List.length_cons] at hl9
                    have hno9 := HNO.out
                    go_wp2_with (first | refine wpList_ldY rfl 31 _ rfl _ rfl _ hldO ?_ | refine wpList_ldY rfl 31 _ rfl _ rfl _ hldN ?_ | refine wpList_ldY rfl 36 _ rfl _ rfl Y hldC ?_ | refine wpList_bsY rfl 23 _ rfl Y rfl (hbs _) ?_ | (at_builtin; refine wpList_append_own _ rfl _ _ 23 rfl w.heap.size 36 i0 (chV chZ) 20 160 Tryd.underlying23 hi hz0 hz1 hz2 rfl (by decide) _ _ _ rfl (World.ownsRow.alloc HZ2.out.own _) ⟨Z.heap.size, 0, none⟩ 1 1 (elCh.enc CC) rfl HLC.out ?d1 ?d2 ?d3 ?d4 ?d5 ?_))
                    case d1 => exact World.news_of_block (heap_alloc_new _ _)
                    case d2 => exact hone
                    case d3 => unfold maxLen; omega
                    case d4 => omega
                    case d5 => have := HZ2.out.below.size; simp; omega
                    intro v' w9 hown hgr _
                    have HBN : Hid (Below w.heap.size w w9) := Lib.hid ((nb_alloc HZ2.out.below _).grown hgr (nb_alloc HZ2.out.below _).size (fun k e => HZ2.out.own.ge e))
                    have HON : Hid (OwnsF elCh w9 w.heap.size 36 v' (out ++ [CC])) := Lib.hid (OwnsF.snoc (by rw [HNO.out]; exact hown))
                    clear hown hgr
                    go_wp2
                    go_roundw
                    case rel => exact ⟨_, _, out ++ [CC], hxR, HRY, HGE, by have := hl.out; refine Lib.hid ?_; simp only [List.length_cons] at this; simp only [List.length_append, List.length_cons, List.length_nil]; omega, HON, HBN⟩
                    case measure => simp [lenV]; try omega
              · have hg1 := decide_eq_false hcmp2
                have hg2 := decide_eq_false hcmp
                have hceq : y.1 = x.1 := ((hlt_tri x.1 y.1).resolve_left hcmp).resolve_right hcmp2 |>.symm
                obtain ⟨⟨xs_, xg⟩, m, a0, a1, a2, a3, a4, a5, a6, a7⟩ := x
                obtain ⟨bx, ox, nx, rfl, hnx, hnx', hcnx, hmnx, hbnx, hwnx, hrnx, htnx, htnx'⟩ := first_ro hx.out
                have HCX := Lib.hid hrnx
                have HTX := Lib.hid htnx
                have HTX' := Lib.hid htnx'
                have HWX := Lib.hid hwnx
                have HNX := Lib.hid hnx
                have hSX : ∀ W, Below w.heap.size w W → (Instr.loadAt 28 (.pointer (some ⟨bx, ox, none⟩))).run Tryd.prog W = .ok (.agg #[.int .i64 xs_, .int .i64 xg]) W ∧ (Instr.loadAt 31 (.pointer (some ⟨bx, ox + 2, none⟩))).run Tryd.prog W = .ok (.agg #[.int .i64 m, .int .i64 a0, .int .i64 a1, .int .i64 a2, .int .i64 a3, .int .i64 a4, .int .i64 a5, .int .i64 a6, .int .i64 a7]) W := fun W hW => ⟨ld_roH (hrnx W hW), ld_roB (hrnx W hW)⟩
                have HSX := Lib.hid hSX
                have hn0X : ((nx : Int) + 1 == 0) = false := by simp; omega
                have hp0X : (0 : Int) < (nx : Int) + 1 := by omega
                have hxR : Hid (Reads elRo w (.slice (some ⟨bx, ox, none⟩) (nx + 1) xc) (((xs_, xg), m, a0, a1, a2, a3, a4, a5, a6, a7) :: xs)) := Lib.hid (by rw [← hnx']; exact hx.out)
                rw [hnx'] at *
                clear hrnx htnx htnx' hwnx hnx hSX hnx'

                obtain ⟨⟨ys_, yg⟩, n, b0, b1, b2, b3, b4, b5, b6, b7⟩ := y
                obtain ⟨by_, oy, ny, rfl, hny, hny', hcny, hmny, hbny, hwny, hrny, htny, htny'⟩ := first_ro hy.out
                have HCY := Lib.hid hrny
                have HTY := Lib.hid htny
                have HTY' := Lib.hid htny'
                have HWY := Lib.hid hwny
                have HNY := Lib.hid hny
                have hSY : ∀ W, Below w.heap.size w W → (Instr.loadAt 28 (.pointer (some ⟨by_, oy, none⟩))).run Tryd.prog W = .ok (.agg #[.int .i64 ys_, .int .i64 yg]) W ∧ (Instr.loadAt 31 (.pointer (some ⟨by_, oy + 2, none⟩))).run Tryd.prog W = .ok (.agg #[.int .i64 n, .int .i64 b0, .int .i64 b1, .int .i64 b2, .int .i64 b3, .int .i64 b4, .int .i64 b5, .int .i64 b6, .int .i64 b7]) W := fun W hW => ⟨ld_roH (hrny W hW), ld_roB (hrny W hW)⟩
                have HSY := Lib.hid hSY
                have hn0Y : ((ny : Int) + 1 == 0) = false := by simp; omega
                have hp0Y : (0 : Int) < (ny : Int) + 1 := by omega
                have hyR : Hid (Reads elRo w (.slice (some ⟨by_, oy, none⟩) (ny + 1) yc) (((ys_, yg), n, b0, b1, b2, b3, b4, b5, b6, b7) :: ys)) := Lib.hid (by rw [← hny']; exact hy.out)
                rw [hny'] at *
                clear hrny htny htny' hwny hny hSY hny'

                have hl9 := hl.out
                simp only [List.length_cons] at hl9
                rw [HNX.out, HNY.out] at hl9

                have HL1 := Lib.hid (fun W => less_any ys_ yg xs_ xg false W hg1)
                have HL2 := Lib.hid (fun W => less_any xs_ xg ys_ yg false W hg2)
                clear hg1 hg2
                have HM : Hid (mrg a b = out ++ consC ((ys_, yg), (m, a0, a1, a2, a3, a4, a5, a6, a7), (n, b0, b1, b2, b3, b4, b5, b6, b7)) (mrg xs ys)) := Lib.hid (by rw [hm.out, mrg, if_neg hcmp, if_neg hcmp2, show ((ys_, yg) : Hd) = (xs_, xg) from hceq])
                clear hm
                go_wp2_with fail
                refine (refNone_any _).mono ?_
                rintro e w3 ⟨rfl, hb3⟩
                have HB3 := Lib.hid (nb_trans hB.out hb3)
                have HO3 := Lib.hid (hO.out.later hb3)
                clear hb3
                go_wp2_with fail
                refine (refNone_any _).mono ?_
                rintro e w4 ⟨rfl, hb4⟩
                have HB4 := Lib.hid (nb_trans HB3.out hb4)
                have HO4 := Lib.hid (HO3.out.later hb4)
                clear hb4 HO3 HB3
                have hst := st_new ((0, 0), noB, noB) w4
                dsimp only [chV, noB] at hst
                have HX0 : Hid (Bx w w4.heap.size (.slice oa no oc) out ((0, 0), (-1, 0, 0, 0, 0, 0, 0, 0, 0), (-1, 0, 0, 0, 0, 0, 0, 0, 0)) (w4.alloc (.cells (elCh.enc ((0, 0), (-1, 0, 0, 0, 0, 0, 0, 0, 0), (-1, 0, 0, 0, 0, 0, 0, 0, 0))).toArray 36))) := Lib.hid ⟨HB4.out.size, fun k e e2 => by have := HO4.out.lt e; omega, nb_alloc HB4.out _, heap_alloc_new _ _, HO4.out.later (nb_alloc (Below.refl _ _) _)⟩
                clear HB4 HO4 hO hB
                generalize w4.alloc (.cells (elCh.enc ((0, 0), (-1, 0, 0, 0, 0, 0, 0, 0, 0), (-1, 0, 0, 0, 0, 0, 0, 0, 0))).toArray 36) = X at *
                go_upto_region 6 with (refine wpList_stY rfl 36 _ _ rfl _ rfl _ rfl hst ?_)
                clear hst
                generalize w4.heap.size = q at *
                try dsimp only [Act.put]
                have hl0 : ∀ y : Later X, y.w.cell? ⟨bx, ox, none⟩ = some (.int .i64 xs_) := fun y => HCX.out _ (nb_trans HX0.out.below y.below) 0 (by decide)
                have hl1 : ∀ y : Later X, y.w.cell? ⟨bx, ox + 1, none⟩ = some (.int .i64 xg) := fun y => HCX.out _ (nb_trans HX0.out.below y.below) 1 (by decide)
                have hl2 : ∀ y : Later X, y.w.cell? ⟨by_, oy, none⟩ = some (.int .i64 ys_) := fun y => HCY.out _ (nb_trans HX0.out.below y.below) 0 (by decide)
                have hl3 : ∀ y : Later X, y.w.cell? ⟨by_, oy + 1, none⟩ = some (.int .i64 yg) := fun y => HCY.out _ (nb_trans HX0.out.below y.below) 1 (by decide)
                have hl4 : ∀ y : Later X, bx < y.w.heap.size := fun y => HWX.out _ (nb_trans HX0.out.below y.below)
                have hl5 : ∀ y : Later X, by_ < y.w.heap.size := fun y => HWY.out _ (nb_trans HX0.out.below y.below)
                refine wp_region_later (by kernel_rfl) (by kernel_rfl) ?_
                repeat (go_big_quiet_step ((first | (go_at_call 27; first | with_reducible exact Calls.later (HL1.out _) | with_reducible exact Calls.later (HL2.out _)))))
                refine wpQuiet_nil ?_
                rintro _ ⟨nq, rfl⟩
                have HV0 := Lib.hid (HX0.out.later nq.below)
                generalize nq.w = V at *
                clear hl0 hl1 hl2 hl3 hl4 hl5
                clear HX0
                go_upto_region 7 with fail
                have hl0 : ∀ y : Later V, y.w.cell? ⟨bx, ox, none⟩ = some (.int .i64 xs_) := fun y => HCX.out _ (nb_trans HV0.out.below y.below) 0 (by decide)
                have hl1 : ∀ y : Later V, y.w.cell? ⟨bx, ox + 1, none⟩ = some (.int .i64 xg) := fun y => HCX.out _ (nb_trans HV0.out.below y.below) 1 (by decide)
                have hl2 : ∀ y : Later V, y.w.cell? ⟨by_, oy, none⟩ = some (.int .i64 ys_) := fun y => HCY.out _ (nb_trans HV0.out.below y.below) 0 (by decide)
                have hl3 : ∀ y : Later V, y.w.cell? ⟨by_, oy + 1, none⟩ = some (.int .i64 yg) := fun y => HCY.out _ (nb_trans HV0.out.below y.below) 1 (by decide)
                have hl4 : ∀ y : Later V, bx < y.w.heap.size := fun y => HWX.out _ (nb_trans HV0.out.below y.below)
                have hl5 : ∀ y : Later V, by_ < y.w.heap.size := fun y => HWY.out _ (nb_trans HV0.out.below y.below)
                refine wp_region_later (by kernel_rfl) (by kernel_rfl) ?_
                repeat (go_big_quiet_step ((first | (go_at_call 27; first | with_reducible exact Calls.later (HL1.out _) | with_reducible exact Calls.later (HL2.out _)))))
                refine wpQuiet_nil ?_
                rintro _ ⟨nq, rfl⟩
                have HZ0 := Lib.hid (HV0.out.later nq.below)
                generalize nq.w = Z at *
                clear hl0 hl1 hl2 hl3 hl4 hl5
                clear HV0
                go_upto_if 67 with fail
                go_cut [0] from 18 to 101 (fun c0 wx => Hid (Reads elRo w c0 xs) ∧ Hid (Bx w q (.slice oa no oc) out ((xs_, xg), (m, a0, a1, a2, a3, a4, a5, a6, a7), (-1, 0, 0, 0, 0, 0, 0, 0, 0)) wx))
                case first =>
                  go_upto_region 9 with fail
                  have hS0 := HSX.out _ HZ0.out.drew.below
                  have HBD := Lib.hid HZ0.out.drew
                  refine wp_region_noPanic (wp_region_till (fun W : World => (Instr.loadAt 28 (.pointer (some ⟨bx, ox, none⟩))).run Tryd.prog W = .ok (.agg #[.int .i64 xs_, .int .i64 xg]) W ∧ (Instr.loadAt 31 (.pointer (some ⟨bx, ox + 2, none⟩))).run Tryd.prog W = .ok (.agg #[.int .i64 m, .int .i64 a0, .int .i64 a1, .int .i64 a2, .int .i64 a3, .int .i64 a4, .int .i64 a5, .int .i64 a6, .int .i64 a7]) W) 12 (by kernel_rfl) ?_)
                  refine Till.take' (i := 0) rfl (by kernel_rfl) (by kernel_rfl) (by kernel_rfl) (by kernel_rfl) (fun _ _ _ h => h) (Or.inl ⟨by rfl, fun w hw => by go_simp; (try with_reducible rfl)⟩) hS0 ?_
                  try simp only [Act.put, di_t, di_0, di_s, List.getElem_toArray, List.getElem_cons_zero, List.getElem_cons_succ]
                  refine Till.take' (i := 1) rfl (by kernel_rfl) (by kernel_rfl) (by kernel_rfl) (by kernel_rfl) (fun _ _ _ h => h) (Or.inl ⟨by rfl, fun w hw => by go_simp; (try with_reducible rfl)⟩) hS0 ?_
                  try simp only [Act.put, di_t, di_0, di_s, List.getElem_toArray, List.getElem_cons_zero, List.getElem_cons_succ]
                  refine Till.take' (i := 2) rfl (by kernel_rfl) (by kernel_rfl) (by kernel_rfl) (by kernel_rfl) (fun _ _ _ h => h) (Or.inl ⟨by rfl, fun w hw => by go_simp; (try with_reducible rfl)⟩) hS0 ?_
                  try simp only [Act.put, di_t, di_0, di_s, List.getElem_toArray, List.getElem_cons_zero, List.getElem_cons_succ]
                  refine Till.take' (i := 3) rfl (by kernel_rfl) (by kernel_rfl) (by kernel_rfl) (by kernel_rfl) (fun _ _ _ h => h) (yields_ldY (by rfl) 28 _ (by rfl) _ (by rfl) (.agg #[.int .i64 xs_, .int .i64 xg]) (fun W hW => hW.1)) hS0 ?_
                  try simp only [Act.put, di_t, di_0, di_s, List.getElem_toArray, List.getElem_cons_zero, List.getElem_cons_succ]
                  refine Till.take' (i := 4) rfl (by kernel_rfl) (by kernel_rfl) (by kernel_rfl) (by kernel_rfl) (fun _ _ _ h => h) (Or.inl ⟨by rfl, fun w hw => by go_simp; (try with_reducible rfl)⟩) hS0 ?_
                  try simp only [Act.put, di_t, di_0, di_s, List.getElem_toArray, List.getElem_cons_zero, List.getElem_cons_succ]
                  refine Till.take' (i := 5) rfl (by kernel_rfl) (by kernel_rfl) (by kernel_rfl) (by kernel_rfl) (fun _ _ _ h => h) (Or.inl ⟨by rfl, fun w hw => by go_simp; (try with_reducible rfl)⟩) hS0 ?_
                  try simp only [Act.put, di_t, di_0, di_s, List.getElem_toArray, List.getElem_cons_zero, List.getElem_cons_succ]
                  refine Till.take' (i := 6) rfl (by kernel_rfl) (by kernel_rfl) (by kernel_rfl) (by kernel_rfl) (fun _ _ _ h => h) (Or.inl ⟨by rfl, fun w hw => by go_simp; (try with_reducible rfl)⟩) hS0 ?_
                  try simp only [Act.put, di_t, di_0, di_s, List.getElem_toArray, List.getElem_cons_zero, List.getElem_cons_succ]
                  refine Till.take' (i := 7) rfl (by kernel_rfl) (by kernel_rfl) (by kernel_rfl) (by kernel_rfl) (fun _ _ _ h => h) (yields_ldY (by rfl) 31 _ (by rfl) _ (by rfl) (.agg #[.int .i64 m, .int .i64 a0, .int .i64 a1, .int .i64 a2, .int .i64 a3, .int .i64 a4, .int .i64 a5, .int .i64 a6, .int .i64 a7]) (fun W hW => hW.2)) hS0 ?_
                  try simp only [Act.put, di_t, di_0, di_s, List.getElem_toArray, List.getElem_cons_zero, List.getElem_cons_succ]
                  refine Till.take' (i := 8) rfl (by kernel_rfl) (by kernel_rfl) (by kernel_rfl) (by kernel_rfl) (fun _ _ _ h => h) (Or.inl ⟨by rfl, fun w hw => by go_simp; (try with_reducible rfl)⟩) hS0 ?_
                  try simp only [Act.put, di_t, di_0, di_s, List.getElem_toArray, List.getElem_cons_zero, List.getElem_cons_succ]
                  refine Till.ready (rs := [9]) (by kernel_rfl) (by simp) (TillAll.cons rfl (fun K hK => ?_) TillAll.nil)
                  refine step_put (by rfl) 28 _ _ (by rfl) q 0 [.int .i64 xs_, .int .i64 xg] (by rfl) (by rfl) (HBD.out.there 0 2 (by decide)) (by kernel_rfl) (one2 _ _) ?_
                  have Ha := Lib.hid (HBD.out.at_ xs_ xg)
                  refine hK.out _ _ (.inr (HSX.out _ Ha.out.below)) ?_
                  clear hK K hS0
                  try simp only [Act.put, di_t, di_0, di_s, List.getElem_toArray, List.getElem_cons_zero, List.getElem_cons_succ]
                  have hS0 := HSX.out _ Ha.out.below
                  refine Till.take' (i := 10) rfl (by kernel_rfl) (by kernel_rfl) (by kernel_rfl) (by kernel_rfl) (fun _ _ _ h => h) (Or.inl ⟨by rfl, fun w hw => by go_simp; (try with_reducible rfl)⟩) hS0 ?_
                  try simp only [Act.put, di_t, di_0, di_s, List.getElem_toArray, List.getElem_cons_zero, List.getElem_cons_succ]
                  refine Till.ready (rs := [11]) (by kernel_rfl) (by simp) (TillAll.cons rfl (fun K hK => ?_) TillAll.nil)
                  refine step_put (by rfl) 31 _ _ (by rfl) q 2 [.int .i64 m, .int .i64 a0, .int .i64 a1, .int .i64 a2, .int .i64 a3, .int .i64 a4, .int .i64 a5, .int .i64 a6, .int .i64 a7] (by rfl) (by rfl) (Ha.out.there 2 9 (by decide)) (by kernel_rfl) (one9 _ _ _ _ _ _ _ _ _) ?_
                  have Hb := Lib.hid (Ha.out.old m a0 a1 a2 a3 a4 a5 a6 a7)
                  refine hK.out _ _ (.inr (HSX.out _ Hb.out.below)) ?_
                  clear hK K Ha HBD hS0
                  try simp only [Act.put, di_t, di_0, di_s, List.getElem_toArray, List.getElem_cons_zero, List.getElem_cons_succ]
                  refine Till.done (by kernel_rfl) (NoPanic.normal ?_) _
                  generalize World.setCells _ _ _ _ = Z2 at *
                  by_cases hcc : xc = 1
                  · have HRR := Lib.hid (HTX'.out hcc)
                    subst hcc
                    go_wp2
                    go_meet
                    exact ⟨Lib.hid (HRR.out _), Hb⟩
                  · have hcc' : ¬ (xc : Int) = 1 := by omega
                    go_wp2
                    go_meet
                    exact ⟨Lib.hid HTX.out, Hb⟩
                case rest =>
                  obtain ⟨HRX, HZ1⟩ := hcut
                  obtain ⟨rX, rkX, heX, -⟩ := HRX.out
                  rw [HNX.out] at heX
                  subst heX

                  clear HZ0 HTX HTX' HSX
                  generalize wc = Z at *

                  go_upto_if 80 with fail
                  go_cut [1] from 18 to 101 (fun c0 wx => Hid (Reads elRo w c0 ys) ∧ Hid (Bx w q (.slice oa no oc) out ((ys_, yg), (m, a0, a1, a2, a3, a4, a5, a6, a7), (n, b0, b1, b2, b3, b4, b5, b6, b7)) wx))
                  case first =>
                    go_upto_region 12 with fail
                    have hS0 := HSY.out _ HZ1.out.drew.below
                    have HBD := Lib.hid HZ1.out.drew
                    refine wp_region_noPanic (wp_region_till (fun W : World => (Instr.loadAt 28 (.pointer (some ⟨by_, oy, none⟩))).run Tryd.prog W = .ok (.agg #[.int .i64 ys_, .int .i64 yg]) W ∧ (Instr.loadAt 31 (.pointer (some ⟨by_, oy + 2, none⟩))).run Tryd.prog W = .ok (.agg #[.int .i64 n, .int .i64 b0, .int .i64 b1, .int .i64 b2, .int .i64 b3, .int .i64 b4, .int .i64 b5, .int .i64 b6, .int .i64 b7]) W) 12 (by kernel_rfl) ?_)
                    refine Till.take' (i := 0) rfl (by kernel_rfl) (by kernel_rfl) (by kernel_rfl) (by kernel_rfl) (fun _ _ _ h => h) (Or.inl ⟨by rfl, fun w hw => by go_simp; (try with_reducible rfl)⟩) hS0 ?_
                    try simp only [Act.put, di_t, di_0, di_s, List.getElem_toArray, List.getElem_cons_zero, List.getElem_cons_succ]
                    refine Till.take' (i := 1) rfl (by kernel_rfl) (by kernel_rfl) (by kernel_rfl) (by kernel_rfl) (fun _ _ _ h => h) (Or.inl ⟨by rfl, fun w hw => by go_simp; (try with_reducible rfl)⟩) hS0 ?_
                    try simp only [Act.put, di_t, di_0, di_s, List.getElem_toArray, List.getElem_cons_zero, List.getElem_cons_succ]
                    refine Till.take' (i := 2) rfl (by kernel_rfl) (by kernel_rfl) (by kernel_rfl) (by kernel_rfl) (fun _ _ _ h => h) (Or.inl ⟨by rfl, fun w hw => by go_simp; (try with_reducible rfl)⟩) hS0 ?_
                    try simp only [Act.put, di_t, di_0, di_s, List.getElem_toArray, List.getElem_cons_zero, List.getElem_cons_succ]
                    refine Till.take' (i := 3) rfl (by kernel_rfl) (by kernel_rfl) (by kernel_rfl) (by kernel_rfl) (fun _ _ _ h => h) (yields_ldY (by rfl) 28 _ (by rfl) _ (by rfl) (.agg #[.int .i64 ys_, .int .i64 yg]) (fun W hW => hW.1)) hS0 ?_
                    try simp only [Act.put, di_t, di_0, di_s, List.getElem_toArray, List.getElem_cons_zero, List.getElem_cons_succ]
                    refine Till.take' (i := 4) rfl (by kernel_rfl) (by kernel_rfl) (by kernel_rfl) (by kernel_rfl) (fun _ _ _ h => h) (Or.inl ⟨by rfl, fun w hw => by go_simp; (try with_reducible rfl)⟩) hS0 ?_
                    try simp only [Act.put, di_t, di_0, di_s, List.getElem_toArray, List.getElem_cons_zero, List.getElem_cons_succ]
                    refine Till.take' (i := 5) rfl (by kernel_rfl) (by kernel_rfl) (by kernel_rfl) (by kernel_rfl) (fun _ _ _ h => h) (Or.inl ⟨by rfl, fun w hw => by go_simp; (try with_reducible rfl)⟩) hS0 ?_
                    try simp only [Act.put, di_t, di_0, di_s, List.getElem_toArray, List.getElem_cons_zero, List.getElem_cons_succ]
                    refine Till.take' (i := 6) rfl (by kernel_rfl) (by kernel_rfl) (by kernel_rfl) (by kernel_rfl) (fun _ _ _ h => h) (Or.inl ⟨by rfl, fun w hw => by go_simp; (try with_reducible rfl)⟩) hS0 ?_
                    try simp only [Act.put, di_t, di_0, di_s, List.getElem_toArray, List.getElem_cons_zero, List.getElem_cons_succ]
                    refine Till.take' (i := 7) rfl (by kernel_rfl) (by kernel_rfl) (by kernel_rfl) (by kernel_rfl) (fun _ _ _ h => h) (yields_ldY (by rfl) 31 _ (by rfl) _ (by rfl) (.agg #[.int .i64 n, .int .i64 b0, .int .i64 b1, .int .i64 b2, .int .i64 b3, .int .i64 b4, .int .i64 b5, .int .i64 b6, .int .i64 b7]) (fun W hW => hW.2)) hS0 ?_
                    try simp only [Act.put, di_t, di_0, di_s, List.getElem_toArray, List.getElem_cons_zero, List.getElem_cons_succ]
                    refine Till.take' (i := 8) rfl (by kernel_rfl) (by kernel_rfl) (by kernel_rfl) (by kernel_rfl) (fun _ _ _ h => h) (Or.inl ⟨by rfl, fun w hw => by go_simp; (try with_reducible rfl)⟩) hS0 ?_
                    try simp only [Act.put, di_t, di_0, di_s, List.getElem_toArray, List.getElem_cons_zero, List.getElem_cons_succ]
                    refine Till.ready (rs := [9]) (by kernel_rfl) (by simp) (TillAll.cons rfl (fun K hK => ?_) TillAll.nil)
                    refine step_put (by rfl) 28 _ _ (by rfl) q 0 [.int .i64 ys_, .int .i64 yg] (by rfl) (by rfl) (HBD.out.there 0 2 (by decide)) (by kernel_rfl) (one2 _ _) ?_
                    have Ha := Lib.hid (HBD.out.at_ ys_ yg)
                    refine hK.out _ _ (.inr (HSY.out _ Ha.out.below)) ?_
                    clear hK K hS0
                    try simp only [Act.put, di_t, di_0, di_s, List.getElem_toArray, List.getElem_cons_zero, List.getElem_cons_succ]
                    have hS0 := HSY.out _ Ha.out.below
                    refine Till.take' (i := 10) rfl (by kernel_rfl) (by kernel_rfl) (by kernel_rfl) (by kernel_rfl) (fun _ _ _ h => h) (Or.inl ⟨by rfl, fun w hw => by go_simp; (try with_reducible rfl)⟩) hS0 ?_
                    try simp only [Act.put, di_t, di_0, di_s, List.getElem_toArray, List.getElem_cons_zero, List.getElem_cons_succ]
                    refine Till.ready (rs := [11]) (by kernel_rfl) (by simp) (TillAll.cons rfl (fun K hK => ?_) TillAll.nil)
                    refine step_put (by rfl) 31 _ _ (by rfl) q 11 [.int .i64 n, .int .i64 b0, .int .i64 b1, .int .i64 b2, .int .i64 b3, .int .i64 b4, .int .i64 b5, .int .i64 b6, .int .i64 b7] (by rfl) (by rfl) (Ha.out.there 11 9 (by decide)) (by kernel_rfl) (one9 _ _ _ _ _ _ _ _ _) ?_
                    have Hb := Lib.hid (Ha.out.now n b0 b1 b2 b3 b4 b5 b6 b7)
                    refine hK.out _ _ (.inr (HSY.out _ Hb.out.below)) ?_
                    clear hK K Ha HBD hS0
                    try simp only [Act.put, di_t, di_0, di_s, List.getElem_toArray, List.getElem_cons_zero, List.getElem_cons_succ]
                    refine Till.done (by kernel_rfl) (NoPanic.normal ?_) _
                    generalize World.setCells _ _ _ _ = Z2 at *
                    by_cases hcc : yc = 1
                    · have HRR := Lib.hid (HTY'.out hcc)
                      subst hcc
                      go_wp2
                      go_meet
                      exact ⟨Lib.hid (HRR.out _), Hb⟩
                    · have hcc' : ¬ (yc : Int) = 1 := by omega
                      go_wp2
                      go_meet
                      exact ⟨Lib.hid HTY.out, Hb⟩
                  case rest =>
                    obtain ⟨HRY, HZ2⟩ := hcut
                    obtain ⟨rY, rkY, heY, -⟩ := HRY.out
                    rw [HNY.out] at heY
                    subst heY

                    clear HZ1 HTY HTY' HSY
                    generalize wc = Z at *

                    have hcl := HZ2.out.cell
                    have hldC := ld_ch (b := q) (o := 0) (c := ((ys_, yg), (m, a0, a1, a2, a3, a4, a5, a6, a7), (n, b0, b1, b2, b3, b4, b5, b6, b7))) (fun j hj => by rw [Nat.zero_add]; exact hcl j hj)
                    have hldO := ld_old (c := ((ys_, yg), (m, a0, a1, a2, a3, a4, a5, a6, a7), (n, b0, b1, b2, b3, b4, b5, b6, b7))) hcl
                    have hldN := ld_now (c := ((ys_, yg), (m, a0, a1, a2, a3, a4, a5, a6, a7), (n, b0, b1, b2, b3, b4, b5, b6, b7))) hcl
                    have hbs := fun W => run_bsY ((ys_, yg), (m, a0, a1, a2, a3, a4, a5, a6, a7), (n, b0, b1, b2, b3, b4, b5, b6, b7)) W
                    have hone := elCh.one ((ys_, yg), (m, a0, a1, a2, a3, a4, a5, a6, a7), (n, b0, b1, b2, b3, b4, b5, b6, b7))
                    obtain ⟨Y, hY⟩ : ∃ Y, chV ((ys_, yg), (m, a0, a1, a2, a3, a4, a5, a6, a7), (n, b0, b1, b2, b3, b4, b5, b6, b7)) = Y := ⟨_, rfl⟩
                    have hqt := fun e => neBe (m, a0, a1, a2, a3, a4, a5, a6, a7) (n, b0, b1, b2, b3, b4, b5, b6, b7) true (decide_eq_true e)
                    have hqf := fun e => neBe (m, a0, a1, a2, a3, a4, a5, a6, a7) (n, b0, b1, b2, b3, b4, b5, b6, b7) false (decide_eq_false e)
                    dsimp only [beV] at hldO hldN hqt hqf
                    rw [hY] at hldC hbs
                    have HQT := Lib.hid hqt
                    have HQF := Lib.hid hqf
                    clear hY hqt hqf hcl
                    by_cases e : ((m, a0, a1, a2, a3, a4, a5, a6, a7) : Be) = (n, b0, b1, b2, b3, b4, b5, b6, b7)
                    · as_aux_lemma =>
                        have hq := HQT.out e
                        have HGE : Hid (mrg a b = out ++ mrg xs ys) := Lib.hid (by rw [HM.out, consC, if_pos e])
                        clear e hbs hone HQT HQF
                        go_wp2_with (first | refine wpList_ldY rfl 31 _ rfl _ rfl _ hldO ?_ | refine wpList_ldY rfl 31 _ rfl _ rfl _ hldN ?_)
                        go_roundw
                        case rel => exact ⟨_, _, _, HRX, HRY, HGE, by have := hl.out; refine Lib.hid ?_; simp only [List.length_cons] at this; (try simp only [List.length_cons]); omega, Lib.hid HZ2.out.own, Lib.hid HZ2.out.below⟩
                        case measure => simp [lenV]; try omega
                    · have hq := HQF.out e
                      have HGE : Hid (mrg a b = (out ++ [((ys_, yg), (m, a0, a1, a2, a3, a4, a5, a6, a7), (n, b0, b1, b2, b3, b4, b5, b6, b7))]) ++ mrg xs ys) := Lib.hid (by rw [HM.out, consC, if_neg e, List.append_assoc]; rfl)
                      have HLC : Hid ((elCh.enc ((ys_, yg), (m, a0, a1, a2, a3, a4, a5, a6, a7), (n, b0, b1, b2, b3, b4, b5, b6, b7))).length = 20) := Lib.hid (elCh.len _)
                      obtain ⟨CC, hCC⟩ : ∃ CC : Ch, (((ys_, yg), (m, a0, a1, a2, a3, a4, a5, a6, a7), (n, b0, b1, b2, b3, b4, b5, b6, b7)) : Ch) = CC := ⟨_, rfl⟩
                      rw [hCC] at HGE hbs hone HLC
                      clear e HQT HQF hCC
                      have hl9 := hl.out
                      simp only [List.length_cons] at hl9
                      have hno9 := HNO.out
                      go_wp2_with (first | refine wpList_ldY rfl 31 _ rfl _ rfl _ hldO ?_ | refine wpList_ldY rfl 31 _ rfl _ rfl _ hldN ?_ | refine wpList_ldY rfl 36 _ rfl _ rfl Y hldC ?_ | refine wpList_bsY rfl 23 _ rfl Y rfl (hbs _) ?_ | (at_builtin; refine wpList_append_own _ rfl _ _ 23 rfl w.heap.size 36 i0 (chV chZ) 20 160 Tryd.underlying23 hi hz0 hz1 hz2 rfl (by decide) _ _ _ rfl (World.ownsRow.alloc HZ2.out.own _) ⟨Z.heap.size, 0, none⟩ 1 1 (elCh.enc CC) rfl HLC.out ?d1 ?d2 ?d3 ?d4 ?d5 ?_))
                      case d1 => exact World.news_of_block (heap_alloc_new _ _)
                      case d2 => exact hone
                      case d3 => unfold maxLen; omega
                      case d4 => omega
                      case d5 => have := HZ2.out.below.size; simp; omega
                      intro v' w9 hown hgr _
                      have HBN : Hid (Below w.heap.size w w9) := Lib.hid ((nb_alloc HZ2.out.below _).grown hgr (nb_alloc HZ2.out.below _).size (fun k e => HZ2.out.own.ge e))
                      have HON : Hid (OwnsF elCh w9 w.heap.size 36 v' (out ++ [CC])) := Lib.hid (OwnsF.snoc (by rw [HNO.out]; exact hown))
                      clear hown hgr
                      go_wp2
                      go_roundw
                      case rel => exact ⟨_, _, out ++ [CC], HRX, HRY, HGE, by have := hl.out; refine Lib.hid ?_; simp only [List.length_cons] at this; simp only [List.length_append, List.length_cons, List.length_nil]; omega, HON, HBN⟩
                      case measure => simp [lenV]; try omega
end Go.Proofs.YtnmlapoiilckhaaDoor

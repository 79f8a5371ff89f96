/- Slots that are loaded are as they were: the statement SlotsBack. No condition. -/
import Derived.Test.YtdaefadapkkgjaaOpen
import Derived.Test.YtdaefadapkkgjaaSlotLoad
import Derived.Test.YtdaefadapkkgjaaBackModel
import Derived.Test.YtdaefadapkkgjaaKeepSlotted
import Derived.Test.YtdaefadapkkgjaaOwn1
namespace Go.Proofs.Ytdaefadapkkgjaa
open Go.ChangeShapes Go.WideShapes Go.ChangeAt Go.RowKit
set_option linter.unusedVariables false

set_option maxRecDepth 100000 in
set_option maxHeartbeats 8000000 in
theorem slotsBack_walk (u0 : Value) (z0 : List Int)  (w : World) (i0 : Ints w u0 z0) :
    Calls Try.prog 7 #[u0] w fun e w' => e = .returned (.bool true) ∧ Below w.heap.size w w' := by
  obtain ⟨hm0, hop0⟩ := i0.open
  unfold maxLen at hm0
  generalize hn0 : z0.length = n0 at *
  clear hn0 i0
  rcases hop0 with ⟨a0, cap0, rfl, hz0⟩ | ⟨b0, off0, cap0, rfl, hb0, hlc0, hcm0, hc0⟩
  all_goals
    go_enter Try.func7, Try.ntmps7
    go_wp2_with fail
    refine (slotted_any _).mono ?_
    rintro e w0 ⟨rfl, hb0'⟩
    have HB0 := Lib.hid hb0'
    clear hb0'
    go_wp2_with (first | (go_at_call 8; refine (slotsNew_any _).mono ?_; rintro e w' ⟨rfl, rfl⟩))
    have HST : Hid (Own1 w (w0.alloc (.cells #[.slice none 0 0] 53)) w0.heap.size (fun k => k = w0.heap.size) []) := Lib.hid ⟨SlotsAt.new w0, (fun k hk => by have := HB0.out.size; omega), SlotOk.nil, nb_alloc HB0.out _⟩
    go_loopw [23] (fun i wr => ∃ k : Nat, k ≤ n0 ∧ i = .int .i64 k ∧ ∃ F l, Hid (Own1 w wr w0.heap.size F l)) (fun i _ => n0 - (intOf i).toNat)
    case atStart => exact ⟨0, by omega, rfl, _, [], HST⟩
    case round =>
      obtain ⟨k, hk, rfl, F, l, hT⟩ := hrel
      clear HST
      generalize w0.heap.size = p at *
      by_cases hlt : k < n0
      · first
          | omega
          | (have c0 : wr.cell? ⟨b0, off0 + k, none⟩ = some (.int .i64 (z0.getD k 0)) := by rw [hT.out.below.cell (p := ⟨b0, _, none⟩) hb0]; exact hc0 k hlt
             clear hc0
             generalize z0.getD k 0 = y at *
             go_wp2_with fail
             refine (all_any p F l _ hT.out.s hT.out.ok).mono ?_
             rintro e w1 ⟨v1, rfl, ho1, hb1⟩
             have HT1 := Lib.hid (hT.out.later hb1)
             have HO1 := Lib.hid ho1.reads
             clear ho1 hb1 hT
             have hlen : (allL l).length ≤ 60 := Nat.le_trans (allL_len l) HT1.out.ok.len
             obtain ⟨hm1, hop1⟩ := HO1.out.open
             have HAL := Lib.hid (fun (r : Nat) (hr : r < (allL l).length) => memD (d := ((0 : Int), (0 : Int))) hr)
             generalize hnl : (allL l).length = c at *
             clear hnl
             cases hev : (y.tmod 2 == 0)
             · rcases hop1 with ⟨a1, cap1, rfl, hz1⟩ | ⟨b1, off1, cap1, rfl, hb1, hlc1, hcm1, hc1⟩
               · obtain rfl : c = 0 := by omega
                 go_wp2_with fail
                 refine (take_any p F l _ HT1.out.s HT1.out.ok).mono ?_
                 rintro e w2 ⟨rfl, F2, hs2, hk2, hm2⟩
                 have HT2 := Lib.hid (HT1.out.moved hs2 hk2 hm2 HT1.out.ok.take)
                 clear hs2 hk2 hm2
                 go_wp2
                 go_roundw
                 case rel => exact ⟨k + 1, by omega, by go_num, F2, _, HT2⟩
                 case measure => simp [intOf]; omega
               · by_cases hc0 : c = 0
                 · subst hc0
                   go_wp2_with fail
                   refine (take_any p F l _ HT1.out.s HT1.out.ok).mono ?_
                   rintro e w2 ⟨rfl, F2, hs2, hk2, hm2⟩
                   have HT2 := Lib.hid (HT1.out.moved hs2 hk2 hm2 HT1.out.ok.take)
                   clear hs2 hk2 hm2
                   go_wp2
                   go_roundw
                   case rel => exact ⟨k + 1, by omega, by go_num, F2, _, HT2⟩
                   case measure => simp [intOf]; omega
                 · have hcz : ((c : Int) == 0) = false := by rw [beq_eq_false_iff_ne]; omega
                   have hr0 := Int.emod_nonneg y (show (c : Int) ≠ 0 by omega)
                   have hr1 := Int.emod_lt_of_pos y (show 0 < (c : Int) by omega)
                   obtain ⟨r, hr⟩ := Int.eq_ofNat_of_zero_le hr0
                   rw [hr] at hr1
                   have hrc : r < c := by omega
                   obtain ⟨d0, d1⟩ := cells2 rfl hc1 hrc
                   have d0' : w1.cell? ⟨b1, off1 + r * 2, none⟩ = some (.int .i64 ((allL l).getD r (0, 0)).1) := d0
                   have d1' : w1.cell? ⟨b1, off1 + r * 2 + 1, none⟩ = some (.int .i64 ((allL l).getD r (0, 0)).2) := d1
                   have HR := Lib.hid hr
                   clear d0 d1 hc1 hr hr0 hr1
                   unfold maxLen at hm1
                   generalize (allL l).getD r (0, 0) = h at *
                   obtain ⟨ha, hb⟩ := h
                   go_wp2_with fail
                   refine (rest_any y c _ (by omega) (by omega)).mono ?_
                   rintro e w2 ⟨rfl, rfl⟩
                   rw [HR.out]
                   go_wp2_with fail
                   refine (free_any p F l ha hb _ HT1.out.s HT1.out.ok).mono ?_
                   rintro e w2 ⟨rfl, hs2, hk2⟩
                   have HT2 := Lib.hid (HT1.out.moved hs2 hk2 (Moves.refl _ _) (HT1.out.ok.free ha hb))
                   clear hs2 hk2
                   go_wp2
                   go_roundw
                   case rel => exact ⟨k + 1, by omega, by go_num, F, _, HT2⟩
                   case measure => simp [intOf]; omega
             · obtain ⟨a1, cap1, rfl, -⟩ : ∃ a1 cap1, v1 = .slice a1 c cap1 ∧ True := by
                 rcases hop1 with ⟨a1, cap1, rfl, -⟩ | ⟨b1, off1, cap1, rfl, -⟩
                 · exact ⟨_, _, rfl, trivial⟩
                 · exact ⟨_, _, rfl, trivial⟩
               clear hop1
               go_wp2_with fail
               refine (take_any p F l _ HT1.out.s HT1.out.ok).mono ?_
               rintro e w2 ⟨rfl, F2, hs2, hk2, hm2⟩
               have HT2 := Lib.hid (HT1.out.moved hs2 hk2 hm2 HT1.out.ok.take)
               clear hs2 hk2 hm2
               go_wp2
               go_roundw
               case rel => exact ⟨k + 1, by omega, by go_num, F2, _, HT2⟩
               case measure => simp [intOf]; omega)
      · obtain rfl : k = n0 := by omega
        obtain ⟨i0, hi, hz0', hz1, hz2⟩ := info_parts infoInt
        go_wp2_with fail
        refine (all_any p F l _ hT.out.s hT.out.ok).mono ?_
        rintro e w1 ⟨v1, rfl, ho1, hb1⟩
        have HT1 := Lib.hid (hT.out.later hb1)
        have HO1 := Lib.hid ho1.reads
        clear ho1 hb1 hT
        have hlen : (allL l).length ≤ 60 := Nat.le_trans (allL_len l) HT1.out.ok.len
        obtain ⟨hm1, hop1⟩ := HO1.out.open
        have HNUM : Hid (liveNums l = ((allL l).take (allL l).length).map (·.1)) := Lib.hid (by rw [List.take_length]; rfl)
        have HTK : Hid (∀ j, j < (allL l).length → ((allL l).take (j + 1)).map (·.1) = ((allL l).take j).map (·.1) ++ [((allL l).getD j (0, 0)).1]) := Lib.hid (fun j hj => by
          rw [List.take_succ_eq_append_getElem hj, List.map_append, List.getD_eq_getElem?_getD, List.getElem?_eq_getElem hj]; rfl)
        have HTL : Hid (∀ j, (((allL l).take j).map (·.1)).length ≤ j) := Lib.hid (fun j => by simp; omega)
        generalize hnl : (allL l).length = c at *
        clear hnl
        obtain ⟨a1, cap1, rfl, hadr⟩ : ∃ a1 cap1, v1 = .slice a1 c cap1 ∧ ∀ j, j < c → ∃ b off, a1 = some ⟨b, off, none⟩ ∧ b < w1.heap.size ∧ w1.cell? ⟨b, off + j * 2, none⟩ = some (.int .i64 ((allL l).getD j (0, 0)).1) ∧ w1.cell? ⟨b, off + j * 2 + 1, none⟩ = some (.int .i64 ((allL l).getD j (0, 0)).2) := by
          rcases hop1 with ⟨a1, cap1, rfl, hz1'⟩ | ⟨b1, off1, cap1, rfl, hb1, hlc1, hcm1, hc1⟩
          · exact ⟨_, _, rfl, fun j hj => by omega⟩
          · exact ⟨_, _, rfl, fun j hj => ⟨b1, off1, rfl, hb1, (cells2 rfl hc1 hj).1, (cells2 rfl hc1 hj).2⟩⟩
        have HADR := Lib.hid hadr
        clear hop1 hadr
        unfold maxLen at hm1
        go_wp2
        go_loopw [7, 52] (fun v i wr' => ∃ j : Nat, j ≤ c ∧ i = .int .i64 j ∧ Hid (OwnsF elInt wr' w1.heap.size 3 v (((allL l).take j).map (·.1))) ∧ Hid (Below w1.heap.size w1 wr')) (fun _ i _ => c - (intOf i).toNat)
        case atStart => exact ⟨0, by omega, rfl, OwnsF.nil _ _ _ _, Below.refl _ _⟩
        case round =>
          obtain ⟨j, hj, rfl, hO, hB⟩ := hrel
          by_cases hjc : j < c
          · obtain ⟨b1, off1, rfl, hb1, d0, d1⟩ := HADR.out j hjc
            have d0' := hB.out.cell (p := ⟨b1, off1 + j * 2, none⟩) hb1
            rw [d0] at d0'
            have d1' := hB.out.cell (p := ⟨b1, off1 + j * 2 + 1, none⟩) hb1
            rw [d1] at d1'
            clear d0 d1
            have hb1w : b1 < wr.heap.size := Nat.lt_of_lt_of_le hb1 hB.out.size
            have HK := Lib.hid (HTK.out j hjc)
            have HL := Lib.hid (HTL.out j)
            generalize ((allL l).take j).map (·.1) = L at *
            generalize (allL l).getD j (0, 0) = h at *
            obtain ⟨ha, hb⟩ := h
            go_wp2_with (first | (at_builtin; refine wpList_append_own _ rfl _ _ 27 rfl w1.heap.size 3 i0 (.int .i64 0) 1 8 Try.underlying27 hi hz0' hz1 hz2 rfl (by decide) _ _ _ rfl (World.ownsRow.alloc (World.ownsRow.alloc hO.out _) _) ⟨wr.heap.size + 1, 0, none⟩ 1 1 [.int .i64 ha] rfl rfl (World.news_of_block (heap_alloc2_new wr _ _)) (by intro u hu; simp at hu; subst hu; rfl) (by have := HL.out; unfold maxLen; omega) (by have := HL.out; omega) (by have := hB.out.size; simp; omega) ?_))
            intro v' w2 hown hgr _
            have HO2 : Hid (OwnsF elInt w2 w1.heap.size 3 v' (L ++ [ha])) := Lib.hid (OwnsF.snoc hown)
            have HB2 : Hid (Below w1.heap.size w1 w2) := Lib.hid ((nb_alloc (nb_alloc hB.out _) _).grown hgr (by have := hB.out.size; simp; omega) (fun j hj => hO.out.ge hj))
            clear hown hgr
            go_wp2
            go_roundw
            case rel => exact ⟨j + 1, by omega, by go_num, by rw [HK.out]; exact HO2, HB2⟩
            case measure => simp [intOf]; omega
          · obtain rfl : j = c := by omega
            rw [← HNUM.out] at hO
            have HT2 := Lib.hid (HT1.out.later hB.out)
            have HLV := Lib.hid (Ints.ofReads hO.out.reads)
            have HZ := Lib.hid (ldE_self HT1.out.ok)
            have HMK := Lib.hid (mkL_self l)
            clear hO hB HADR HTK HTL HNUM HO1 HT1
            go_wp2_with fail
            refine (gens_any p F l _ HT2.out.s HT2.out.ok).mono ?_
            rintro e w2 ⟨v2, rfl, ho2, hb2⟩
            have HT3 := Lib.hid (HT2.out.later hb2)
            have HG3 := Lib.hid (Ints.ofReads ho2.reads)
            have HLV3 := Lib.hid (HLV.out.later hb2)
            clear ho2 hb2
            go_wp2_with fail
            refine (load_any _ _ (gensL l) (liveNums l) _ HG3.out HLV3.out).mono ?_
            rintro e w3 ⟨u3, rfl, hb3, -, h3⟩
            obtain ⟨q, H, rfl, hq3, hH3⟩ := h3 HZ.out
            rw [HZ.out]
            rw [HMK.out] at hq3
            have HT4 := Lib.hid (HT3.out.later hb3)
            have HQ4 := Lib.hid hq3
            have HAP : Hid (∀ k, F k → ¬ H k) := Lib.hid (fun k hf hh => by have := HT3.out.s.lt k hf; have := hH3 k hh; omega)
            have HHB : Hid (∀ k, H k → w.heap.size ≤ k) := Lib.hid (fun k hh => by have := hH3 k hh; have := HT3.out.below.size; omega)
            clear hb3 hq3 hH3 h3
            go_wp2_with fail
            refine (all_any q H l _ HQ4.out HT4.out.ok).mono ?_
            rintro e w4 ⟨v4, rfl, ho4, hb4⟩
            have HT5 := Lib.hid (HT4.out.later hb4)
            have HQ5 := Lib.hid (HQ4.out.later hb4)
            have HO4 := Lib.hid ho4.reads
            clear ho4 hb4
            go_wp2_with fail
            refine (all_any p F l _ HT5.out.s HT4.out.ok).mono ?_
            rintro e w5 ⟨v5, rfl, ho5, hb5⟩
            have HT6 := Lib.hid (HT5.out.later hb5)
            have HQ6 := Lib.hid (HQ5.out.later hb5)
            have HO4' := Lib.hid (HO4.out.later hb5)
            have HO5 := Lib.hid ho5.reads
            clear ho5 hb5
            go_wp2_with fail
            refine (eqHand_any _ _ _ _ _ HO4'.out HO5.out).mono ?_
            rintro e w6 ⟨rfl, hb6⟩
            rw [decide_eq_true rfl]
            have HT7 := Lib.hid (HT6.out.later hb6)
            have HQ7 := Lib.hid (HQ6.out.later hb6)
            clear hb6
            go_wp2_with fail
            refine (gens_any q H l _ HQ7.out HT4.out.ok).mono ?_
            rintro e w7 ⟨v7, rfl, ho7, hb7⟩
            have HT8 := Lib.hid (HT7.out.later hb7)
            have HQ8 := Lib.hid (HQ7.out.later hb7)
            have HO7 := Lib.hid ho7.reads
            clear ho7 hb7
            go_wp2_with fail
            refine (gens_any p F l _ HT8.out.s HT4.out.ok).mono ?_
            rintro e w8 ⟨v8, rfl, ho8, hb8⟩
            have HT9 := Lib.hid (HT8.out.later hb8)
            have HQ9 := Lib.hid (HQ8.out.later hb8)
            have HO7' := Lib.hid (Ints.ofReads (HO7.out.later hb8))
            have HO8 := Lib.hid (Ints.ofReads ho8.reads)
            clear ho8 hb8
            go_wp2_with fail
            refine (eqInt_any _ _ _ _ _ HO7'.out HO8.out).mono ?_
            rintro e w9 ⟨rfl, rfl⟩
            rw [decide_eq_true rfl]
            go_wp2_with fail
            refine (take_any p F l _ HT9.out.s HT4.out.ok).mono ?_
            rintro e wa ⟨rfl, Fa, hsa, hka, hma⟩
            have HQa := Lib.hid ((HQ9.out.kept hka (fun k hh hf => HAP.out k hf hh)).later (nb_alloc (Below.refl _ _) (.cells #[.int .i64 (takeH l).1, .int .i64 (takeH l).2] 31)))
            have HBa : Hid (Below w.heap.size w wa) := Lib.hid (HT9.out.below.trans (hka.below HT9.out.below.size HT9.out.fb))
            have HNH : Hid (¬ H wa.heap.size) := Lib.hid (fun hh => by have := HQ9.out.lt _ hh; have := hka.size; omega)
            clear hsa hka hma
            have ht1 : ((takeH l).1 == (takeH l).1) = true := by simp
            have ht2 : ((takeH l).2 == (takeH l).2) = true := by simp
            have hte : (takeE l == takeE l) = true := by simp
            go_wp2_with fail
            refine (take_any q H l _ HQa.out HT4.out.ok).mono ?_
            rintro e wb ⟨rfl, Fb, hsb, hkb, hmb⟩
            have e0 : wb.cell? ⟨wa.heap.size, 0, none⟩ = some (.int .i64 (takeH l).1) := hkb.cellS (p := ⟨wa.heap.size, 0, none⟩) (by simp) HNH.out
            have e1 : wb.cell? ⟨wa.heap.size, 1, none⟩ = some (.int .i64 (takeH l).2) := hkb.cellS (p := ⟨wa.heap.size, 1, none⟩) (by simp) HNH.out
            have e2 : wa.heap.size < wb.heap.size := by have := hkb.size; simp at this; omega
            have HBb : Hid (Below w.heap.size w wb) := Lib.hid ((nb_alloc HBa.out _).trans (hkb.below (by have := HBa.out.size; simp; omega) HHB.out))
            clear hsb hkb hmb
            go_wp2
            go_ret
            exact ⟨rfl, nb_alloc HBb.out _⟩

namespace slotsBack
theorem own : ownKnob Try.prog.godebug = none := by kernel_rfl
theorem laidOut : laidOutB Try.prog = true := by kernel_rfl

set_option maxRecDepth 100000 in
theorem lifted (os : Os) (started : os.Started) (H : Type) (enc : TypeId × Value → H) :
    ReturnsInHanded {} Try.checked os 7 .any (Rows.slotsBackSpec.pre6 enc Try.prog Try.f7 Rows.slotsBackRow.domain false) (Rows.slotsBackSpec.post enc Try.prog Try.f7 false true false false) := by
  refine returnsInHanded_of_change (C := Try.checked) own started (by kernel_rfl) Try.func7
    (ChangeSpec.witness6 (enc := enc) (C := Try.checked) false ⟨#[], #[.slice none 0 0], []⟩ 8 (by kernel_rfl) (by kernel_rfl) (by kernel_rfl) (by kernel_rfl)) ?_
  intro W base args ds gs before hval0 hW hcnd _
  have hval : ∀ (j : Nat) t v, Try.f7.params[j]? = some t → args[j]? = some v → Value.okWide Try.prog W .any base t v := hval0
  have hW' := hW
  obtain ⟨p, q, hA0, hV, rfl, hfz, hnd⟩ := hW
  have hA : DataW.TrodAll enc Try.prog W 0 (fun _ => true) true Try.f7.params.toList args.toList ds p := hA0
  rw [Try.params7] at hA hval
  obtain ⟨v0, vs0, d0, ds0, p0, q0, hargs, rfl, rfl, h0, r0⟩ := trodAll_cons hA
  obtain ⟨rfl, rfl, rfl⟩ := trodAll_nil r0
  obtain rfl : args = #[v0] := by cases args; simp_all
  obtain ⟨rfl, rfl⟩ := trodVars_none hV
  have k0' := h0
  have lt0 : ∀ x ∈ p0, x.block < W.heap.size := by obtain ⟨m, hm⟩ := h0; exact DataW.trod_lt m _ _ _ hm
  obtain ⟨z0, i0⟩ : ∃ zs, Ints W v0 zs := by
    obtain ⟨a0, len0, cap0, rfl⟩ := okWide_slice Try.underlying27 (hval 0 27 v0 rfl rfl)
    exact Ints_of Try.underlying27 Try.underlying3 (by kernel_rfl) h0
  clear hA0 hval0
  refine (slotsBack_walk v0 z0 W i0).mono fun e W' ⟨he, bel⟩ => ?_
  subst he
  exact ⟨_, rfl, _, _, _, [], _, [], hW', trodAll_mk1 (shut_bool Try.underlying4 _), (trodAll_cons_mk (Below.trod laidOut (by kernel_rfl) (of_decide_eq_true (by kernel_rfl)) k0' bel lt0) trodAll_mk0), rfl, bel.frame _, fun h => by cases h⟩
end slotsBack

theorem slotsBack_proved : Rows.SlotsBackSaid :=
  OpenClaim.holds_of_wide 7 Try.f7 rfl rfl rfl rfl rfl rfl rfl ⟨rfl, rfl, rfl, rfl, rfl⟩ rfl rfl rfl rfl rfl (by kernel_rfl) Try.func7 (by kernel_rfl)
    (of_decide_eq_true (by kernel_rfl)) (by unfold Func.isWrapper; first | (rw [if_pos (by decide +kernel)]; kernel_rfl) | (rw [if_neg (by decide +kernel)]; exact ⟨rfl, rfl⟩))
    (fun os started H enc _ => slotsBack.lifted os started H enc)

end Go.Proofs.Ytdaefadapkkgjaa

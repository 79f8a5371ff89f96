/- The lowest available slots are used, so there are never more slots than were live at the same time: the statement SlotsLeast. No condition. -/
import Derived.Test.YtdaefadapkkgjaaOpen
import Derived.Test.YtdaefadapkkgjaaLeastModel
import Derived.Test.YtdaefadapkkgjaaKeepSlotted
import Derived.Test.YtdaefadapkkgjaaMapsOwn
import Derived.Test.YtdaefadapkkgjaaOwn1
namespace Go.Proofs.Ytdaefadapkkgjaa
open Go.ChangeShapes Go.WideShapes Go.ChangeAt Go.RowKit
set_option linter.unusedVariables false

theorem zeroBool (w : World) : (zeroValue 4).run Try.prog w = .ok (.bool false) w := by kernel_rfl
theorem gensL_len' (l : List (Int × Bool)) : (gensL l).length = l.length := by simp [gensL]

set_option maxRecDepth 100000 in
set_option maxHeartbeats 16000000 in
theorem slotsLeast_walk (u0 : Value) (z0 : List Int)  (w : World) (i0 : Ints w u0 z0) :
    Calls Try.prog 6 #[u0] w fun e w' => e = .returned (.bool true) ∧ Below w.heap.size w w' := by
  obtain ⟨hm0, hop0⟩ := i0.open
  unfold maxLen at hm0
  generalize hn0 : z0.length = n0 at *
  clear hn0 i0
  rcases hop0 with ⟨a0, cap0, rfl, hz0⟩ | ⟨b0, off0, cap0, rfl, hb0, hlc0, hcm0, hc0⟩
  · go_enter Try.func6, Try.ntmps6
    go_wp2_with fail
    refine (slotted_any _).mono ?_
    rintro e w0 ⟨rfl, hb0'⟩
    have HB0 := Lib.hid hb0'
    clear hb0'
    go_wp2_with (first | (go_at_call 8; refine (slotsNew_any _).mono ?_; rintro e w' ⟨rfl, rfl⟩))
    have HST : Hid (Own1 w (w0.alloc (.cells #[.slice none 0 0] 53)) w0.heap.size (fun k => k = w0.heap.size) []) := Lib.hid ⟨SlotsAt.new w0, (fun k hk => by have := HB0.out.size; omega), SlotOk.nil, nb_alloc HB0.out _⟩
    go_loopw [4, 26] (fun mo i wr => mo = .int .i64 0 ∧ i = .int .i64 0 ∧ Hid (Own1 w wr w0.heap.size (fun k => k = w0.heap.size) [])) (fun _ i _ => 0)
    case atStart => exact ⟨rfl, rfl, HST⟩
    case round =>
      obtain ⟨rfl, rfl, hT⟩ := hrel
      go_wp2_with fail
      refine (gens_any _ _ [] _ hT.out.s SlotOk.nil).mono ?_
      rintro e w1 ⟨v1, rfl, ho1, hb1⟩
      obtain ⟨a1, cap1, rfl, -⟩ := ho1.reads
      have HB := Lib.hid (nb_trans hT.out.below hb1)
      clear ho1 hb1
      rw [show (gensL []).length = 0 from rfl]
      go_wp2
      go_ret
      exact ⟨rfl, HB.out⟩
  · go_enter Try.func6, Try.ntmps6
    go_wp2_with fail
    refine (slotted_any _).mono ?_
    rintro e w0 ⟨rfl, hb0'⟩
    have HB0 := Lib.hid hb0'
    clear hb0'
    have HST : Hid (Own1 w (w0.alloc (.cells #[.slice none 0 0] 53)) w0.heap.size (fun k => k = w0.heap.size) []) := Lib.hid ⟨SlotsAt.new w0, (fun k hk => by have := HB0.out.size; omega), SlotOk.nil, nb_alloc HB0.out _⟩
    rcases Nat.lt_or_ge 1000 n0 with h1000 | h1000
    all_goals go_wp2_with (first | (go_at_call 8; refine (slotsNew_any _).mono ?_; rintro e w' ⟨rfl, rfl⟩))
    all_goals first
      | (guard_hyp h1000 : 1000 < n0
         have hmn : (1000 : Nat) ≤ n0 := by omega
         have hm1 : (1000 : Nat) < 1001 := by omega
         have hc : ∀ k, k < (1000 : Nat) → w.cell? ⟨b0, off0 + k, none⟩ = some (.int .i64 (z0.getD k 0)) := fun k hk => hc0 k (by omega)
         rw [show (1000 : Int) = ((1000 : Nat) : Int) from rfl]
         clear hc0 h1000
         generalize (1000 : Nat) = m at *)
      | (have hmn : n0 ≤ n0 := Nat.le_refl _
         have hm1 : n0 < 1001 := by omega
         have hc := hc0
         clear hc0 h1000
         generalize n0 = m at *)
    all_goals
      go_loopw [4, 26] (fun mo i wr => ∃ k : Nat, k ≤ m ∧ i = .int .i64 k ∧ ∃ F l, mo = .int .i64 (List.length l : Int) ∧ Hid (Own1 w wr w0.heap.size F l) ∧ Hid (genLe k l)) (fun _ i _ => m - (intOf i).toNat)
      case atStart => exact ⟨0, by omega, rfl, _, [], rfl, HST, genLe.nil 0⟩
      case round =>
        obtain ⟨k, hk, rfl, F, l, rfl, hT, hG⟩ := hrel
        clear HST
        generalize w0.heap.size = p at *
        by_cases hlt : k < m
        · have c0 : wr.cell? ⟨b0, off0 + k, none⟩ = some (.int .i64 (z0.getD k 0)) := by rw [hT.out.below.cell (p := ⟨b0, _, none⟩) hb0]; exact hc k hlt
          clear hc
          have hl60 := hT.out.ok.len
          generalize z0.getD k 0 = y at *
          go_wp2_with fail
          refine (all_any p F l _ hT.out.s hT.out.ok).mono ?_
          rintro e w1 ⟨v1, rfl, ho1, hb1⟩
          have HT1 := Lib.hid (hT.out.later hb1)
          have HO1 := Lib.hid ho1.reads
          have HOF := Lib.hid ho1
          have HNF : Hid (∀ b, wr.heap.size ≤ b → ¬ F b) := Lib.hid (fun b hb hf => by have := hT.out.s.lt b hf; omega)
          clear ho1 hb1 hT
          have hlen : (allL l).length ≤ 60 := Nat.le_trans (allL_len l) HT1.out.ok.len
          obtain ⟨hml, hop1⟩ := HO1.out.open
          have HMOST : Hid (takeE l = 0 → ((takeL l).length : Int) = max (l.length : Int) (((allL l).length : Int) + 1)) := Lib.hid (fun he => take_most hG.out (by omega) he)
          have HLEAST : Hid (takeE l = 0 → 0 ≤ (takeH l).1 ∧ (takeH l).1 ≤ l.length ∧ ∀ j : Nat, (j : Int) < (takeH l).1 → (j : Int) ∈ liveNums l) := Lib.hid (fun he => take_least hG.out (by omega) he)
          have HNUM : Hid (liveNums l = ((allL l).take (allL l).length).map (·.1)) := Lib.hid (by rw [List.take_length]; rfl)
          have HTK : Hid (∀ j, j < (allL l).length → ((allL l).take (j + 1)).map (·.1) = ((allL l).take j).map (·.1) ++ [((allL l).getD j (0, 0)).1]) := Lib.hid (fun j hj => by
            rw [List.take_succ_eq_append_getElem hj, List.map_append, List.getD_eq_getElem?_getD, List.getElem?_eq_getElem hj]; rfl)
          have HND : Hid ((liveNums l).Nodup) := Lib.hid (allTo_nodup l _)
          have HRNG : Hid (∀ j, j < (allL l).length → 0 ≤ ((allL l).getD j (0, 0)).1 ∧ ((allL l).getD j (0, 0)).1 < 60) := Lib.hid (fun j hj => by
            have : 0 ≤ ((allL l).getD j (0, 0)).1 ∧ ((allL l).getD j (0, 0)).1 < (l.length : Int) := allTo_lt l _ _ (memD (d := ((0 : Int), (0 : Int))) hj)
            omega)
          have HNIN : Hid (∀ j, j < (allL l).length → ¬ ((allL l).getD j (0, 0)).1 ∈ ((allL l).take j).map (·.1)) := Lib.hid (fun j hj hm => by
            have h1 : (((allL l).take (j + 1)).map (·.1)).Nodup := List.Nodup.sublist (List.Sublist.map _ (List.take_sublist _ _)) HND.out
            rw [HTK.out j hj] at h1
            rw [List.nodup_append] at h1
            exact h1.2.2 _ hm _ (by simp) rfl)
          generalize hnl : (allL l).length = c at *
          clear hnl
          obtain ⟨a1, cap1, rfl, hadr⟩ : ∃ a1 cap1, v1 = .slice a1 c cap1 ∧ ∀ j, j < c → ∃ b off, a1 = some ⟨b, off, none⟩ ∧ b < w1.heap.size ∧ wr.heap.size ≤ b ∧ w1.cell? ⟨b, off + j * 2, none⟩ = some (.int .i64 ((allL l).getD j (0, 0)).1) ∧ w1.cell? ⟨b, off + j * 2 + 1, none⟩ = some (.int .i64 ((allL l).getD j (0, 0)).2) := by
            rcases hop1 with ⟨a1, cap1, rfl, hz1'⟩ | ⟨b1, off1, cap1, rfl, hb1, hlc1, hcm1, hc1⟩
            · exact ⟨_, _, rfl, fun j hj => by omega⟩
            · exact ⟨_, _, rfl, fun j hj => ⟨b1, off1, rfl, hb1, HOF.out.ge rfl, (cells2 rfl hc1 hj).1, (cells2 rfl hc1 hj).2⟩⟩
          have HADR := Lib.hid hadr
          clear hop1 hadr HO1 HOF
          unfold maxLen at hml
          have hcase : (y.tmod 2 == 0) = true ∨ ((y.tmod 2 == 0) = false ∧ ((c : Int) == 0) = true) ∨ ((y.tmod 2 == 0) = false ∧ ((c : Int) == 0) = false) := by
            cases (y.tmod 2 == 0) <;> cases ((c : Int) == 0) <;> simp
          rcases hcase with hev | ⟨hev, hcz⟩ | ⟨hev, hcz⟩
          case inr.inr =>
            have hcpos : 0 < c := by
              rcases Nat.eq_zero_or_pos c with e | e
              · subst e; simp at hcz
              · exact e
            have hr0 := Int.emod_nonneg y (show (c : Int) ≠ 0 by omega)
            have hr1 := Int.emod_lt_of_pos y (show 0 < (c : Int) by omega)
            obtain ⟨r, hr⟩ := Int.eq_ofNat_of_zero_le hr0
            rw [hr] at hr1
            have hrc : r < c := by omega
            obtain ⟨b1, off1, rfl, hb1, -, d0, d1⟩ := HADR.out r hrc
            have HR := Lib.hid hr
            clear hr hr0 hr1
            generalize (allL l).getD r (0, 0) = h at *
            obtain ⟨ha, hb⟩ := h
            go_wp2_with fail
            refine (rest_any y c _ (by omega) (by omega)).mono ?_
            rintro e w2 ⟨rfl, rfl⟩
            rw [HR.out]
            go_wp2_with fail
            refine (free_any p F l ha hb _ HT1.out.s HT1.out.ok).mono ?_
            rintro e w2 ⟨rfl, hs2, hk2⟩
            have HT2 := Lib.hid (HT1.out.moved hs2 hk2 (Moves.refl _ _) (HT1.out.ok.free ha hb))
            have HG2 := Lib.hid (hG.out.free ha hb)
            have HLE : Hid ((freeL l ha hb).length = l.length) := Lib.hid (by unfold freeL; split <;> simp)
            clear hs2 hk2
            go_wp2
            go_roundw
            case rel => exact ⟨k + 1, by omega, by go_num, F, _, by rw [HLE.out], HT2, HG2⟩
            case measure => simp [intOf]; omega
          all_goals
            go_wp2_with fail
            refine (take_any p F l _ HT1.out.s HT1.out.ok).mono ?_
            rintro e w2 ⟨rfl, F2, hs2, hk2, hm2⟩
            have HT2 := Lib.hid (HT1.out.moved hs2 hk2 hm2 HT1.out.ok.take)
            have HADR2 : Hid (∀ j, j < c → ∃ b off, a1 = some ⟨b, off, none⟩ ∧ b < w2.heap.size ∧ w2.cell? ⟨b, off + j * 2, none⟩ = some (.int .i64 ((allL l).getD j (0, 0)).1) ∧ w2.cell? ⟨b, off + j * 2 + 1, none⟩ = some (.int .i64 ((allL l).getD j (0, 0)).2)) := Lib.hid (fun j hj => by
              obtain ⟨b, off, e, hb, hge, d0, d1⟩ := HADR.out j hj
              exact ⟨b, off, e, Nat.lt_of_lt_of_le hb hk2.size, hk2.cellS (p := ⟨b, _, none⟩) d0 (HNF.out b hge), hk2.cellS (p := ⟨b, _, none⟩) d1 (HNF.out b hge)⟩)
            have HG2 := Lib.hid (hG.out.take.mono (Nat.le_succ k))
            clear hs2 hk2 hm2
            by_cases he : takeE l = 0
            · obtain ⟨hh0, hh1, hh2⟩ := HLEAST.out he
              have HH2 := Lib.hid hh2
              have HMM := Lib.hid (HMOST.out he)
              rw [he]
              clear he hh2 HLEAST HMOST
              generalize takeH l = h at *
              obtain ⟨ha, hb⟩ := h
              simp only at hh0 hh1
              have hmk : ∀ x : World, (Instr.makeMap 50 none).run Try.prog x = .ok (.map (some x.heap.size)) (x.alloc (.map #[] 0)) := run_makeMap 50
              have HMN : Hid (MapIs kInt ((w2.alloc (.cells #[.int .i64 ha, .int .i64 hb] 31)).alloc (.map #[] 0)) (w2.heap.size + 1) 0 [] (fun _ => .bool true)) := Lib.hid (by
                have := MapIs.new kInt (w2.alloc (.cells #[.int .i64 ha, .int .i64 hb] 31)) (fun _ => .bool true)
                rwa [show (w2.alloc (.cells #[.int .i64 ha, .int .i64 hb] 31)).heap.size = w2.heap.size + 1 by simp] at this)
              go_wp2
              go_loopw [50] (fun i wr => ∃ j : Nat, j ≤ c ∧ i = .int .i64 j ∧ Hid (MapIs kInt wr (w2.heap.size + 1) j (((allL l).take j).map (·.1)) (fun _ => .bool true)) ∧ Hid (Below (w2.heap.size + 1) (w2.alloc (.cells #[.int .i64 ha, .int .i64 hb] 31)) wr)) (fun i _ => c - (intOf i).toNat)
              case atStart => exact ⟨0, by omega, rfl, HMN, (Below.refl _ _).alloc (by simp) _⟩
              case round =>
                obtain ⟨j, hj, rfl, hM, hB⟩ := hrel
                have HBW : Hid (Below w2.heap.size w2 wr) := Lib.hid ((nb_alloc (Below.refl _ _) _).trans (hB.out.mono (by omega)))
                have hszB : w2.heap.size + 1 < wr.heap.size := hM.out.lt
                clear HMN
                by_cases hjc : j < c
                · obtain ⟨b1, off1, rfl, hb1, d0, d1⟩ := HADR2.out j hjc
                  have d0' := HBW.out.cell (p := ⟨b1, off1 + j * 2, none⟩) hb1
                  rw [d0] at d0'
                  have d1' := HBW.out.cell (p := ⟨b1, off1 + j * 2 + 1, none⟩) hb1
                  rw [d1] at d1'
                  have hb1w : b1 < wr.heap.size := by omega
                  clear d0 d1
                  have HK := Lib.hid (HTK.out j hjc)
                  have HNI := Lib.hid (HNIN.out j hjc)
                  have hrg := HRNG.out j hjc
                  generalize ((allL l).take j).map (·.1) = L at *
                  generalize (allL l).getD j (0, 0) = hx at *
                  obtain ⟨sa, sb⟩ := hx
                  simp only at hrg
                  obtain ⟨D, hoD, hnd, hok, hkD, hatD, hsD⟩ := hM.out
                  have HD := Lib.hid hoD
                  have HR1 := Lib.hid hnd
                  have HR2 := Lib.hid hok
                  have HR3 := Lib.hid hkD
                  have HR4 := Lib.hid hatD
                  have HR5 := Lib.hid hsD
                  clear hoD hnd hok hkD hatD hsD hM
                  go_wp2_with (first | (at_mapUpdate; refine wpList_mapUpdate_own _ rfl _ _ _ 50 rfl 3 4 kInt.law Try.underlying50 heldR (w2.heap.size + 1) j D rfl (HD.out.alloc _) (by unfold maxLen; omega) _ _ (kInt.lit sa) rfl rfl (kInt.key sa ⟨by omega, by omega⟩) (.held (.bool true)) [] rfl ?_))
                  intro w3 hown3 hgr3
                  have HM3 : Hid (MapIs kInt w3 (w2.heap.size + 1) (j + 1) (L ++ [sa]) (fun _ => .bool true)) := Lib.hid (by
                    have := MapIs.put (K := kInt) HD.out HR1.out HR2.out HR3.out HR4.out HR5.out sa ⟨by omega, by omega⟩ (.bool true) hown3
                    rw [if_neg HNI.out] at this
                    simpa using this)
                  have HB3 : Hid (Below (w2.heap.size + 1) (w2.alloc (.cells #[.int .i64 ha, .int .i64 hb] 31)) w3) := Lib.hid ((hB.out.alloc (by omega) _).grown hgr3 (by simp; omega) (fun q hq => by cases hq; exact Nat.le_refl _))
                  clear hown3 hgr3
                  go_wp2
                  go_roundw
                  case rel => exact ⟨j + 1, by omega, by go_num, by rw [HK.out]; exact HM3, HB3⟩
                  case measure => simp [intOf]; omega
                · obtain rfl : j = c := by omega
                  rw [← HNUM.out] at hM
                  have k0 : wr.cell? ⟨w2.heap.size, 0, none⟩ = some (.int .i64 ha) := by rw [hB.out.cell (p := ⟨w2.heap.size, 0, none⟩) (by simp)]; simp
                  have k1 : wr.cell? ⟨w2.heap.size, 1, none⟩ = some (.int .i64 hb) := by rw [hB.out.cell (p := ⟨w2.heap.size, 1, none⟩) (by simp)]; simp
                  have HT3 := Lib.hid (HT2.out.later HBW.out)
                  clear HADR2 HADR HTK HNIN HRNG hjc hj
                  obtain ⟨hN, rfl⟩ := Int.eq_ofNat_of_zero_le hh0
                  have HLOOK : Hid (∀ q : Nat, q < hN → (Instr.lookup 50 (.map (some (w2.heap.size + 1))) (.int .i64 (q : Int)) false).run Try.prog wr = .ok (.bool true) wr) := Lib.hid (fun q hq => by
                    have := hM.out.look Try.underlying50 (zeroBool wr) (q : Int) ⟨by omega, by omega⟩
                    rw [if_pos (HH2.out q (by simp; omega))] at this
                    exact this)
                  go_wp2
                  go_loop [60] (fun i => ∃ q : Nat, q ≤ hN ∧ i = .int .i64 q) (fun i => hN - (intOf i).toNat)
                  case atStart => exact ⟨0, by omega, rfl⟩
                  case round =>
                    obtain ⟨q, hq, rfl⟩ := hrel
                    by_cases hqh : q < hN
                    · have hlk := HLOOK.out q hqh
                      go_wp2
                      go_round
                      case rel => exact ⟨q + 1, by omega, by go_num⟩
                      case measure => simp [intOf]; omega
                    · obtain rfl : q = hN := by omega
                      go_wp2
                      all_goals
                        go_roundw
                        case rel => exact ⟨k + 1, by omega, by go_num, F2, _, by (have := HMM.out; congr 1; omega), HT3, HG2⟩
                        case measure => simp [intOf]; omega
            · have hne : (takeE l != 0) = true := by simpa using he
              have HNO := Lib.hid (take_none he)
              generalize takeE l = te at *
              clear he
              go_wp2
              go_roundw
              case rel => exact ⟨k + 1, by omega, by go_num, F2, _, by rw [HNO.out], HT2.out.later (nb_alloc (Below.refl _ _) _), HG2⟩
              case measure => simp [intOf]; omega
        · obtain rfl : k = m := by omega
          have HLE := Lib.hid (gensL_len' l)
          have heq : ((l.length : Int) == (l.length : Int)) = true := by simp
          go_wp2_with fail
          refine (gens_any _ F l _ hT.out.s hT.out.ok).mono ?_
          rintro e w1 ⟨v1, rfl, ho1, hb1⟩
          obtain ⟨a1, cap1, rfl, -⟩ := ho1.reads
          have HB := Lib.hid (nb_trans hT.out.below hb1)
          clear ho1 hb1
          rw [HLE.out]
          go_wp2
          go_ret
          exact ⟨rfl, HB.out⟩
namespace slotsLeast
theorem own : ownKnob Try.prog.godebug = none := by kernel_rfl
theorem laidOut : laidOutB Try.prog = true := by kernel_rfl

set_option maxRecDepth 100000 in
theorem lifted (os : Os) (started : os.Started) (H : Type) (enc : TypeId × Value → H) :
    ReturnsInHanded {} Try.checked os 6 .any (Rows.slotsLeastSpec.pre6 enc Try.prog Try.f6 Rows.slotsLeastRow.domain false) (Rows.slotsLeastSpec.post enc Try.prog Try.f6 false true false false) := by
  refine returnsInHanded_of_change (C := Try.checked) own started (by kernel_rfl) Try.func6
    (ChangeSpec.witness6 (enc := enc) (C := Try.checked) false ⟨#[], #[.slice none 0 0], []⟩ 8 (by kernel_rfl) (by kernel_rfl) (by kernel_rfl) (by kernel_rfl)) ?_
  intro W base args ds gs before hval0 hW hcnd _
  have hval : ∀ (j : Nat) t v, Try.f6.params[j]? = some t → args[j]? = some v → Value.okWide Try.prog W .any base t v := hval0
  have hW' := hW
  obtain ⟨p, q, hA0, hV, rfl, hfz, hnd⟩ := hW
  have hA : DataW.TrodAll enc Try.prog W 0 (fun _ => true) true Try.f6.params.toList args.toList ds p := hA0
  rw [Try.params6] at hA hval
  obtain ⟨v0, vs0, d0, ds0, p0, q0, hargs, rfl, rfl, h0, r0⟩ := trodAll_cons hA
  obtain ⟨rfl, rfl, rfl⟩ := trodAll_nil r0
  obtain rfl : args = #[v0] := by cases args; simp_all
  obtain ⟨rfl, rfl⟩ := trodVars_none hV
  have k0' := h0
  have lt0 : ∀ x ∈ p0, x.block < W.heap.size := by obtain ⟨m, hm⟩ := h0; exact DataW.trod_lt m _ _ _ hm
  obtain ⟨z0, i0⟩ : ∃ zs, Ints W v0 zs := by
    obtain ⟨a0, len0, cap0, rfl⟩ := okWide_slice Try.underlying27 (hval 0 27 v0 rfl rfl)
    exact Ints_of Try.underlying27 Try.underlying3 (by kernel_rfl) h0
  clear hA0 hval0
  refine (slotsLeast_walk v0 z0 W i0).mono fun e W' ⟨he, bel⟩ => ?_
  subst he
  exact ⟨_, rfl, _, _, _, [], _, [], hW', trodAll_mk1 (shut_bool Try.underlying4 _), (trodAll_cons_mk (Below.trod laidOut (by kernel_rfl) (of_decide_eq_true (by kernel_rfl)) k0' bel lt0) trodAll_mk0), rfl, bel.frame _, fun h => by cases h⟩
end slotsLeast

theorem slotsLeast_proved : Rows.SlotsLeastSaid :=
  OpenClaim.holds_of_wide 6 Try.f6 rfl rfl rfl rfl rfl rfl rfl ⟨rfl, rfl, rfl, rfl, rfl⟩ rfl rfl rfl rfl rfl (by kernel_rfl) Try.func6 (by kernel_rfl)
    (of_decide_eq_true (by kernel_rfl)) (by unfold Func.isWrapper; first | (rw [if_pos (by decide +kernel)]; kernel_rfl) | (rw [if_neg (by decide +kernel)]; exact ⟨rfl, rfl⟩))
    (fun os started H enc _ => slotsLeast.lifted os started H enc)

end Go.Proofs.Ytdaefadapkkgjaa

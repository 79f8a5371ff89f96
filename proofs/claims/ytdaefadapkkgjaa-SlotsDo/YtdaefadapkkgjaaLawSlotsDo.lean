/- After any sequence of calls, slots return the results of the reference: the statement SlotsDo. No condition. -/
import Derived.Test.YtdaefadapkkgjaaOpenRows
import Derived.Test.YtdaefadapkkgjaaBoth
import Derived.Deep.RegionHeld3
namespace Go.Proofs.Ytdaefadapkkgjaa
open Go.ChangeShapes Go.WideShapes Go.ChangeAt Go.RowKit
set_option linter.unusedVariables false

theorem freeE_neg (l : List (Int × Bool)) : freeE l (-1) 0 = 7 := by
  rw [freeE, show liveB l (-1) 0 = false from liveB_in (by simp [inB])]; rfl

/-- What is the same on both ways through a round: the last test. -/
def DoPost (w : World) (p q : Nat) (n : Nat) (u : Value) (wr : World) : Prop := ∃ F G l, Both w wr p q F G l

set_option maxRecDepth 100000 in
set_option maxHeartbeats 8000000 in
theorem slotsDo_walk (u0 : Value) (z0 : List (Int × Int))  (u1 : Value) (z1 : List Bool)  (w : World) (i0 : Reads elHand w u0 z0) (i1 : Reads elBool w u1 z1) :
    Calls Try.prog 3 #[u0, u1] w fun e w' => e = .returned (.bool true) ∧ Below w.heap.size w w' := by
  obtain ⟨hm0, hop0⟩ := i0.open
  obtain ⟨hm1, hop1⟩ := i1.open
  unfold maxLen at hm0 hm1
  generalize hn0 : z0.length = n0 at *
  generalize hn1 : z1.length = n1 at *
  clear hn0 hn1 i0 i1
  have HST := Lib.hid (Both.start w)
  rcases hop0 with ⟨a0, cap0, rfl, hz0⟩ | ⟨b0, off0, cap0, rfl, hb0, hlc0, hcm0, hc0⟩ <;> rcases hop1 with ⟨a1, cap1, rfl, hz1⟩ | ⟨b1, off1, cap1, rfl, hb1, hlc1, hcm1, hc1⟩
  all_goals
    go_enter Try.func3, Try.ntmps3
    go_wp2_with (first | (go_at_call 8; refine (slotsNew_any _).mono ?_; rintro e w' ⟨rfl, rfl⟩))
    go_loopw [20] (fun i wr => ∃ k : Nat, k ≤ n0 ∧ i = .int .i64 k ∧ ∃ F G l, Hid (Both w wr w.heap.size (w.heap.size + 1) F G l)) (fun i _ => n0 - (intOf i).toNat)
    case atStart => exact ⟨0, by omega, rfl, _, _, [], HST⟩
    case round =>
      obtain ⟨k, hk, rfl, F, G, l, hT⟩ := hrel
      clear HST
      generalize w.heap.size + 1 = q at *
      generalize hp : w.heap.size = p at *
      by_cases hlt : k < n0
      · first
          | omega
          | (obtain ⟨c0, c1⟩ := cells2 rfl hc0 hlt
             clear hc0
             have c0' : wr.cell? ⟨b0, off0 + k * 2, none⟩ = some (.int .i64 (z0.getD k (0, 0)).1) := by rw [hT.out.below.cell (p := ⟨b0, _, none⟩) (by rw [hp]; exact hb0), c0]; rfl
             have c1' : wr.cell? ⟨b0, off0 + k * 2 + 1, none⟩ = some (.int .i64 (z0.getD k (0, 0)).2) := by rw [hT.out.below.cell (p := ⟨b0, _, none⟩) (by rw [hp]; exact hb0), c1]; rfl
             clear c0 c1
             have hb0w : b0 < wr.heap.size := by have := hT.out.below.size; omega
             generalize z0.getD k (0, 0) = h at *
             obtain ⟨ha, hb⟩ := h
             have HP := Lib.hid hp
             clear hp
             by_cases hk1 : k < n1
             · first
                 | omega
                 | (have d0 := cells1 rfl hc1 hk1
                    clear hc1
                    have d0' : wr.cell? ⟨b1, off1 + k, none⟩ = some (.bool (z1.getD k false)) := by rw [hT.out.below.cell (p := ⟨b1, _, none⟩) (by rw [HP.out]; exact hb1), d0]; rfl
                    clear d0
                    have hb1w : b1 < wr.heap.size := by have := hT.out.below.size; rw [HP.out] at this; omega
                    generalize z1.getD k false = tk at *
                    cases tk
                    · go_wp2_with fail
                      have HTd := Lib.hid (hT.out.later (nb_alloc (Below.refl _ _) (.cells #[.int .i64 ha, .int .i64 hb] 31)).drew)
                      have HNF : Hid (¬ F wr.heap.size ∧ ¬ G wr.heap.size) := Lib.hid ⟨fun h => by have := hT.out.s.lt _ h; omega, fun h => by have := hT.out.r.lt _ h; omega⟩
                      have hne : (freeE l ha hb != freeE l ha hb) = false := by simp
                      go_region_held3 (fun x => (x.cell? ⟨wr.heap.size, 0, none⟩ = some (.int .i64 ha) ∧ x.cell? ⟨wr.heap.size, 1, none⟩ = some (.int .i64 hb))) (first | go_keep | exact HKA.out | exact HKB.out) (first
                        | ((go_at_call 11; refine (free_any p F l ha hb _ HTd.out.s HTd.out.ok).mono ?_; rintro e w1 ⟨rfl, hs1, hkk1⟩; have HS1 := Lib.hid hs1; have HK1 := Lib.hid hkk1; have HKA : Hid (w1.cell? ⟨wr.heap.size, 0, none⟩ = some (.int .i64 ha) ∧ w1.cell? ⟨wr.heap.size, 1, none⟩ = some (.int .i64 hb)) := Lib.hid ⟨hkk1.cellS (p := ⟨wr.heap.size, 0, none⟩) (by simp) HNF.out.1, hkk1.cellS (p := ⟨wr.heap.size, 1, none⟩) (by simp) HNF.out.1⟩; clear hs1 hkk1))
                        | ((go_at_call 12; refine (refFree_any q _ [] G l ha hb _ (HTd.out.r.kept HK1.out (fun k hg hf => HTd.out.apart k hf hg)) HTd.out.ok).mono ?_; rintro e w2 ⟨rfl, hr2, hkk2⟩; have HT2 := Lib.hid (HTd.out.moved HS1.out HK1.out (Moves.refl _ _) hkk2 (Moves.refl _ _) hr2 (HTd.out.ok.free ha hb)); have HKB : Hid (w2.cell? ⟨wr.heap.size, 0, none⟩ = some (.int .i64 ha) ∧ w2.cell? ⟨wr.heap.size, 1, none⟩ = some (.int .i64 hb)) := Lib.hid ⟨hkk2.cellS (p := ⟨wr.heap.size, 0, none⟩) HKA.out.1 HNF.out.2, hkk2.cellS (p := ⟨wr.heap.size, 1, none⟩) HKA.out.2 HNF.out.2⟩; clear hr2 hkk2)))
                      clear hne c0' c1'
                      go_wp2_with fail
                      obtain ⟨vg, cq, hql, hvg⟩ := HT2.out.gens
                      have HKK : Hid (∀ x, Below w2.heap.size w2 x → (x.cell? ⟨wr.heap.size, 0, none⟩ = some (.int .i64 ha) ∧ x.cell? ⟨wr.heap.size, 1, none⟩ = some (.int .i64 hb) ∧ x.cell? ⟨q, 0, none⟩ = some vg)) := Lib.hid (fun x hx => ⟨by rw [hx.cell (p := ⟨wr.heap.size, 0, none⟩) (World.block_lt_of_cell? _ _ HKB.out.1)]; exact HKB.out.1, by rw [hx.cell (p := ⟨wr.heap.size, 1, none⟩) (World.block_lt_of_cell? _ _ HKB.out.2)]; exact HKB.out.2, by rw [hx.cell (p := ⟨q, 0, none⟩) hql]; exact cq⟩)
                      have HVG := Lib.hid hvg
                      clear hvg
                      have hnb : (liveB (freeL l ha hb) ha hb != liveB (freeL l ha hb) ha hb) = false := by simp
                      obtain ⟨ck0, ck1, ck2⟩ := HKK.out w2 (Below.refl _ _)
                      go_region_held3 (fun x => (x.cell? ⟨wr.heap.size, 0, none⟩ = some (.int .i64 ha) ∧ x.cell? ⟨wr.heap.size, 1, none⟩ = some (.int .i64 hb) ∧ x.cell? ⟨q, 0, none⟩ = some vg)) (first | go_keep | exact HKK.out _ HX1.out | exact HKK.out _ HX2.out | exact HKK.out _ HX3.out | exact HKK.out _ HX4.out | exact HKK.out _ HX5.out | exact HKK.out _ HX6.out | exact HKK.out _ HX7.out) (first
                        | ((go_at_call 14; refine (all_any p F _ _ (HT2.out.later (Below.refl _ _).drew).s HT2.out.ok).mono ?_; rintro e x1 ⟨v1, rfl, ho1, hb1'⟩; have HX1 : Hid (Below w2.heap.size w2 x1) := Lib.hid (nb_trans (Below.refl _ _).drew hb1'); have HO1 := Lib.hid ho1.reads; clear ho1 hb1'))
                        | ((go_at_call 15; refine (refAll_any q _ [] G _ _ (HT2.out.later HX1.out).r HT2.out.ok).mono ?_; rintro e x2 ⟨v2, rfl, ho2, hb2'⟩; have HX2 : Hid (Below w2.heap.size w2 x2) := Lib.hid (nb_trans HX1.out hb2'); have HO2 := Lib.hid ho2.reads; have HO1' := Lib.hid (HO1.out.later hb2'); clear ho2 hb2'))
                        | ((go_at_call 13; refine (eqHand_any _ _ _ _ _ HO1'.out HO2.out).mono ?_; rintro e x3 ⟨rfl, hb3'⟩; rw [decide_eq_true rfl]; have HX3 : Hid (Below w2.heap.size w2 x3) := Lib.hid (nb_trans HX2.out hb3'); clear hb3'))
                        | ((go_at_call 17; refine (gens_any p F _ _ (HT2.out.later HX3.out).s HT2.out.ok).mono ?_; rintro e x4 ⟨v4, rfl, ho4, hb4'⟩; have HX4 : Hid (Below w2.heap.size w2 x4) := Lib.hid (nb_trans HX3.out hb4'); have HO4 := Lib.hid (Ints.ofReads ho4.reads); clear ho4 hb4'))
                        | ((go_at_call 16; refine (eqInt_any _ _ _ _ _ HO4.out (HVG.out _ HX4.out)).mono ?_; rintro e x5 ⟨rfl, hx5⟩; rw [decide_eq_true rfl]; have HX5 : Hid (Below w2.heap.size w2 x5) := Lib.hid (by rw [← hx5]; exact HX4.out); clear hx5))
                        | ((go_at_call 18; refine (live_any p F _ _ _ _ (HT2.out.later HX5.out).s).mono ?_; rintro e x6 ⟨rfl, hb6'⟩; have HX6 : Hid (Below w2.heap.size w2 x6) := Lib.hid (nb_trans HX5.out hb6'); clear hb6'))
                        | ((go_at_call 19; refine (refIs_any q _ [] G _ _ _ _ (HT2.out.later HX6.out).r HT2.out.ok).mono ?_; rintro e x7 ⟨rfl, hb7'⟩; have HX7 : Hid (Below w2.heap.size w2 x7) := Lib.hid (nb_trans HX6.out hb7'); clear hb7')))
                      go_wp2
                      go_roundw
                      case rel => exact ⟨k + 1, by omega, by go_num, _, _, _, HT2.out.later HX7.out⟩
                      case measure => simp [intOf]; omega
                    · go_wp2_with fail
                      have HTa := Lib.hid (hT.out.later (nb_alloc (Below.refl _ _) (.cells #[.int .i64 ha, .int .i64 hb] 31)))
                      have HNF : Hid (¬ F wr.heap.size ∧ ¬ G wr.heap.size) := Lib.hid ⟨fun h => by have := hT.out.s.lt _ h; omega, fun h => by have := hT.out.r.lt _ h; omega⟩
                      refine (take_any p F l _ HTa.out.s HTa.out.ok).mono ?_
                      rintro e w1 ⟨rfl, F', hs1, hkk1, hmv1⟩
                      have HSZ1 : Hid (wr.heap.size < w1.heap.size) := Lib.hid (by have := hkk1.size; simp at this; omega)
                      have HKA : Hid (w1.cell? ⟨wr.heap.size, 0, none⟩ = some (.int .i64 ha) ∧ w1.cell? ⟨wr.heap.size, 1, none⟩ = some (.int .i64 hb)) := Lib.hid ⟨hkk1.cellS (p := ⟨wr.heap.size, 0, none⟩) (by simp) HNF.out.1, hkk1.cellS (p := ⟨wr.heap.size, 1, none⟩) (by simp) HNF.out.1⟩
                      have HS1 := Lib.hid hs1
                      have HK1 := Lib.hid hkk1
                      have HM1 := Lib.hid hmv1
                      clear hs1 hkk1 hmv1
                      have ht1 : ((takeH l).1 == (takeH l).1) = true := by simp
                      have ht2 : ((takeH l).2 == (takeH l).2) = true := by simp
                      have hte : (takeE l != takeE l) = false := by simp
                      go_wp2_with fail
                      have HNG1 : Hid (¬ G w1.heap.size) := Lib.hid (fun h => by have := hT.out.r.lt _ h; have := HSZ1.out; omega)
                      refine (refTake_any q _ [] G l _ ((HTa.out.r.kept HK1.out (fun k hg hf => HTa.out.apart k hf hg)).later (nb_alloc (Below.refl _ _) _)) HTa.out.ok).mono ?_
                      rintro e w2 ⟨rfl, G', hr2, hkk2, hmv2⟩
                      have HKB : Hid (w2.cell? ⟨wr.heap.size, 0, none⟩ = some (.int .i64 ha) ∧ w2.cell? ⟨wr.heap.size, 1, none⟩ = some (.int .i64 hb)) := Lib.hid ⟨(((Kept.alloc G w1 _).trans hkk2 (fun _ h => .inl h))).cellS (p := ⟨wr.heap.size, 0, none⟩) HKA.out.1 HNF.out.2, (((Kept.alloc G w1 _).trans hkk2 (fun _ h => .inl h))).cellS (p := ⟨wr.heap.size, 1, none⟩) HKA.out.2 HNF.out.2⟩
                      have e0 : w2.cell? ⟨w1.heap.size, 0, none⟩ = some (.int .i64 (takeH l).1) := hkk2.cellS (p := ⟨w1.heap.size, 0, none⟩) (by simp) HNG1.out
                      have e1 : w2.cell? ⟨w1.heap.size, 1, none⟩ = some (.int .i64 (takeH l).2) := hkk2.cellS (p := ⟨w1.heap.size, 1, none⟩) (by simp) HNG1.out
                      have e2 : w1.heap.size < w2.heap.size := by have := hkk2.size; simp at this; omega
                      have HT2 : Hid (Both w w2 p q F' G' (takeL l)) := Lib.hid (HTa.out.moved HS1.out HK1.out HM1.out ((Kept.alloc G w1 _).trans hkk2 (fun _ h => .inl h)) (fun k hk => (hmv2 k hk).imp id (fun h => by simp at h; omega)) hr2 HTa.out.ok.take)
                      have HT3 := Lib.hid (HT2.out.later (nb_alloc (Below.refl _ _) (.cells #[.int .i64 (takeH l).1, .int .i64 (takeH l).2] 31)))
                      have HKC : Hid ((w2.alloc (.cells #[.int .i64 (takeH l).1, .int .i64 (takeH l).2] 31)).cell? ⟨wr.heap.size, 0, none⟩ = some (.int .i64 ha) ∧ (w2.alloc (.cells #[.int .i64 (takeH l).1, .int .i64 (takeH l).2] 31)).cell? ⟨wr.heap.size, 1, none⟩ = some (.int .i64 hb)) := Lib.hid ⟨(Kept.alloc (fun _ => False) w2 _).cellS (p := ⟨wr.heap.size, 0, none⟩) HKB.out.1 id, (Kept.alloc (fun _ => False) w2 _).cellS (p := ⟨wr.heap.size, 1, none⟩) HKB.out.2 id⟩
                      clear hr2 hkk2 hmv2 c0' c1' d0'
                      go_wp2_with fail
                      clear e0 e1
                      generalize w2.alloc (.cells #[.int .i64 (takeH l).1, .int .i64 (takeH l).2] 31) = w3 at *
                      obtain ⟨vg, cq, hql, hvg⟩ := HT3.out.gens
                      have HKK : Hid (∀ x, Below w3.heap.size w3 x → (x.cell? ⟨wr.heap.size, 0, none⟩ = some (.int .i64 ha) ∧ x.cell? ⟨wr.heap.size, 1, none⟩ = some (.int .i64 hb) ∧ x.cell? ⟨q, 0, none⟩ = some vg)) := Lib.hid (fun x hx => ⟨by rw [hx.cell (p := ⟨wr.heap.size, 0, none⟩) (World.block_lt_of_cell? _ _ HKC.out.1)]; exact HKC.out.1, by rw [hx.cell (p := ⟨wr.heap.size, 1, none⟩) (World.block_lt_of_cell? _ _ HKC.out.2)]; exact HKC.out.2, by rw [hx.cell (p := ⟨q, 0, none⟩) hql]; exact cq⟩)
                      have HVG := Lib.hid hvg
                      clear hvg
                      have hnb : (liveB (takeL l) ha hb != liveB (takeL l) ha hb) = false := by simp
                      obtain ⟨ck0, ck1, ck2⟩ := HKK.out w3 (Below.refl _ _)
                      go_region_held3 (fun x => (x.cell? ⟨wr.heap.size, 0, none⟩ = some (.int .i64 ha) ∧ x.cell? ⟨wr.heap.size, 1, none⟩ = some (.int .i64 hb) ∧ x.cell? ⟨q, 0, none⟩ = some vg)) (first | go_keep | exact HKK.out _ HX1.out | exact HKK.out _ HX2.out | exact HKK.out _ HX3.out | exact HKK.out _ HX4.out | exact HKK.out _ HX5.out | exact HKK.out _ HX6.out | exact HKK.out _ HX7.out) (first
                        | ((go_at_call 14; refine (all_any p F' _ _ (HT3.out.later (Below.refl _ _).drew).s HT3.out.ok).mono ?_; rintro e x1 ⟨v1, rfl, ho1, hb1'⟩; have HX1 : Hid (Below w3.heap.size w3 x1) := Lib.hid (nb_trans (Below.refl _ _).drew hb1'); have HO1 := Lib.hid ho1.reads; clear ho1 hb1'))
                        | ((go_at_call 15; refine (refAll_any q _ [] G' _ _ (HT3.out.later HX1.out).r HT3.out.ok).mono ?_; rintro e x2 ⟨v2, rfl, ho2, hb2'⟩; have HX2 : Hid (Below w3.heap.size w3 x2) := Lib.hid (nb_trans HX1.out hb2'); have HO2 := Lib.hid ho2.reads; have HO1' := Lib.hid (HO1.out.later hb2'); clear ho2 hb2'))
                        | ((go_at_call 13; refine (eqHand_any _ _ _ _ _ HO1'.out HO2.out).mono ?_; rintro e x3 ⟨rfl, hb3'⟩; rw [decide_eq_true rfl]; have HX3 : Hid (Below w3.heap.size w3 x3) := Lib.hid (nb_trans HX2.out hb3'); clear hb3'))
                        | ((go_at_call 17; refine (gens_any p F' _ _ (HT3.out.later HX3.out).s HT3.out.ok).mono ?_; rintro e x4 ⟨v4, rfl, ho4, hb4'⟩; have HX4 : Hid (Below w3.heap.size w3 x4) := Lib.hid (nb_trans HX3.out hb4'); have HO4 := Lib.hid (Ints.ofReads ho4.reads); clear ho4 hb4'))
                        | ((go_at_call 16; refine (eqInt_any _ _ _ _ _ HO4.out (HVG.out _ HX4.out)).mono ?_; rintro e x5 ⟨rfl, hx5⟩; rw [decide_eq_true rfl]; have HX5 : Hid (Below w3.heap.size w3 x5) := Lib.hid (by rw [← hx5]; exact HX4.out); clear hx5))
                        | ((go_at_call 18; refine (live_any p F' _ _ _ _ (HT3.out.later HX5.out).s).mono ?_; rintro e x6 ⟨rfl, hb6'⟩; have HX6 : Hid (Below w3.heap.size w3 x6) := Lib.hid (nb_trans HX5.out hb6'); clear hb6'))
                        | ((go_at_call 19; refine (refIs_any q _ [] G' _ _ _ _ (HT3.out.later HX6.out).r HT3.out.ok).mono ?_; rintro e x7 ⟨rfl, hb7'⟩; have HX7 : Hid (Below w3.heap.size w3 x7) := Lib.hid (nb_trans HX6.out hb7'); clear hb7')))
                      go_wp2
                      go_roundw
                      case rel => exact ⟨k + 1, by omega, by go_num, _, _, _, HT3.out.later HX7.out⟩
                      case measure => simp [intOf]; omega)
             · have hk1' : decide (k < n1) = false := by simpa using hk1
               go_wp2_with fail
               have HTd := Lib.hid (hT.out.later (nb_alloc (Below.refl _ _) (.cells #[.int .i64 ha, .int .i64 hb] 31)).drew)
               have HNF : Hid (¬ F wr.heap.size ∧ ¬ G wr.heap.size) := Lib.hid ⟨fun h => by have := hT.out.s.lt _ h; omega, fun h => by have := hT.out.r.lt _ h; omega⟩
               have hne : (freeE l ha hb != freeE l ha hb) = false := by simp
               go_region_held3 (fun x => (x.cell? ⟨wr.heap.size, 0, none⟩ = some (.int .i64 ha) ∧ x.cell? ⟨wr.heap.size, 1, none⟩ = some (.int .i64 hb))) (first | go_keep | exact HKA.out | exact HKB.out) (first
                 | ((go_at_call 11; refine (free_any p F l ha hb _ HTd.out.s HTd.out.ok).mono ?_; rintro e w1 ⟨rfl, hs1, hkk1⟩; have HS1 := Lib.hid hs1; have HK1 := Lib.hid hkk1; have HKA : Hid (w1.cell? ⟨wr.heap.size, 0, none⟩ = some (.int .i64 ha) ∧ w1.cell? ⟨wr.heap.size, 1, none⟩ = some (.int .i64 hb)) := Lib.hid ⟨hkk1.cellS (p := ⟨wr.heap.size, 0, none⟩) (by simp) HNF.out.1, hkk1.cellS (p := ⟨wr.heap.size, 1, none⟩) (by simp) HNF.out.1⟩; clear hs1 hkk1))
                 | ((go_at_call 12; refine (refFree_any q _ [] G l ha hb _ (HTd.out.r.kept HK1.out (fun k hg hf => HTd.out.apart k hf hg)) HTd.out.ok).mono ?_; rintro e w2 ⟨rfl, hr2, hkk2⟩; have HT2 := Lib.hid (HTd.out.moved HS1.out HK1.out (Moves.refl _ _) hkk2 (Moves.refl _ _) hr2 (HTd.out.ok.free ha hb)); have HKB : Hid (w2.cell? ⟨wr.heap.size, 0, none⟩ = some (.int .i64 ha) ∧ w2.cell? ⟨wr.heap.size, 1, none⟩ = some (.int .i64 hb)) := Lib.hid ⟨hkk2.cellS (p := ⟨wr.heap.size, 0, none⟩) HKA.out.1 HNF.out.2, hkk2.cellS (p := ⟨wr.heap.size, 1, none⟩) HKA.out.2 HNF.out.2⟩; clear hr2 hkk2)))
               clear hne c0' c1'
               go_wp2_with fail
               obtain ⟨vg, cq, hql, hvg⟩ := HT2.out.gens
               have HKK : Hid (∀ x, Below w2.heap.size w2 x → (x.cell? ⟨wr.heap.size, 0, none⟩ = some (.int .i64 ha) ∧ x.cell? ⟨wr.heap.size, 1, none⟩ = some (.int .i64 hb) ∧ x.cell? ⟨q, 0, none⟩ = some vg)) := Lib.hid (fun x hx => ⟨by rw [hx.cell (p := ⟨wr.heap.size, 0, none⟩) (World.block_lt_of_cell? _ _ HKB.out.1)]; exact HKB.out.1, by rw [hx.cell (p := ⟨wr.heap.size, 1, none⟩) (World.block_lt_of_cell? _ _ HKB.out.2)]; exact HKB.out.2, by rw [hx.cell (p := ⟨q, 0, none⟩) hql]; exact cq⟩)
               have HVG := Lib.hid hvg
               clear hvg
               have hnb : (liveB (freeL l ha hb) ha hb != liveB (freeL l ha hb) ha hb) = false := by simp
               obtain ⟨ck0, ck1, ck2⟩ := HKK.out w2 (Below.refl _ _)
               go_region_held3 (fun x => (x.cell? ⟨wr.heap.size, 0, none⟩ = some (.int .i64 ha) ∧ x.cell? ⟨wr.heap.size, 1, none⟩ = some (.int .i64 hb) ∧ x.cell? ⟨q, 0, none⟩ = some vg)) (first | go_keep | exact HKK.out _ HX1.out | exact HKK.out _ HX2.out | exact HKK.out _ HX3.out | exact HKK.out _ HX4.out | exact HKK.out _ HX5.out | exact HKK.out _ HX6.out | exact HKK.out _ HX7.out) (first
                 | ((go_at_call 14; refine (all_any p F _ _ (HT2.out.later (Below.refl _ _).drew).s HT2.out.ok).mono ?_; rintro e x1 ⟨v1, rfl, ho1, hb1'⟩; have HX1 : Hid (Below w2.heap.size w2 x1) := Lib.hid (nb_trans (Below.refl _ _).drew hb1'); have HO1 := Lib.hid ho1.reads; clear ho1 hb1'))
                 | ((go_at_call 15; refine (refAll_any q _ [] G _ _ (HT2.out.later HX1.out).r HT2.out.ok).mono ?_; rintro e x2 ⟨v2, rfl, ho2, hb2'⟩; have HX2 : Hid (Below w2.heap.size w2 x2) := Lib.hid (nb_trans HX1.out hb2'); have HO2 := Lib.hid ho2.reads; have HO1' := Lib.hid (HO1.out.later hb2'); clear ho2 hb2'))
                 | ((go_at_call 13; refine (eqHand_any _ _ _ _ _ HO1'.out HO2.out).mono ?_; rintro e x3 ⟨rfl, hb3'⟩; rw [decide_eq_true rfl]; have HX3 : Hid (Below w2.heap.size w2 x3) := Lib.hid (nb_trans HX2.out hb3'); clear hb3'))
                 | ((go_at_call 17; refine (gens_any p F _ _ (HT2.out.later HX3.out).s HT2.out.ok).mono ?_; rintro e x4 ⟨v4, rfl, ho4, hb4'⟩; have HX4 : Hid (Below w2.heap.size w2 x4) := Lib.hid (nb_trans HX3.out hb4'); have HO4 := Lib.hid (Ints.ofReads ho4.reads); clear ho4 hb4'))
                 | ((go_at_call 16; refine (eqInt_any _ _ _ _ _ HO4.out (HVG.out _ HX4.out)).mono ?_; rintro e x5 ⟨rfl, hx5⟩; rw [decide_eq_true rfl]; have HX5 : Hid (Below w2.heap.size w2 x5) := Lib.hid (by rw [← hx5]; exact HX4.out); clear hx5))
                 | ((go_at_call 18; refine (live_any p F _ _ _ _ (HT2.out.later HX5.out).s).mono ?_; rintro e x6 ⟨rfl, hb6'⟩; have HX6 : Hid (Below w2.heap.size w2 x6) := Lib.hid (nb_trans HX5.out hb6'); clear hb6'))
                 | ((go_at_call 19; refine (refIs_any q _ [] G _ _ _ _ (HT2.out.later HX6.out).r HT2.out.ok).mono ?_; rintro e x7 ⟨rfl, hb7'⟩; have HX7 : Hid (Below w2.heap.size w2 x7) := Lib.hid (nb_trans HX6.out hb7'); clear hb7')))
               go_wp2
               go_roundw
               case rel => exact ⟨k + 1, by omega, by go_num, _, _, _, HT2.out.later HX7.out⟩
               case measure => simp [intOf]; omega)
      · obtain rfl : k = n0 := by omega
        have HE := Lib.hid (freeE_neg l)
        go_wp2_with fail
        refine (free_any _ F l (-1) 0 _ hT.out.s hT.out.ok).mono ?_
        rintro e w' ⟨rfl, _, hk'⟩
        rw [HE.out]
        have HB := Lib.hid (hT.out.below.trans (hk'.below hT.out.below.size hT.out.fb))
        clear hk'
        go_wp2
        go_ret
        exact ⟨rfl, by subst hp; exact HB.out⟩

namespace slotsDo
theorem own : ownKnob Try.prog.godebug = none := by kernel_rfl
theorem laidOut : laidOutB Try.prog = true := by kernel_rfl

set_option maxRecDepth 100000 in
theorem lifted (os : Os) (started : os.Started) (H : Type) (enc : TypeId × Value → H) :
    ReturnsInHanded {} Try.checked os 3 .any (Rows.slotsDoSpec.pre6 enc Try.prog Try.f3 Rows.slotsDoRow.domain false) (Rows.slotsDoSpec.post enc Try.prog Try.f3 false true false false) := by
  refine returnsInHanded_of_change (C := Try.checked) own started (by kernel_rfl) Try.func3
    (ChangeSpec.witness6 (enc := enc) (C := Try.checked) false ⟨#[], #[.slice none 0 0, .slice none 0 0], []⟩ 8 (by kernel_rfl) (by kernel_rfl) (by kernel_rfl) (by kernel_rfl)) ?_
  intro W base args ds gs before hval0 hW hcnd _
  have hval : ∀ (j : Nat) t v, Try.f3.params[j]? = some t → args[j]? = some v → Value.okWide Try.prog W .any base t v := hval0
  have hW' := hW
  obtain ⟨p, q, hA0, hV, rfl, hfz, hnd⟩ := hW
  have hA : DataW.TrodAll enc Try.prog W 0 (fun _ => true) true Try.f3.params.toList args.toList ds p := hA0
  rw [Try.params3] at hA hval
  obtain ⟨v0, vs0, d0, ds0, p0, q0, hargs, rfl, rfl, h0, r0⟩ := trodAll_cons hA
  obtain ⟨v1, vs1, d1, ds1, p1, q1, rfl, rfl, rfl, h1, r1⟩ := trodAll_cons r0
  obtain ⟨rfl, rfl, rfl⟩ := trodAll_nil r1
  obtain rfl : args = #[v0, v1] := by cases args; simp_all
  obtain ⟨rfl, rfl⟩ := trodVars_none hV
  have k0' := h0
  have lt0 : ∀ x ∈ p0, x.block < W.heap.size := by obtain ⟨m, hm⟩ := h0; exact DataW.trod_lt m _ _ _ hm
  have k1' := h1
  have lt1 : ∀ x ∈ p1, x.block < W.heap.size := by obtain ⟨m, hm⟩ := h1; exact DataW.trod_lt m _ _ _ hm
  obtain ⟨z0, i0⟩ : ∃ zs, Reads elHand W v0 zs := by
    obtain ⟨a0, len0, cap0, rfl⟩ := okWide_slice Try.underlying22 (hval 0 22 v0 rfl rfl)
    exact Reads_of elHand Try.underlying22 (by kernel_rfl) hand_dec h0
  obtain ⟨z1, i1⟩ : ∃ zs, Reads elBool W v1 zs := by
    obtain ⟨a0, len0, cap0, rfl⟩ := okWide_slice Try.underlying23 (hval 1 23 v1 rfl rfl)
    exact Reads_of elBool Try.underlying23 (by kernel_rfl) bool_dec h1
  clear hA0 hval0
  refine (slotsDo_walk v0 z0 v1 z1 W i0 i1).mono fun e W' ⟨he, bel⟩ => ?_
  subst he
  exact ⟨_, rfl, _, _, _, [], _, [], hW', trodAll_mk1 (shut_bool Try.underlying4 _), (trodAll_cons_mk (Below.trod laidOut (by kernel_rfl) (of_decide_eq_true (by kernel_rfl)) k0' bel lt0) (trodAll_cons_mk (Below.trod laidOut (by kernel_rfl) (of_decide_eq_true (by kernel_rfl)) k1' bel lt1) trodAll_mk0)), rfl, bel.frame _, fun h => by cases h⟩
end slotsDo

theorem slotsDo_proved : Rows.SlotsDoSaid :=
  OpenClaim.holds_of_wide 3 Try.f3 rfl rfl rfl rfl rfl rfl rfl ⟨rfl, rfl, rfl, rfl, rfl⟩ rfl rfl rfl rfl rfl (by kernel_rfl) Try.func3 (by kernel_rfl)
    (of_decide_eq_true (by kernel_rfl)) (by unfold Func.isWrapper; first | (rw [if_pos (by decide +kernel)]; kernel_rfl) | (rw [if_neg (by decide +kernel)]; exact ⟨rfl, rfl⟩))
    (fun os started H enc _ => slotsDo.lifted os started H enc)

end Go.Proofs.Ytdaefadapkkgjaa

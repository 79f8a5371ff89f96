/- The contracts of all and made of package vivariumkeep. -/
import Derived.Test.YtakoejopgdaknaaWorldPut
import Derived.Test.YtakoejopgdaknaaWorldSpawn
import Derived.Test.YtakoejopgdaknaaWorldRowsOf
import Derived.Test.YtakoejopgdaknaaKeepModel
namespace Go.Proofs.Ytakoejopgdaknaa
set_option maxRecDepth 8000
open Go.RowKit

set_option maxHeartbeats 1000000 in
theorem keepAll_any (p : Nat) (F : Nat → Prop) (l : List (Int × Bool)) (rows : List Rw) (w : World) (h : WldAt w p F l (· ∈ rows)) (ok : WOk l rows) :
    Calls Try.prog 23 #[.pointer (some ⟨p, 0, none⟩)] w fun e w' => ∃ v, e = .returned v ∧ OwnsF elRow w' w.heap.size 55 v rows ∧ Below w.heap.size w w' := by
  have HW := Lib.hid h
  have HOK := Lib.hid ok
  clear h ok
  go_enter Try.func23, Try.ntmps23
  go_wp2_with fail
  refine (worldRows_any p F l rows 0 0 0 _ HW.out HOK.out).mono ?_
  rintro e w' ⟨v, rfl, ho, hb⟩
  rw [rowsQ_all] at ho
  rw [show qErr 0 0 0 = 0 by decide]
  have HO := Lib.hid ho
  have HB := Lib.hid hb
  clear ho hb
  go_wp2
  go_ret
  exact ⟨_, rfl, HO.out, HB.out⟩

def MadePost (w : World) (zs : List Opm) (e : Ending) (w' : World) : Prop :=
  ∃ p F, e = .returned (.pointer (some ⟨p, 0, none⟩)) ∧ WldAt w' p F (madeW zs).1 (· ∈ (madeW zs).2) ∧ (∀ b, F b → w.heap.size ≤ b) ∧ Below w.heap.size w w'

set_option maxHeartbeats 8000000 in
theorem made_any (v : Value) (zs : List Opm) (w : World) (hr : Reads elOp w v zs) (hz : ∀ x ∈ zs, OpOk x) : Calls Try.prog 22 #[v] w (MadePost w zs) := by
  obtain ⟨hm, hop⟩ := hr.open
  unfold maxLen at hm
  have HZ := Lib.hid hz
  obtain ⟨n, hn⟩ : ∃ n, zs.length = n := ⟨_, rfl⟩
  have HN := Lib.hid hn
  rw [hn] at hm hop
  clear hr hz hn
  rcases hop with ⟨a, cap, rfl, hz0⟩ | ⟨b, off, cap, rfl, hb, hlc, hcm, hcc⟩
  all_goals
    go_enter Try.func22, Try.ntmps22
    go_wp2_with fail
    refine (worldNew_any _).mono ?_
    rintro e w1 ⟨rfl, hw1⟩
    have HW1 : Hid (WldAt w1 w.heap.size (fun b => b = w.heap.size) [] (· ∈ ([] : List Rw))) := Lib.hid (by rw [← hw1]; exact (WldAt.new w).congr (fun r => by simp))
    have HB1 : Hid (Below w.heap.size w w1) := Lib.hid (by rw [← hw1]; exact nb_alloc (Below.refl _ _) _)
    clear hw1
    go_wp2
    go_loopw [11] (fun i wr => ∃ (t : Nat) (F : Nat → Prop), t ≤ n ∧ i = .int .i64 t ∧ Hid (WldAt wr w.heap.size F (madeW (zs.take t)).1 (· ∈ (madeW (zs.take t)).2)) ∧ Hid (∀ b, F b → w.heap.size ≤ b) ∧ Hid (Below w.heap.size w wr)) (fun i _ => n - (intOf i).toNat)
    case atStart => exact ⟨0, _, by omega, rfl, HW1, fun b e => by omega, HB1⟩
    case round =>
      obtain ⟨t, F, htn, rfl, hW, hF, hB⟩ := hrel
      by_cases hlt : t < n
      · first
          | omega
          | (obtain ⟨o, ho⟩ : ∃ o, zs.getD t opZ = o := ⟨_, rfl⟩
             have htl : t < zs.length := by rw [HN.out]; exact hlt
             have hcr : ∀ jj, jj < 16 → wr.cell? ⟨b, off + t * 16 + jj, none⟩ = (elOp.enc o)[jj]? := fun jj hjj => by rw [hB.out.cell (p := ⟨b, _, none⟩) hb, ← ho]; exact hcc t hlt jj hjj
             have o0 : wr.cell? ⟨b, off + t * 16, none⟩ = some (.int .i64 o.d) := hcr 0 (by decide)
             have o1 : wr.cell? ⟨b, off + t * 16 + 1, none⟩ = some (.int .i64 o.m) := hcr 1 (by decide)
             have o2 : wr.cell? ⟨b, off + t * 16 + 2, none⟩ = some (.int .i64 (o.f 0)) := hcr 2 (by decide)
             have o3 : wr.cell? ⟨b, off + t * 16 + 3, none⟩ = some (.int .i64 (o.f 1)) := hcr 3 (by decide)
             have o4 : wr.cell? ⟨b, off + t * 16 + 4, none⟩ = some (.int .i64 (o.f 2)) := hcr 4 (by decide)
             have o5 : wr.cell? ⟨b, off + t * 16 + 5, none⟩ = some (.int .i64 (o.f 3)) := hcr 5 (by decide)
             have o6 : wr.cell? ⟨b, off + t * 16 + 6, none⟩ = some (.int .i64 (o.f 4)) := hcr 6 (by decide)
             have o7 : wr.cell? ⟨b, off + t * 16 + 7, none⟩ = some (.int .i64 (o.f 5)) := hcr 7 (by decide)
             have o8 : wr.cell? ⟨b, off + t * 16 + 8, none⟩ = some (.int .i64 (o.f 6)) := hcr 8 (by decide)
             have o9 : wr.cell? ⟨b, off + t * 16 + 9, none⟩ = some (.int .i64 (o.f 7)) := hcr 9 (by decide)
             have o10 : wr.cell? ⟨b, off + t * 16 + 10, none⟩ = some (.int .i64 o.a) := hcr 10 (by decide)
             have o11 : wr.cell? ⟨b, off + t * 16 + 11, none⟩ = some (.int .i64 o.b) := hcr 11 (by decide)
             have o12 : wr.cell? ⟨b, off + t * 16 + 12, none⟩ = some (.int .i64 o.ta) := hcr 12 (by decide)
             have o13 : wr.cell? ⟨b, off + t * 16 + 13, none⟩ = some (.int .i64 o.tb) := hcr 13 (by decide)
             have o14 : wr.cell? ⟨b, off + t * 16 + 14, none⟩ = some (.int .i64 o.k) := hcr 14 (by decide)
             have o15 : wr.cell? ⟨b, off + t * 16 + 15, none⟩ = some (.int .i64 o.n) := hcr 15 (by decide)
             have HTK : Hid (madeW (zs.take (t + 1)) = stepW (madeW (zs.take t)) o) := Lib.hid (by rw [take_snocD zs t opZ htl, ho, madeW_snoc])
             have HOP : Hid (OpOk o) := Lib.hid (HZ.out o (by rw [← ho]; exact mem_getD htl))
             have HOK : Hid (WOk (madeW (zs.take t)).1 (madeW (zs.take t)).2) := Lib.hid (WOk.made _)
             obtain ⟨s, hs⟩ : ∃ s, madeW (zs.take t) = s := ⟨_, rfl⟩
             rw [hs] at hW HTK HOK
             have HWA : Hid (∀ d : Int, WldAt (wr.alloc (.cells #[.int .i64 d, .int .i64 o.m, .int .i64 (o.f 0), .int .i64 (o.f 1), .int .i64 (o.f 2), .int .i64 (o.f 3), .int .i64 (o.f 4), .int .i64 (o.f 5), .int .i64 (o.f 6), .int .i64 (o.f 7), .int .i64 o.a, .int .i64 o.b, .int .i64 o.ta, .int .i64 o.tb, .int .i64 o.k, .int .i64 o.n] 40)) w.heap.size F s.1 (· ∈ s.2)) := Lib.hid (fun d => hW.out.later (nb_alloc (Below.refl _ _) _))
             have hbw : b < wr.heap.size := Nat.lt_of_lt_of_le hb hB.out.size
             clear hcr hcc ho hs
             by_cases h1 : o.d = 1
             · as_aux_lemma =>
               have HS : Hid (stepW s o = (spawnL s.1 o.m o.f, spawnR s.1 s.2 o.m o.f)) := Lib.hid (by rw [stepW, stepL, stepR, if_pos h1, if_pos h1])
               rw [HS.out] at HTK
               go_wp2_with fail
               refine (worldSpawn_any w.heap.size F s.1 s.2 o.m o.f _ (HWA.out _) HOK.out).mono ?_
               rintro e w5 ⟨rfl, F5, h5, hk5, hm5⟩
               have HNX : Hid (WldAt w5 w.heap.size F5 (madeW (zs.take (t + 1))).1 (· ∈ (madeW (zs.take (t + 1))).2) ∧ (∀ b, F5 b → w.heap.size ≤ b) ∧ Below w.heap.size w w5) := Lib.hid (by
                 have hws := hB.out.size
                 refine ⟨by rw [HTK.out]; exact h5, fun b hb => ?_, (nb_alloc hB.out _).trans (hk5.below (nb_alloc hB.out _).size (fun b hb => hF.out b hb))⟩
                 rcases hm5 b hb with h1 | h1
                 · exact hF.out b h1
                 · simp at h1; omega)
               clear h5 hk5 hm5
               go_wp2
               go_roundw
               case rel => exact ⟨t + 1, F5, by omega, by go_num, HNX.out.1, HNX.out.2.1, HNX.out.2.2⟩
               case measure => simp [intOf]; omega
             by_cases h2 : o.d = 2
             · as_aux_lemma =>
               have HS : Hid (stepW s o = (freeL s.1 o.a o.b, killR s.2 o.a o.b)) := Lib.hid (by rw [stepW, stepL, stepR, if_neg h1, if_neg h1, if_pos h2, if_pos h2])
               rw [HS.out] at HTK
               clear h1
               go_wp2_with fail
               refine (worldKill_any w.heap.size F s.1 s.2 o.a o.b _ (HWA.out _) HOK.out HOP.out.1 HOP.out.2).mono ?_
               rintro e w5 ⟨rfl, F5, h5, hk5, hm5⟩
               have HNX : Hid (WldAt w5 w.heap.size F5 (madeW (zs.take (t + 1))).1 (· ∈ (madeW (zs.take (t + 1))).2) ∧ (∀ b, F5 b → w.heap.size ≤ b) ∧ Below w.heap.size w w5) := Lib.hid (by
                 have hws := hB.out.size
                 refine ⟨by rw [HTK.out]; exact h5, fun b hb => ?_, (nb_alloc hB.out _).trans (hk5.below (nb_alloc hB.out _).size (fun b hb => hF.out b hb))⟩
                 rcases hm5 b hb with h1 | h1
                 · exact hF.out b h1
                 · simp at h1; omega)
               clear h5 hk5 hm5
               go_wp2
               go_roundw
               case rel => exact ⟨t + 1, F5, by omega, by go_num, HNX.out.1, HNX.out.2.1, HNX.out.2.2⟩
               case measure => simp [intOf]; omega
             by_cases h3 : o.d = 3
             · as_aux_lemma =>
               have HS : Hid (stepW s o = (s.1, putWR s.2 o.a o.b o.k o.n)) := Lib.hid (by rw [stepW, stepL, stepR, if_neg h1, if_neg h1, if_neg h2, if_neg h2, if_pos h3])
               rw [HS.out] at HTK
               clear h1 h2
               go_wp2_with fail
               refine (worldPut_any w.heap.size F s.1 s.2 o.a o.b o.k o.n _ (HWA.out _) HOK.out HOP.out.1 HOP.out.2).mono ?_
               rintro e w5 ⟨rfl, F5, h5, hk5, hm5⟩
               have HNX : Hid (WldAt w5 w.heap.size F5 (madeW (zs.take (t + 1))).1 (· ∈ (madeW (zs.take (t + 1))).2) ∧ (∀ b, F5 b → w.heap.size ≤ b) ∧ Below w.heap.size w w5) := Lib.hid (by
                 have hws := hB.out.size
                 refine ⟨by rw [HTK.out]; exact h5, fun b hb => ?_, (nb_alloc hB.out _).trans (hk5.below (nb_alloc hB.out _).size (fun b hb => hF.out b hb))⟩
                 rcases hm5 b hb with h1 | h1
                 · exact hF.out b h1
                 · simp at h1; omega)
               clear h5 hk5 hm5
               go_wp2
               go_roundw
               case rel => exact ⟨t + 1, F5, by omega, by go_num, HNX.out.1, HNX.out.2.1, HNX.out.2.2⟩
               case measure => simp [intOf]; omega
             by_cases h4 : o.d = 4
             · as_aux_lemma =>
               have HS : Hid (stepW s o = (s.1, dropR s.2 o.a o.b o.k)) := Lib.hid (by rw [stepW, stepL, stepR, if_neg h1, if_neg h1, if_neg h2, if_neg h2, if_neg h3, if_pos h4])
               rw [HS.out] at HTK
               clear h1 h2 h3
               go_wp2_with fail
               refine (worldDrop_any w.heap.size F s.1 s.2 o.a o.b o.k _ (HWA.out _) HOK.out HOP.out.1 HOP.out.2).mono ?_
               rintro e w5 ⟨rfl, F5, h5, hk5, hm5⟩
               have HNX : Hid (WldAt w5 w.heap.size F5 (madeW (zs.take (t + 1))).1 (· ∈ (madeW (zs.take (t + 1))).2) ∧ (∀ b, F5 b → w.heap.size ≤ b) ∧ Below w.heap.size w w5) := Lib.hid (by
                 have hws := hB.out.size
                 refine ⟨by rw [HTK.out]; exact h5, fun b hb => ?_, (nb_alloc hB.out _).trans (hk5.below (nb_alloc hB.out _).size (fun b hb => hF.out b hb))⟩
                 rcases hm5 b hb with h1 | h1
                 · exact hF.out b h1
                 · simp at h1; omega)
               clear h5 hk5 hm5
               go_wp2
               go_roundw
               case rel => exact ⟨t + 1, F5, by omega, by go_num, HNX.out.1, HNX.out.2.1, HNX.out.2.2⟩
               case measure => simp [intOf]; omega
             · as_aux_lemma =>
               have HS : Hid (stepW s o = s) := Lib.hid (by rw [stepW, stepL, stepR, if_neg h1, if_neg h1, if_neg h2, if_neg h2, if_neg h3, if_neg h4])
               rw [HS.out] at HTK
               have HNX : Hid (WldAt (wr.alloc (.cells #[.int .i64 o.d, .int .i64 o.m, .int .i64 (o.f 0), .int .i64 (o.f 1), .int .i64 (o.f 2), .int .i64 (o.f 3), .int .i64 (o.f 4), .int .i64 (o.f 5), .int .i64 (o.f 6), .int .i64 (o.f 7), .int .i64 o.a, .int .i64 o.b, .int .i64 o.ta, .int .i64 o.tb, .int .i64 o.k, .int .i64 o.n] 40)) w.heap.size F (madeW (zs.take (t + 1))).1 (· ∈ (madeW (zs.take (t + 1))).2) ∧ Below w.heap.size w (wr.alloc (.cells #[.int .i64 o.d, .int .i64 o.m, .int .i64 (o.f 0), .int .i64 (o.f 1), .int .i64 (o.f 2), .int .i64 (o.f 3), .int .i64 (o.f 4), .int .i64 (o.f 5), .int .i64 (o.f 6), .int .i64 (o.f 7), .int .i64 o.a, .int .i64 o.b, .int .i64 o.ta, .int .i64 o.tb, .int .i64 o.k, .int .i64 o.n] 40))) := Lib.hid (by rw [HTK.out]; exact ⟨HWA.out _, nb_alloc hB.out _⟩)
               go_wp2
               go_roundw
               case rel => exact ⟨t + 1, F, by omega, by go_num, HNX.out.1, hF, HNX.out.2⟩
               case measure => simp [intOf]; omega)
      · obtain rfl : t = n := by omega
        have HALL : Hid (zs.take t = zs) := Lib.hid (by rw [List.take_of_length_le (by rw [HN.out]; exact Nat.le_refl _)])
        rw [HALL.out] at hW
        go_wp2
        go_ret
        exact ⟨_, F, rfl, hW.out, hF.out, hB.out⟩
end Go.Proofs.Ytakoejopgdaknaa

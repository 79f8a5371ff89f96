/- The contracts of grown and related of package vivariumkeep. -/
import Derived.Test.YtlclceiebnnpgaaFamUnder
import Derived.Test.YtlclceiebnnpgaaFamAdopt
import Derived.Test.YtlclceiebnnpgaaOpRows
import Derived.Deep.RegionHeld3
namespace Go.Proofs.Ytlclceiebnnpgaa
set_option maxRecDepth 8000
open Go.RowKit

open Classical in
noncomputable def stepB (bs : List Bd) (o : Opm) : List Bd := if o.d = 5 then adoptB bs (o.a, o.b) (o.ta, o.tb) else if o.d = 6 then rmB bs (o.a, o.b) else if o.d = 2 then goneB bs (o.a, o.b) else bs
noncomputable def famL (zs : List Opm) : List Bd := zs.foldl stepB []
theorem famL_snoc (zs : List Opm) (o : Opm) : famL (zs ++ [o]) = stepB (famL zs) o := by simp [famL]
theorem stepB_5 {bs : List Bd} {o : Opm} (h : o.d = 5) : stepB bs o = adoptB bs (o.a, o.b) (o.ta, o.tb) := by rw [stepB, if_pos h]
theorem stepB_6 {bs : List Bd} {o : Opm} (h : o.d = 6) : stepB bs o = rmB bs (o.a, o.b) := by rw [stepB, if_neg (by omega), if_pos h]
theorem stepB_2 {bs : List Bd} {o : Opm} (h : o.d = 2) : stepB bs o = goneB bs (o.a, o.b) := by rw [stepB, if_neg (by omega), if_neg (by omega), if_pos h]
theorem stepB_0 {bs : List Bd} {o : Opm} (h5 : o.d ≠ 5) (h6 : o.d ≠ 6) (h2 : o.d ≠ 2) : stepB bs o = bs := by rw [stepB, if_neg h5, if_neg h6, if_neg h2]
theorem FOk.step {bs : List Bd} (h : FOk bs) {o : Opm} (ho : OpOk o) : FOk (stepB bs o) ∧ (stepB bs o).length ≤ bs.length + 1 := by
  by_cases h5 : o.d = 5
  · rw [stepB_5 h5]; exact ⟨h.adopt ⟨ho.1, ho.2.1⟩ ⟨ho.2.2.1, ho.2.2.2⟩, adoptB_len _ _ _⟩
  · by_cases h6 : o.d = 6
    · rw [stepB_6 h6]; exact ⟨h.rm _, Nat.le_trans (rmB_len _ _) (by omega)⟩
    · by_cases h2 : o.d = 2
      · rw [stepB_2 h2]; exact ⟨h.gone _, Nat.le_trans (goneB_len _ _) (by omega)⟩
      · rw [stepB_0 h5 h6 h2]; exact ⟨h, by omega⟩
theorem FOk.made {zs : List Opm} (hz : ∀ x ∈ zs, OpOk x) : FOk (famL zs) ∧ (famL zs).length ≤ zs.length := by
  have key : ∀ (zs : List Opm) (bs : List Bd), FOk bs → (∀ x ∈ zs, OpOk x) → FOk (zs.foldl stepB bs) ∧ (zs.foldl stepB bs).length ≤ bs.length + zs.length := by
    intro zs
    induction zs with
    | nil => intro bs h _; exact ⟨h, by simp⟩
    | cons o zs ih =>
      intro bs h hz
      obtain ⟨h1, h2⟩ := h.step (hz o (by simp))
      obtain ⟨h3, h4⟩ := ih _ h1 (fun x hx => hz x (by simp [hx]))
      refine ⟨h3, ?_⟩
      simp only [List.foldl_cons, List.length_cons]
      omega
  obtain ⟨h1, h2⟩ := key zs [] FOk.nil hz
  exact ⟨h1, by unfold famL; simpa using h2⟩
theorem takeF_snoc {α : Type} (zs : List α) (t : Nat) (d : α) (h : t < zs.length) : zs.take (t + 1) = zs.take t ++ [zs.getD t d] := by
  rw [List.take_add_one, List.getElem?_eq_getElem h, List.getD_eq_getElem?_getD, List.getElem?_eq_getElem h]; rfl

def GrownPost (w : World) (zs : List Opm) (e : Ending) (w' : World) : Prop := ∃ q F, e = .returned (.pointer (some ⟨q, 0, none⟩)) ∧ FamAt w' q F (famL zs) ∧ (∀ b, F b → w.heap.size ≤ b) ∧ Below w.heap.size w w'

set_option maxHeartbeats 8000000 in
theorem grown_any (v : Value) (zs : List Opm) (w : World) (hr : Reads elOp w v zs) (hz : ∀ x ∈ zs, OpOk x) (hsz : zs.length * 128 ≤ 140737488351232) : Calls Try.prog 21 #[v] w (GrownPost w zs) := by
  obtain ⟨hm, hop⟩ := hr.open
  unfold maxLen at hm
  have HZ := Lib.hid hz
  obtain ⟨n, hn⟩ : ∃ n, zs.length = n := ⟨_, rfl⟩
  have HN := Lib.hid hn
  rw [hn] at hm hop hsz
  clear hr hz hn
  rcases hop with ⟨a, cap, rfl, hz0⟩ | ⟨b, off, cap, rfl, hb, hlc, hcm, hcc⟩
  all_goals
    go_enter Try.func21, Try.ntmps21
    go_wp2_with fail
    refine (famNew_any _).mono ?_
    rintro e w1 ⟨rfl, hw1⟩
    have HW1 : Hid (FamAt w1 w.heap.size (fun b => b = w.heap.size) (famL (zs.take 0))) := Lib.hid (by rw [← hw1]; exact FamAt.new w)
    have HB1 : Hid (Below w.heap.size w w1) := Lib.hid (by rw [← hw1]; exact nb_alloc (Below.refl _ _) _)
    clear hw1
    go_wp2
    go_loopw [11] (fun i wr => ∃ (t : Nat) (F : Nat → Prop), t ≤ n ∧ i = .int .i64 t ∧ Hid (FamAt wr w.heap.size F (famL (zs.take t))) ∧ Hid (∀ b, F b → w.heap.size ≤ b) ∧ Hid (Below w.heap.size w wr)) (fun i _ => n - (intOf i).toNat)
    case atStart => exact ⟨0, _, by omega, rfl, HW1, Lib.hid (fun b e => by omega), HB1⟩
    case round =>
      obtain ⟨t, F, htn, rfl, hW, hF, hB⟩ := hrel
      by_cases hlt : t < n
      · first
          | omega
          | (obtain ⟨o, ho⟩ : ∃ o, zs.getD t opZ = o := ⟨_, rfl⟩
             have htl : t < zs.length := by rw [HN.out]; exact hlt
             have hcr : ∀ jj, jj < 16 → wr.cell? ⟨b, off + t * 16 + jj, none⟩ = (elOp.enc o)[jj]? := fun jj hjj => by rw [hB.out.cell (p := ⟨b, _, none⟩) hb, ← ho]; exact hcc t hlt jj hjj
             have c0 : wr.cell? ⟨b, off + t * 16, none⟩ = some (.int .i64 o.d) := hcr 0 (by decide)
             have c1 : wr.cell? ⟨b, off + t * 16 + 1, none⟩ = some (.int .i64 o.m) := hcr 1 (by decide)
             have c2 : wr.cell? ⟨b, off + t * 16 + 2, none⟩ = some (.int .i64 (o.f 0)) := hcr 2 (by decide)
             have c3 : wr.cell? ⟨b, off + t * 16 + 3, none⟩ = some (.int .i64 (o.f 1)) := hcr 3 (by decide)
             have c4 : wr.cell? ⟨b, off + t * 16 + 4, none⟩ = some (.int .i64 (o.f 2)) := hcr 4 (by decide)
             have c5 : wr.cell? ⟨b, off + t * 16 + 5, none⟩ = some (.int .i64 (o.f 3)) := hcr 5 (by decide)
             have c6 : wr.cell? ⟨b, off + t * 16 + 6, none⟩ = some (.int .i64 (o.f 4)) := hcr 6 (by decide)
             have c7 : wr.cell? ⟨b, off + t * 16 + 7, none⟩ = some (.int .i64 (o.f 5)) := hcr 7 (by decide)
             have c8 : wr.cell? ⟨b, off + t * 16 + 8, none⟩ = some (.int .i64 (o.f 6)) := hcr 8 (by decide)
             have c9 : wr.cell? ⟨b, off + t * 16 + 9, none⟩ = some (.int .i64 (o.f 7)) := hcr 9 (by decide)
             have c10 : wr.cell? ⟨b, off + t * 16 + 10, none⟩ = some (.int .i64 o.a) := hcr 10 (by decide)
             have c11 : wr.cell? ⟨b, off + t * 16 + 11, none⟩ = some (.int .i64 o.b) := hcr 11 (by decide)
             have c12 : wr.cell? ⟨b, off + t * 16 + 12, none⟩ = some (.int .i64 o.ta) := hcr 12 (by decide)
             have c13 : wr.cell? ⟨b, off + t * 16 + 13, none⟩ = some (.int .i64 o.tb) := hcr 13 (by decide)
             have c14 : wr.cell? ⟨b, off + t * 16 + 14, none⟩ = some (.int .i64 o.k) := hcr 14 (by decide)
             have c15 : wr.cell? ⟨b, off + t * 16 + 15, none⟩ = some (.int .i64 o.n) := hcr 15 (by decide)
             have HTK : Hid (famL (zs.take (t + 1)) = stepB (famL (zs.take t)) o) := Lib.hid (by rw [takeF_snoc zs t opZ htl, ho, famL_snoc])
             have HOP : Hid (OpOk o) := Lib.hid (HZ.out o (by rw [← ho]; exact memD htl))
             have hmd := FOk.made (zs := zs.take t) (fun x hx => HZ.out x (List.mem_of_mem_take hx))
             have HOK : Hid (FOk (famL (zs.take t))) := Lib.hid hmd.1
             have hsl : (famL (zs.take t)).length ≤ n := Nat.le_trans hmd.2 (by rw [List.length_take, HN.out]; omega)
             obtain ⟨s, hs⟩ : ∃ s, famL (zs.take t) = s := ⟨_, rfl⟩
             rw [hs] at hW HTK HOK hsl
             have HSL : Hid (s.length * 32 ≤ 140737488355328 ∧ s.length < maxLen) := Lib.hid ⟨by omega, by unfold maxLen; omega⟩
             have HWA : Hid (∀ d : Int, FamAt (wr.alloc (.cells #[.int .i64 d, .int .i64 o.m, .int .i64 (o.f 0), .int .i64 (o.f 1), .int .i64 (o.f 2), .int .i64 (o.f 3), .int .i64 (o.f 4), .int .i64 (o.f 5), .int .i64 (o.f 6), .int .i64 (o.f 7), .int .i64 o.a, .int .i64 o.b, .int .i64 o.ta, .int .i64 o.tb, .int .i64 o.k, .int .i64 o.n] 40)) w.heap.size F s) := Lib.hid (fun d => hW.out.later (nb_alloc (Below.refl _ _) _))
             have hbw : b < wr.heap.size := Nat.lt_of_lt_of_le hb hB.out.size
             clear hcr hcc ho hs hmd
             by_cases h5 : o.d = 5
             · as_aux_lemma =>
               have HS : Hid (stepB s o = adoptB s (o.a, o.b) (o.ta, o.tb)) := Lib.hid (stepB_5 h5)
               rw [HS.out] at HTK
               go_wp2_with fail
               refine (famAdopt_any w.heap.size F s o.a o.b o.ta o.tb _ (HWA.out _) HOK.out ⟨HOP.out.1, HOP.out.2.1⟩ HOP.out.2.2 HSL.out.2).mono ?_
               rintro e w5 ⟨rfl, F5, h5, hk5, hm5⟩
               have HNX : Hid (FamAt w5 w.heap.size F5 (famL (zs.take (t + 1))) ∧ (∀ b, F5 b → w.heap.size ≤ b) ∧ Below w.heap.size w w5) := Lib.hid (by
                 have hws := hB.out.size
                 refine ⟨by rw [HTK.out]; exact h5, fun b hb => ?_, (nb_alloc hB.out _).trans (hk5.below (nb_alloc hB.out _).size (fun b hb => hF.out b hb))⟩
                 rcases hm5 b hb with h1 | h1
                 · exact hF.out b h1
                 · simp at h1; omega)
               clear h5 hk5 hm5
               go_wp2
               go_roundw
               case rel => exact ⟨t + 1, F5, by omega, by go_num, Lib.hid HNX.out.1, Lib.hid HNX.out.2.1, Lib.hid HNX.out.2.2⟩
               case measure => simp [intOf]; omega
             by_cases h6 : o.d = 6
             · as_aux_lemma =>
               have HS : Hid (stepB s o = rmB s (o.a, o.b)) := Lib.hid (stepB_6 h6)
               rw [HS.out] at HTK
               clear h5
               go_wp2_with fail
               refine (famLoosen_any w.heap.size F s o.a o.b _ (HWA.out _) HOK.out.sorted HOP.out.1 HOP.out.2.1).mono ?_
               rintro e w5 ⟨rfl, h5, hk5⟩
               obtain ⟨F5, hF5⟩ : ∃ F5, F = F5 := ⟨_, rfl⟩
               have hm5 : Moves (wr.alloc (.cells #[.int .i64 6, .int .i64 o.m, .int .i64 (o.f 0), .int .i64 (o.f 1), .int .i64 (o.f 2), .int .i64 (o.f 3), .int .i64 (o.f 4), .int .i64 (o.f 5), .int .i64 (o.f 6), .int .i64 (o.f 7), .int .i64 o.a, .int .i64 o.b, .int .i64 o.ta, .int .i64 o.tb, .int .i64 o.k, .int .i64 o.n] 40)) F F5 := by rw [← hF5]; exact Moves.refl _ _
               replace h5 : FamAt w5 w.heap.size F5 (rmB s (o.a, o.b)) := by rw [← hF5]; exact h5
               clear hF5
               have HNX : Hid (FamAt w5 w.heap.size F5 (famL (zs.take (t + 1))) ∧ (∀ b, F5 b → w.heap.size ≤ b) ∧ Below w.heap.size w w5) := Lib.hid (by
                 have hws := hB.out.size
                 refine ⟨by rw [HTK.out]; exact h5, fun b hb => ?_, (nb_alloc hB.out _).trans (hk5.below (nb_alloc hB.out _).size (fun b hb => hF.out b hb))⟩
                 rcases hm5 b hb with h1 | h1
                 · exact hF.out b h1
                 · simp at h1; omega)
               clear h5 hk5 hm5
               go_wp2
               go_roundw
               case rel => exact ⟨t + 1, F5, by omega, by go_num, Lib.hid HNX.out.1, Lib.hid HNX.out.2.1, Lib.hid HNX.out.2.2⟩
               case measure => simp [intOf]; omega
             by_cases h2 : o.d = 2
             · as_aux_lemma =>
               have HS : Hid (stepB s o = goneB s (o.a, o.b)) := Lib.hid (stepB_2 h2)
               rw [HS.out] at HTK
               clear h5 h6
               go_wp2_with fail
               refine (famGone_any w.heap.size F s o.a o.b _ (HWA.out _) HOK.out HSL.out.1).mono ?_
               rintro e w5 ⟨rfl, h5, hk5⟩
               obtain ⟨F5, hF5⟩ : ∃ F5, F = F5 := ⟨_, rfl⟩
               have hm5 : Moves (wr.alloc (.cells #[.int .i64 2, .int .i64 o.m, .int .i64 (o.f 0), .int .i64 (o.f 1), .int .i64 (o.f 2), .int .i64 (o.f 3), .int .i64 (o.f 4), .int .i64 (o.f 5), .int .i64 (o.f 6), .int .i64 (o.f 7), .int .i64 o.a, .int .i64 o.b, .int .i64 o.ta, .int .i64 o.tb, .int .i64 o.k, .int .i64 o.n] 40)) F F5 := by rw [← hF5]; exact Moves.refl _ _
               replace h5 : FamAt w5 w.heap.size F5 (goneB s (o.a, o.b)) := by rw [← hF5]; exact h5
               clear hF5
               have HNX : Hid (FamAt w5 w.heap.size F5 (famL (zs.take (t + 1))) ∧ (∀ b, F5 b → w.heap.size ≤ b) ∧ Below w.heap.size w w5) := Lib.hid (by
                 have hws := hB.out.size
                 refine ⟨by rw [HTK.out]; exact h5, fun b hb => ?_, (nb_alloc hB.out _).trans (hk5.below (nb_alloc hB.out _).size (fun b hb => hF.out b hb))⟩
                 rcases hm5 b hb with h1 | h1
                 · exact hF.out b h1
                 · simp at h1; omega)
               clear h5 hk5 hm5
               go_wp2
               go_roundw
               case rel => exact ⟨t + 1, F5, by omega, by go_num, Lib.hid HNX.out.1, Lib.hid HNX.out.2.1, Lib.hid HNX.out.2.2⟩
               case measure => simp [intOf]; omega
             · as_aux_lemma =>
               have HS : Hid (stepB s o = s) := Lib.hid (stepB_0 h5 h6 h2)
               rw [HS.out] at HTK
               have HNX : Hid (FamAt (wr.alloc (.cells #[.int .i64 o.d, .int .i64 o.m, .int .i64 (o.f 0), .int .i64 (o.f 1), .int .i64 (o.f 2), .int .i64 (o.f 3), .int .i64 (o.f 4), .int .i64 (o.f 5), .int .i64 (o.f 6), .int .i64 (o.f 7), .int .i64 o.a, .int .i64 o.b, .int .i64 o.ta, .int .i64 o.tb, .int .i64 o.k, .int .i64 o.n] 40)) w.heap.size F (famL (zs.take (t + 1))) ∧ Below w.heap.size w (wr.alloc (.cells #[.int .i64 o.d, .int .i64 o.m, .int .i64 (o.f 0), .int .i64 (o.f 1), .int .i64 (o.f 2), .int .i64 (o.f 3), .int .i64 (o.f 4), .int .i64 (o.f 5), .int .i64 (o.f 6), .int .i64 (o.f 7), .int .i64 o.a, .int .i64 o.b, .int .i64 o.ta, .int .i64 o.tb, .int .i64 o.k, .int .i64 o.n] 40))) := Lib.hid (by rw [HTK.out]; exact ⟨HWA.out _, nb_alloc hB.out _⟩)
               go_wp2
               go_roundw
               case rel => exact ⟨t + 1, F, by omega, by go_num, Lib.hid HNX.out.1, hF, Lib.hid HNX.out.2⟩
               case measure => simp [intOf]; omega)
      · obtain rfl : t = n := by omega
        have HALL : Hid (zs.take t = zs) := Lib.hid (by rw [List.take_of_length_le (by rw [HN.out]; exact Nat.le_refl _)])
        rw [HALL.out] at hW
        go_wp2
        go_ret
        exact ⟨_, F, rfl, hW.out, hF.out, hB.out⟩
end Go.Proofs.Ytlclceiebnnpgaa

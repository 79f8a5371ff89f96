/- Load of slots returns the results of the reference, for all arguments: the statement SlotsLoads. No condition. -/
import Derived.Test.YtdaefadapkkgjaaOpen
import Derived.Test.YtdaefadapkkgjaaBoth
import Derived.Test.YtdaefadapkkgjaaRefLoad
namespace Go.Proofs.Ytdaefadapkkgjaa
open Go.ChangeShapes Go.WideShapes Go.ChangeAt Go.RowKit
set_option linter.unusedVariables false

theorem Ints.one (w : World) (x : Int) (t : TypeId) : Ints (w.alloc (.cells #[.int .i64 x] t)) (.slice (some ⟨w.heap.size, 0, none⟩) 1 1) [x] := by
  refine ⟨_, 1, rfl, by simp, by simp [maxLen], fun k hk => ⟨_, _, rfl, by simp, ?_⟩⟩
  simp at hk
  subst hk
  simp
theorem Ints.none0 (w : World) : Ints w (.slice none 0 0) [] := ⟨none, 0, rfl, by simp, by simp [maxLen], fun k hk => by simp at hk⟩

set_option maxRecDepth 100000 in
set_option maxHeartbeats 8000000 in
theorem slotsLoads_walk (u0 : Value) (z0 : List Int)  (u1 : Value) (z1 : List Int)  (w : World) (i0 : Ints w u0 z0) (i1 : Ints w u1 z1) :
    Calls Try.prog 4 #[u0, u1] w fun e w' => e = .returned (.bool true) ∧ Below w.heap.size w w' := by
  have HG := Lib.hid i0
  have HL := Lib.hid i1
  clear i0 i1
  have h1 : ldE [-1] [] = 1 := by decide
  have H1 := Lib.hid h1
  clear h1
  have hee : (ldE z0 z1 != ldE z0 z1) = false := by simp
  go_enter Try.func4, Try.ntmps4
  go_wp2_with fail
  refine (load_any _ _ z0 z1 _ HG.out HL.out).mono ?_
  rintro e w1 ⟨u1, rfl, hb1, hn1, hs1⟩
  have HB1 := Lib.hid hb1
  have HN1 := Lib.hid hn1
  have HS1 := Lib.hid hs1
  clear hb1 hn1 hs1
  go_wp2_with fail
  refine (refLoad_any _ _ z0 z1 _ (HG.out.later HB1.out) (HL.out.later HB1.out)).mono ?_
  rintro e w2 ⟨u2, rfl, hb2, hn2, hs2⟩
  have HB2 := Lib.hid hb2
  have HN2 := Lib.hid hn2
  have HS2 := Lib.hid hs2
  clear hb2 hn2 hs2
  go_wp2_with fail
  refine (load_any _ _ [-1] [] _ (Ints.one _ _ _) (Ints.none0 _)).mono ?_
  rintro e w3 ⟨u3, rfl, hb3, -, -⟩
  rw [H1.out]
  have HB3 := Lib.hid (nb_trans (nb_alloc (Below.refl w2.heap.size w2) (.cells #[.int .i64 (-1)] 3)) hb3)
  clear hb3
  by_cases h0 : ldE z0 z1 = 0
  · obtain ⟨p, F, rfl, hs, hF⟩ := HS1.out h0
    obtain ⟨q, G, rfl, hr, hG⟩ := HS2.out h0
    have HT : Hid (Both w w3 p q F G (mkL z0 z1)) := Lib.hid ⟨(hs.later HB2.out).later HB3.out, hr.later HB3.out, (fun k hf hg => by have := hs.lt k hf; have := hG k hg; omega), hF, (fun k hk => by have := hG k hk; have := HB1.out.size; omega), mkL_ok h0, nb_trans (nb_trans HB1.out HB2.out) HB3.out⟩
    clear hs hF hr hG HS1 HS2 HN1 HN2 h0 HG HL
    generalize mkL z0 z1 = l at *
    generalize ldE z0 z1 = er at *
    go_wp2_with fail
    refine (take_any p F l _ HT.out.s HT.out.ok).mono ?_
    rintro e w4 ⟨rfl, F', hs4, hk4, hm4⟩
    have HS4 := Lib.hid hs4
    have HK4 := Lib.hid hk4
    have HM4 := Lib.hid hm4
    clear hs4 hk4 hm4
    have ht1 : ((takeH l).1 == (takeH l).1) = true := by simp
    have ht2 : ((takeH l).2 == (takeH l).2) = true := by simp
    have hte : (takeE l == takeE l) = true := by simp
    have HNG : Hid (¬ G w4.heap.size) := Lib.hid (fun h => by have := HT.out.r.lt _ h; have := HK4.out.size; omega)
    go_wp2_with fail
    refine (refTake_any q _ [] G l _ ((HT.out.r.kept HK4.out (fun k hg hf => HT.out.apart k hf hg)).later (nb_alloc (Below.refl _ _) _)) HT.out.ok).mono ?_
    rintro e w5 ⟨rfl, G', hr5, hk5, hm5⟩
    have e0 : w5.cell? ⟨w4.heap.size, 0, none⟩ = some (.int .i64 (takeH l).1) := hk5.cellS (p := ⟨w4.heap.size, 0, none⟩) (by simp) HNG.out
    have e1 : w5.cell? ⟨w4.heap.size, 1, none⟩ = some (.int .i64 (takeH l).2) := hk5.cellS (p := ⟨w4.heap.size, 1, none⟩) (by simp) HNG.out
    have e2 : w4.heap.size < w5.heap.size := by have := hk5.size; simp at this; omega
    have HT5 : Hid (Both w w5 p q F' G' (takeL l)) := Lib.hid (HT.out.moved HS4.out HK4.out HM4.out ((Kept.alloc G w4 _).trans hk5 (fun _ h => .inl h)) (fun k hk => (hm5 k hk).imp id (fun h => by simp at h; omega)) hr5 HT.out.ok.take)
    have HT6 := Lib.hid (HT5.out.later (nb_alloc (Below.refl _ _) (.cells #[.int .i64 (takeH l).1, .int .i64 (takeH l).2] 31)))
    have HE : Hid ((w5.alloc (.cells #[.int .i64 (takeH l).1, .int .i64 (takeH l).2] 31)).cell? ⟨w4.heap.size, 0, none⟩ = some (.int .i64 (takeH l).1) ∧ (w5.alloc (.cells #[.int .i64 (takeH l).1, .int .i64 (takeH l).2] 31)).cell? ⟨w4.heap.size, 1, none⟩ = some (.int .i64 (takeH l).2) ∧ (w5.alloc (.cells #[.int .i64 (takeH l).1, .int .i64 (takeH l).2] 31)).cell? ⟨w5.heap.size, 0, none⟩ = some (.int .i64 (takeH l).1) ∧ (w5.alloc (.cells #[.int .i64 (takeH l).1, .int .i64 (takeH l).2] 31)).cell? ⟨w5.heap.size, 1, none⟩ = some (.int .i64 (takeH l).2)) := Lib.hid ⟨(Kept.alloc (fun _ => False) w5 _).cellS (p := ⟨w4.heap.size, 0, none⟩) e0 id, (Kept.alloc (fun _ => False) w5 _).cellS (p := ⟨w4.heap.size, 1, none⟩) e1 id, by simp, by simp⟩
    have HSZ : Hid (w4.heap.size < (w5.alloc (.cells #[.int .i64 (takeH l).1, .int .i64 (takeH l).2] 31)).heap.size ∧ w5.heap.size < (w5.alloc (.cells #[.int .i64 (takeH l).1, .int .i64 (takeH l).2] 31)).heap.size) := Lib.hid ⟨by simp; omega, by simp⟩
    clear hr5 hk5 hm5 e0 e1 e2 hee
    go_wp2_with fail
    generalize w5.alloc (.cells #[.int .i64 (takeH l).1, .int .i64 (takeH l).2] 31) = W at *
    generalize w4.heap.size = r1 at *
    generalize w5.heap.size = r2 at *
    obtain ⟨vg, cq, hql, hvg⟩ := HT6.out.gens
    have HVG := Lib.hid hvg
    clear hvg
    have HKK : Hid (∀ x, Below W.heap.size W x → (x.cell? ⟨r1, 0, none⟩ = some (.int .i64 (takeH l).1) ∧ x.cell? ⟨r1, 1, none⟩ = some (.int .i64 (takeH l).2) ∧ x.cell? ⟨r2, 0, none⟩ = some (.int .i64 (takeH l).1) ∧ x.cell? ⟨r2, 1, none⟩ = some (.int .i64 (takeH l).2) ∧ x.cell? ⟨q, 0, none⟩ = some vg)) := Lib.hid (fun x hx => ⟨by rw [hx.cell (p := ⟨r1, 0, none⟩) HSZ.out.1]; exact HE.out.1, by rw [hx.cell (p := ⟨r1, 1, none⟩) HSZ.out.1]; exact HE.out.2.1, by rw [hx.cell (p := ⟨r2, 0, none⟩) HSZ.out.2]; exact HE.out.2.2.1, by rw [hx.cell (p := ⟨r2, 1, none⟩) HSZ.out.2]; exact HE.out.2.2.2, by rw [hx.cell (p := ⟨q, 0, none⟩) hql]; exact cq⟩)
    obtain ⟨ck0, ck1, ck2, ck3, ck4⟩ := HKK.out W (Below.refl _ _)
    go_region_held3 (fun x => (x.cell? ⟨r1, 0, none⟩ = some (.int .i64 (takeH l).1) ∧ x.cell? ⟨r1, 1, none⟩ = some (.int .i64 (takeH l).2) ∧ x.cell? ⟨r2, 0, none⟩ = some (.int .i64 (takeH l).1) ∧ x.cell? ⟨r2, 1, none⟩ = some (.int .i64 (takeH l).2) ∧ x.cell? ⟨q, 0, none⟩ = some vg)) (first | go_keep | exact HKK.out _ HX1.out | exact HKK.out _ HX2.out | exact HKK.out _ HX3.out | exact HKK.out _ HX4.out | exact HKK.out _ HX5.out) (first
      | ((go_at_call 14; refine (all_any p F' _ _ (HT6.out.later (Below.refl _ _).drew).s HT6.out.ok).mono ?_; rintro e x1 ⟨v1, rfl, ho1, hb1'⟩; have HX1 : Hid (Below W.heap.size W x1) := Lib.hid (nb_trans (Below.refl _ _).drew hb1'); have HO1 := Lib.hid ho1.reads; clear ho1 hb1'))
      | ((go_at_call 15; refine (refAll_any q _ [] G' _ _ (HT6.out.later HX1.out).r HT6.out.ok).mono ?_; rintro e x2 ⟨v2, rfl, ho2, hb2'⟩; have HX2 : Hid (Below W.heap.size W x2) := Lib.hid (nb_trans HX1.out hb2'); have HO2 := Lib.hid ho2.reads; have HO1' := Lib.hid (HO1.out.later hb2'); clear ho2 hb2'))
      | ((go_at_call 13; refine (eqHand_any _ _ _ _ _ HO1'.out HO2.out).mono ?_; rintro e x3 ⟨rfl, hb3'⟩; rw [decide_eq_true rfl]; have HX3 : Hid (Below W.heap.size W x3) := Lib.hid (nb_trans HX2.out hb3'); clear hb3'))
      | ((go_at_call 17; refine (gens_any p F' _ _ (HT6.out.later HX3.out).s HT6.out.ok).mono ?_; rintro e x4 ⟨v4, rfl, ho4, hb4'⟩; have HX4 : Hid (Below W.heap.size W x4) := Lib.hid (nb_trans HX3.out hb4'); have HO4 := Lib.hid (Ints.ofReads ho4.reads); clear ho4 hb4'))
      | ((go_at_call 16; refine (eqInt_any _ _ _ _ _ HO4.out (HVG.out _ HX4.out)).mono ?_; rintro e x5 ⟨rfl, hx5⟩; rw [decide_eq_true rfl]; have HX5 : Hid (Below W.heap.size W x5) := Lib.hid (by rw [← hx5]; exact HX4.out); clear hx5)))
    go_wp2
    go_ret
    exact ⟨rfl, nb_trans HT6.out.below HX5.out⟩
  · obtain rfl := HN1.out h0
    obtain rfl := HN2.out h0
    clear HS1 HS2 HN1 HN2 h0
    generalize ldE z0 z1 = er at *
    go_wp2
    go_ret
    exact ⟨rfl, nb_trans (nb_trans HB1.out HB2.out) HB3.out⟩

namespace slotsLoads
theorem own : ownKnob Try.prog.godebug = none := by kernel_rfl
theorem laidOut : laidOutB Try.prog = true := by kernel_rfl

set_option maxRecDepth 100000 in
theorem lifted (os : Os) (started : os.Started) (H : Type) (enc : TypeId × Value → H) :
    ReturnsInHanded {} Try.checked os 4 .any (Rows.slotsLoadsSpec.pre6 enc Try.prog Try.f4 Rows.slotsLoadsRow.domain false) (Rows.slotsLoadsSpec.post enc Try.prog Try.f4 false true false false) := by
  refine returnsInHanded_of_change (C := Try.checked) own started (by kernel_rfl) Try.func4
    (ChangeSpec.witness6 (enc := enc) (C := Try.checked) false ⟨#[], #[.slice none 0 0, .slice none 0 0], []⟩ 8 (by kernel_rfl) (by kernel_rfl) (by kernel_rfl) (by kernel_rfl)) ?_
  intro W base args ds gs before hval0 hW hcnd _
  have hval : ∀ (j : Nat) t v, Try.f4.params[j]? = some t → args[j]? = some v → Value.okWide Try.prog W .any base t v := hval0
  have hW' := hW
  obtain ⟨p, q, hA0, hV, rfl, hfz, hnd⟩ := hW
  have hA : DataW.TrodAll enc Try.prog W 0 (fun _ => true) true Try.f4.params.toList args.toList ds p := hA0
  rw [Try.params4] at hA hval
  obtain ⟨v0, vs0, d0, ds0, p0, q0, hargs, rfl, rfl, h0, r0⟩ := trodAll_cons hA
  obtain ⟨v1, vs1, d1, ds1, p1, q1, rfl, rfl, rfl, h1, r1⟩ := trodAll_cons r0
  obtain ⟨rfl, rfl, rfl⟩ := trodAll_nil r1
  obtain rfl : args = #[v0, v1] := by cases args; simp_all
  obtain ⟨rfl, rfl⟩ := trodVars_none hV
  have k0' := h0
  have lt0 : ∀ x ∈ p0, x.block < W.heap.size := by obtain ⟨m, hm⟩ := h0; exact DataW.trod_lt m _ _ _ hm
  have k1' := h1
  have lt1 : ∀ x ∈ p1, x.block < W.heap.size := by obtain ⟨m, hm⟩ := h1; exact DataW.trod_lt m _ _ _ hm
  obtain ⟨z0, i0⟩ : ∃ zs, Ints W v0 zs := by
    obtain ⟨a0, len0, cap0, rfl⟩ := okWide_slice Try.underlying27 (hval 0 27 v0 rfl rfl)
    exact Ints_of Try.underlying27 Try.underlying3 (by kernel_rfl) h0
  obtain ⟨z1, i1⟩ : ∃ zs, Ints W v1 zs := by
    obtain ⟨a0, len0, cap0, rfl⟩ := okWide_slice Try.underlying27 (hval 1 27 v1 rfl rfl)
    exact Ints_of Try.underlying27 Try.underlying3 (by kernel_rfl) h1
  clear hA0 hval0
  refine (slotsLoads_walk v0 z0 v1 z1 W i0 i1).mono fun e W' ⟨he, bel⟩ => ?_
  subst he
  exact ⟨_, rfl, _, _, _, [], _, [], hW', trodAll_mk1 (shut_bool Try.underlying4 _), (trodAll_cons_mk (Below.trod laidOut (by kernel_rfl) (of_decide_eq_true (by kernel_rfl)) k0' bel lt0) (trodAll_cons_mk (Below.trod laidOut (by kernel_rfl) (of_decide_eq_true (by kernel_rfl)) k1' bel lt1) trodAll_mk0)), rfl, bel.frame _, fun h => by cases h⟩
end slotsLoads

theorem slotsLoads_proved : Rows.SlotsLoadsSaid :=
  OpenClaim.holds_of_wide 4 Try.f4 rfl rfl rfl rfl rfl rfl rfl ⟨rfl, rfl, rfl, rfl, rfl⟩ rfl rfl rfl rfl rfl (by kernel_rfl) Try.func4 (by kernel_rfl)
    (of_decide_eq_true (by kernel_rfl)) (by unfold Func.isWrapper; first | (rw [if_pos (by decide +kernel)]; kernel_rfl) | (rw [if_neg (by decide +kernel)]; exact ⟨rfl, rfl⟩))
    (fun os started H enc _ => slotsLoads.lifted os started H enc)

end Go.Proofs.Ytdaefadapkkgjaa

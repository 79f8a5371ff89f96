/- A world that Load makes returns the results of the reference's, for all arguments and behind any operation: the statement WorldLoads. No condition. -/
import Derived.Test.YtlclceiebnnpgaaGreatGroundA
import Derived.Test.YtlclceiebnnpgaaGreatLawDid
import Derived.Test.YtlclceiebnnpgaaGreatRefWorldLoad
import Derived.Test.YtlclceiebnnpgaaGreatWorldLoad
import Derived.Test.YtlclceiebnnpgaaGreatRowEq
import Derived.Test.YtlclceiebnnpgaaGreatWorldRowsOf
import Derived.Deep.RegionHeld3
namespace Go.Proofs.YtlclceiebnnpgaaGreat
set_option maxRecDepth 8000
open Go.ChangeShapes Go.WideShapes Go.ChangeAt Go.RowKit
set_option linter.unusedVariables false

theorem Ints.oneW (w : World) (x : Int) (t : TypeId) : Ints (w.alloc (.cells #[.int .i64 x] t)) (.slice (some ⟨w.heap.size, 0, none⟩) 1 1) [x] := by
  refine ⟨_, 1, rfl, by simp, by simp [maxLen], fun k hk => ⟨_, _, rfl, by simp, ?_⟩⟩
  simp at hk
  subst hk
  simp

set_option maxRecDepth 100000 in
set_option maxHeartbeats 8000000 in
theorem worldLoads_walk (u0 : Value) (z0 : List Int)  (u1 : Value) (z1 : List Rw)  (o2 : Opm) (i2 : OpOk o2) (w : World) (i0 : Ints w u0 z0) (i1 : Reads elRow w u1 z1) :
    Calls Tryz.prog 3 #[u0, u1, .agg #[.int .i64 o2.d, .int .i64 o2.m, .int .i64 (o2.f 0), .int .i64 (o2.f 1), .int .i64 (o2.f 2), .int .i64 (o2.f 3), .int .i64 (o2.f 4), .int .i64 (o2.f 5), .int .i64 (o2.f 6), .int .i64 (o2.f 7), .int .i64 o2.a, .int .i64 o2.b, .int .i64 o2.ta, .int .i64 o2.tb, .int .i64 o2.k, .int .i64 o2.n]] w fun e w' => e = .returned (.bool true) ∧ Below w.heap.size w w' := by
  have HG := Lib.hid i0
  have HR := Lib.hid i1
  have HOP := Lib.hid i2
  clear i0 i1 i2
  have H1 : Hid (wldE [-1] [] = 1) := Lib.hid (by decide)
  have hX : Below w.heap.size w (w.alloc (.cells #[.int .i64 o2.d, .int .i64 o2.m, .int .i64 (o2.f 0), .int .i64 (o2.f 1), .int .i64 (o2.f 2), .int .i64 (o2.f 3), .int .i64 (o2.f 4), .int .i64 (o2.f 5), .int .i64 (o2.f 6), .int .i64 (o2.f 7), .int .i64 o2.a, .int .i64 o2.b, .int .i64 o2.ta, .int .i64 o2.tb, .int .i64 o2.k, .int .i64 o2.n] 30)) := nb_alloc (Below.refl _ _) _
  have HX := Lib.hid hX
  have HXB : Hid ((w.alloc (.cells #[.int .i64 o2.d, .int .i64 o2.m, .int .i64 (o2.f 0), .int .i64 (o2.f 1), .int .i64 (o2.f 2), .int .i64 (o2.f 3), .int .i64 (o2.f 4), .int .i64 (o2.f 5), .int .i64 (o2.f 6), .int .i64 (o2.f 7), .int .i64 o2.a, .int .i64 o2.b, .int .i64 o2.ta, .int .i64 o2.tb, .int .i64 o2.k, .int .i64 o2.n] 30)).heap[w.heap.size]? = some (.cells #[.int .i64 o2.d, .int .i64 o2.m, .int .i64 (o2.f 0), .int .i64 (o2.f 1), .int .i64 (o2.f 2), .int .i64 (o2.f 3), .int .i64 (o2.f 4), .int .i64 (o2.f 5), .int .i64 (o2.f 6), .int .i64 (o2.f 7), .int .i64 o2.a, .int .i64 o2.b, .int .i64 o2.ta, .int .i64 o2.tb, .int .i64 o2.k, .int .i64 o2.n] 30)) := Lib.hid (heap_alloc_new _ _)
  clear hX
  have hee : (wldE z0 z1 != wldE z0 z1) = false := by simp
  go_enter Tryz.func3, Tryz.ntmps3
  go_wp2_with fail
  generalize (w.alloc (.cells #[.int .i64 o2.d, .int .i64 o2.m, .int .i64 (o2.f 0), .int .i64 (o2.f 1), .int .i64 (o2.f 2), .int .i64 (o2.f 3), .int .i64 (o2.f 4), .int .i64 (o2.f 5), .int .i64 (o2.f 6), .int .i64 (o2.f 7), .int .i64 o2.a, .int .i64 o2.b, .int .i64 o2.ta, .int .i64 o2.tb, .int .i64 o2.k, .int .i64 o2.n] 30)) = X at *
  refine (worldLoad_any _ _ z0 z1 _ (HG.out.later HX.out) (HR.out.later HX.out)).mono ?_
  rintro e w1 ⟨u1, rfl, hb1, hn1, hs1⟩
  have HB1 := Lib.hid (nb_trans HX.out hb1)
  have HBX1 := Lib.hid hb1
  have HN1 := Lib.hid hn1
  have HS1 := Lib.hid hs1
  clear hb1 hn1 hs1
  go_wp2_with fail
  refine (refWorldLoad_any _ _ z0 z1 _ (HG.out.later HB1.out) (HR.out.later HB1.out)).mono ?_
  rintro e w2 ⟨u2, rfl, hb2, hn2, hs2⟩
  have HB2 := Lib.hid hb2
  have HN2 := Lib.hid hn2
  have HS2 := Lib.hid hs2
  clear hb2 hn2 hs2
  go_wp2_with fail
  refine (worldLoad_any _ _ [-1] [] _ (Ints.oneW _ _ _) (Owns.nil elRow _ 45).reads).mono ?_
  rintro e w3 ⟨u3, rfl, hb3, -, -⟩
  rw [H1.out]
  have HB3 := Lib.hid (nb_trans (nb_alloc (Below.refl w2.heap.size w2) (.cells #[.int .i64 (-1)] 3)) hb3)
  clear hb3
  by_cases h0 : wldE z0 z1 = 0
  · obtain ⟨p, F, rfl, hs, hF⟩ := HS1.out h0
    obtain ⟨q, G, rfl, hr, hG⟩ := HS2.out h0
    obtain ⟨hok, hmem⟩ := WOk.load h0
    have HW3 : Hid (WldAt w3 p F (mkL z0 (sNums z1)) (· ∈ sortR z0.length z1)) := Lib.hid (((hs.later HB2.out).later HB3.out).congr (fun r => (hmem r).symm))
    have HZ3 := Lib.hid (hr.later HB3.out)
    have HAP : Hid (∀ b, F b → ¬ G b) := Lib.hid (fun k hf hg => by have := hs.lt k hf; have := hG k hg; omega)
    have HFB : Hid (∀ b, F b → X.heap.size ≤ b) := Lib.hid hF
    have HGB : Hid (∀ b, G b → X.heap.size ≤ b) := Lib.hid (fun k hk => by have := hG k hk; have := HBX1.out.size; omega)
    have HOK := Lib.hid hok
    have HB13 : Hid (Below X.heap.size X w3) := Lib.hid (nb_trans (nb_trans HBX1.out HB2.out) HB3.out)
    have hx3 : w3.heap[w.heap.size]? = some (.cells #[.int .i64 o2.d, .int .i64 o2.m, .int .i64 (o2.f 0), .int .i64 (o2.f 1), .int .i64 (o2.f 2), .int .i64 (o2.f 3), .int .i64 (o2.f 4), .int .i64 (o2.f 5), .int .i64 (o2.f 6), .int .i64 (o2.f 7), .int .i64 o2.a, .int .i64 o2.b, .int .i64 o2.ta, .int .i64 o2.tb, .int .i64 o2.k, .int .i64 o2.n] 30) := by rw [HB13.out.block _ (Array.getElem?_eq_some_iff.1 HXB.out).1]; exact HXB.out
    have hx3l := (Array.getElem?_eq_some_iff.1 hx3).1
    have y0 : w3.cell? ⟨w.heap.size, 0, none⟩ = some (.int .i64 o2.d) := by rw [cell_of_row _ _ _ _ _ _ hx3]; rfl
    have y1 : w3.cell? ⟨w.heap.size, 1, none⟩ = some (.int .i64 o2.m) := by rw [cell_of_row _ _ _ _ _ _ hx3]; rfl
    have y2 : w3.cell? ⟨w.heap.size, 2, none⟩ = some (.int .i64 (o2.f 0)) := by rw [cell_of_row _ _ _ _ _ _ hx3]; rfl
    have y3 : w3.cell? ⟨w.heap.size, 3, none⟩ = some (.int .i64 (o2.f 1)) := by rw [cell_of_row _ _ _ _ _ _ hx3]; rfl
    have y4 : w3.cell? ⟨w.heap.size, 4, none⟩ = some (.int .i64 (o2.f 2)) := by rw [cell_of_row _ _ _ _ _ _ hx3]; rfl
    have y5 : w3.cell? ⟨w.heap.size, 5, none⟩ = some (.int .i64 (o2.f 3)) := by rw [cell_of_row _ _ _ _ _ _ hx3]; rfl
    have y6 : w3.cell? ⟨w.heap.size, 6, none⟩ = some (.int .i64 (o2.f 4)) := by rw [cell_of_row _ _ _ _ _ _ hx3]; rfl
    have y7 : w3.cell? ⟨w.heap.size, 7, none⟩ = some (.int .i64 (o2.f 5)) := by rw [cell_of_row _ _ _ _ _ _ hx3]; rfl
    have y8 : w3.cell? ⟨w.heap.size, 8, none⟩ = some (.int .i64 (o2.f 6)) := by rw [cell_of_row _ _ _ _ _ _ hx3]; rfl
    have y9 : w3.cell? ⟨w.heap.size, 9, none⟩ = some (.int .i64 (o2.f 7)) := by rw [cell_of_row _ _ _ _ _ _ hx3]; rfl
    have y10 : w3.cell? ⟨w.heap.size, 10, none⟩ = some (.int .i64 o2.a) := by rw [cell_of_row _ _ _ _ _ _ hx3]; rfl
    have y11 : w3.cell? ⟨w.heap.size, 11, none⟩ = some (.int .i64 o2.b) := by rw [cell_of_row _ _ _ _ _ _ hx3]; rfl
    have y12 : w3.cell? ⟨w.heap.size, 12, none⟩ = some (.int .i64 o2.ta) := by rw [cell_of_row _ _ _ _ _ _ hx3]; rfl
    have y13 : w3.cell? ⟨w.heap.size, 13, none⟩ = some (.int .i64 o2.tb) := by rw [cell_of_row _ _ _ _ _ _ hx3]; rfl
    have y14 : w3.cell? ⟨w.heap.size, 14, none⟩ = some (.int .i64 o2.k) := by rw [cell_of_row _ _ _ _ _ _ hx3]; rfl
    have y15 : w3.cell? ⟨w.heap.size, 15, none⟩ = some (.int .i64 o2.n) := by rw [cell_of_row _ _ _ _ _ _ hx3]; rfl
    clear hs hF hr hG HS1 HS2 HN1 HN2 HG HR hok hmem HB1 HB2 HB3 HBX1 HXB hx3 H1
    generalize mkL z0 (sNums z1) = l at *
    generalize sortR z0.length z1 = rows at *
    generalize wldE z0 z1 = er at *
    subst h0
    go_wp2_with fail
    refine (did_any p q F G l rows _ o2 _ HW3.out HZ3.out HAP.out HOK.out HOP.out).mono ?_
    rintro e w4 ⟨rfl, F4, G4, h4, z4, ap4, k4, m4, n4⟩
    have HW4 := Lib.hid h4
    have HZ4 := Lib.hid z4
    have HOK4 := Lib.hid (HOK.out.step o2)
    have HB4 : Hid (Below X.heap.size X w4) := Lib.hid (HB13.out.trans (k4.below HB13.out.size (fun b' hb' => hb'.elim (HFB.out b') (HGB.out b'))))
    clear h4 z4 ap4 k4 m4 n4 y0 y1 y2 y3 y4 y5 y6 y7 y8 y9 y10 y11 y12 y13 y14 y15 hx3l HW3 HZ3
    generalize stepL l o2 = l4 at *
    generalize stepR l rows o2 = rows4 at *
    go_wp2_with fail
    refine (worldRows_any p F4 l4 rows4 0 0 0 _ HW4.out HOK4.out).mono ?_
    rintro e w5 ⟨v5, rfl, ho5, hb5⟩
    rw [rowsQ_all] at ho5
    rw [show qErr 0 0 0 = 0 by decide]
    have HO5 := Lib.hid ho5.reads
    have HW5 := Lib.hid (HW4.out.later hb5)
    obtain ⟨c5, vL, hz5⟩ := HZ4.out.later hb5
    obtain ⟨vg, vl, hqh, hvg, -⟩ := hz5.slots
    have hq5l := (Array.getElem?_eq_some_iff.1 hqh).1
    have cq0 : w5.cell? ⟨q, 0, none⟩ = some vg := by rw [cell_of_row _ _ _ _ _ _ hqh]; rfl
    have cq2 : w5.cell? ⟨q, 2, none⟩ = some vL := by rw [cell_of_row _ _ _ _ _ _ hqh]; rfl
    have HVG := Lib.hid hvg.reads
    have HVL := Lib.hid hz5.own.reads
    have HBN : Hid (Below w.heap.size w w5) := Lib.hid (nb_trans HX.out (nb_trans HB4.out hb5))
    have HKK : Hid (∀ x, Below w5.heap.size w5 x → (x.cell? ⟨q, 0, none⟩ = some vg ∧ x.cell? ⟨q, 2, none⟩ = some vL)) := Lib.hid (fun x hx => ⟨by rw [hx.cell (p := ⟨q, 0, none⟩) hq5l]; exact cq0, by rw [hx.cell (p := ⟨q, 2, none⟩) hq5l]; exact cq2⟩)
    clear hz5 hqh hvg ho5 hb5 HW4 HZ4
    go_wp2_with fail
    go_region_held3 (fun x => (x.cell? ⟨q, 0, none⟩ = some vg ∧ x.cell? ⟨q, 2, none⟩ = some vL)) (first | go_keep | exact HKK.out _ HX1.out | exact HKK.out _ HX2.out | exact HKK.out _ HX3.out) (first
      | ((go_at_call 8; refine (eqRow_same _ _ rows4 _ (HO5.out.later (Below.refl _ _).drew) (HVL.out.later (Below.refl _ _).drew)).mono ?_; rintro e x1 ⟨rfl, hb1'⟩; have HX1 : Hid (Below w5.heap.size w5 x1) := Lib.hid (nb_trans (Below.refl _ _).drew hb1'); clear hb1'))
      | ((go_at_call 10; refine (worldGens_any p F4 l4 _ _ (HW5.out.later HX1.out) HOK4.out.slots).mono ?_; rintro e x2 ⟨v2, rfl, ho2, hb2'⟩; have HX2 : Hid (Below w5.heap.size w5 x2) := Lib.hid (nb_trans HX1.out hb2'); have HO2 := Lib.hid (Ints.ofReads ho2.reads); clear ho2 hb2'))
      | ((go_at_call 9; refine (eqInt_any _ _ _ _ _ HO2.out (Ints.ofReads (HVG.out.later HX2.out))).mono ?_; rintro e x3 ⟨rfl, hx3⟩; rw [decide_eq_true rfl]; have HX3 : Hid (Below w5.heap.size w5 x3) := Lib.hid (by rw [← hx3]; exact HX2.out); clear hx3))
      | fail "none")
    go_wp2
    go_ret
    exact ⟨rfl, nb_trans HBN.out HX3.out⟩
  · obtain rfl := HN1.out h0
    obtain rfl := HN2.out h0
    have HBN : Hid (Below w.heap.size w w3) := Lib.hid (nb_trans (nb_trans HB1.out HB2.out) HB3.out)
    clear HS1 HS2 HN1 HN2 h0
    generalize wldE z0 z1 = er at *
    go_wp2
    go_ret
    exact ⟨rfl, HBN.out⟩

namespace worldLoads
theorem own : ownKnob Tryz.prog.godebug = none := by kernel_rfl
theorem laidOut : laidOutB Tryz.prog = true := by kernel_rfl

set_option maxRecDepth 100000 in
set_option maxHeartbeats 4000000 in
theorem lifted (os : Os) (started : os.Started) (H : Type) (enc : TypeId × Value → H) :
    ReturnsInHanded {} Tryz.checked os 3 .any (Rows.worldLoadsSpec.pre6 enc Tryz.prog Tryz.f3 Rows.worldLoadsRow.domain false) (Rows.worldLoadsSpec.post enc Tryz.prog Tryz.f3 false true false false) := by
  refine returnsInHanded_of_change (C := Tryz.checked) own started (by kernel_rfl) Tryz.func3
    (ChangeSpec.witness6 (enc := enc) (C := Tryz.checked) false ⟨#[], #[.slice none 0 0, .slice none 0 0, .agg #[.int .i64 0, .int .i64 0, .int .i64 0, .int .i64 0, .int .i64 0, .int .i64 0, .int .i64 0, .int .i64 0, .int .i64 0, .int .i64 0, .int .i64 0, .int .i64 0, .int .i64 0, .int .i64 0, .int .i64 0, .int .i64 0]], []⟩ 8 (by kernel_rfl) (by kernel_rfl) (by kernel_rfl) (by kernel_rfl)) ?_
  intro W base args ds gs before hval0 hW hcnd _
  have hval : ∀ (j : Nat) t v, Tryz.f3.params[j]? = some t → args[j]? = some v → Value.okWide Tryz.prog W .any base t v := hval0
  have hW' := hW
  obtain ⟨p, q, hA0, hV, rfl, hfz, hnd⟩ := hW
  have hA : DataW.TrodAll enc Tryz.prog W 0 (fun _ => true) true Tryz.f3.params.toList args.toList ds p := hA0
  rw [Tryz.params3] at hA hval
  obtain ⟨v0, vs0, d0, ds0, p0, q0, hargs, rfl, rfl, h0, r0⟩ := trodAll_cons hA
  obtain ⟨v1, vs1, d1, ds1, p1, q1, rfl, rfl, rfl, h1, r1⟩ := trodAll_cons r0
  obtain ⟨v2, vs2, d2, ds2, p2, q2, rfl, rfl, rfl, h2, r2⟩ := trodAll_cons r1
  obtain ⟨rfl, rfl, rfl⟩ := trodAll_nil r2
  obtain rfl : args = #[v0, v1, v2] := by cases args; simp_all
  obtain ⟨rfl, rfl⟩ := trodVars_none hV
  have k0' := h0
  have lt0 : ∀ x ∈ p0, x.block < W.heap.size := by obtain ⟨m, hm⟩ := h0; exact DataW.trod_lt m _ _ _ hm
  have k1' := h1
  have lt1 : ∀ x ∈ p1, x.block < W.heap.size := by obtain ⟨m, hm⟩ := h1; exact DataW.trod_lt m _ _ _ hm
  have k2' := h2
  have lt2 : ∀ x ∈ p2, x.block < W.heap.size := by obtain ⟨m, hm⟩ := h2; exact DataW.trod_lt m _ _ _ hm
  obtain ⟨z0, i0⟩ : ∃ zs, Ints W v0 zs := by
    obtain ⟨a0, len0, cap0, rfl⟩ := okWide_slice Tryz.underlying22 (hval 0 22 v0 rfl rfl)
    exact Ints_of Tryz.underlying22 Tryz.underlying3 (by kernel_rfl) h0
  obtain ⟨z1, i1⟩ : ∃ zs, Reads elRow W v1 zs := by
    obtain ⟨a0, len0, cap0, rfl⟩ := okWide_slice Tryz.underlying23 (hval 1 23 v1 rfl rfl)
    exact Reads_of elRow Tryz.underlying23 (by kernel_rfl) row_dec h1
  obtain ⟨o2, rfl, i2⟩ : ∃ o : Opm, v2 = .agg #[.int .i64 o.d, .int .i64 o.m, .int .i64 (o.f 0), .int .i64 (o.f 1), .int .i64 (o.f 2), .int .i64 (o.f 3), .int .i64 (o.f 4), .int .i64 (o.f 5), .int .i64 (o.f 6), .int .i64 (o.f 7), .int .i64 o.a, .int .i64 o.b, .int .i64 o.ta, .int .i64 o.tb, .int .i64 o.k, .int .i64 o.n] ∧ OpOk o := by
    obtain ⟨zs, hl, rfl, hz⟩ := open_flat 5 16 Tryz.underlying30 (by kernel_rfl) (by kernel_rfl) (hval 2 30 v2 rfl rfl) h2
    obtain ⟨y0, y1, y2, y3, y4, y5, y6, y7, y8, y9, y10, y11, y12, y13, y14, y15, rfl⟩ := list16 hl
    exact ⟨⟨y0, y1, fun j => [y2, y3, y4, y5, y6, y7, y8, y9].getD j 0, y10, y11, y12, y13, y14, y15⟩, rfl, hz y10 (by simp), hz y11 (by simp), hz y12 (by simp), hz y13 (by simp)⟩
  clear hA0 hval0
  refine (worldLoads_walk v0 z0 v1 z1 o2 i2 W i0 i1).mono fun e W' ⟨he, bel⟩ => ?_
  subst he
  exact ⟨_, rfl, _, _, _, [], _, [], hW', trodAll_mk1 (shut_bool Tryz.underlying4 _), (trodAll_cons_mk (Below.trod laidOut (by kernel_rfl) (of_decide_eq_true (by kernel_rfl)) k0' bel lt0) (trodAll_cons_mk (Below.trod laidOut (by kernel_rfl) (of_decide_eq_true (by kernel_rfl)) k1' bel lt1) (trodAll_cons_mk (Below.trod laidOut (by kernel_rfl) (of_decide_eq_true (by kernel_rfl)) k2' bel lt2) trodAll_mk0))), rfl, bel.frame _, fun h => by cases h⟩
end worldLoads

theorem worldLoads_proved : Rows.WorldLoadsSaid :=
  OpenClaim.holds_of_wide 3 Tryz.f3 rfl rfl rfl rfl rfl rfl rfl ⟨rfl, rfl, rfl, rfl, rfl⟩ rfl rfl rfl rfl rfl (by kernel_rfl) Tryz.func3 (by kernel_rfl)
    (of_decide_eq_true (by kernel_rfl)) (by unfold Func.isWrapper; first | (rw [if_pos (by decide +kernel)]; kernel_rfl) | (rw [if_neg (by decide +kernel)]; exact ⟨rfl, rfl⟩))
    (fun os started H enc _ => worldLoads.lifted os started H enc)

end Go.Proofs.YtlclceiebnnpgaaGreat

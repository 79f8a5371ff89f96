/- A loaded zoo is as the reference's: errors, and states: the statement ZooLoads. No condition. -/
import Derived.Test.YtbdkmmbhblpjoaaGreatGroundA
import Derived.Test.YtbdkmmbhblpjoaaGreatGroundD
import Derived.Test.YtbdkmmbhblpjoaaGreatZooRefLoad
import Derived.Test.YtbdkmmbhblpjoaaGreatKeepSame
import Derived.Test.YtbdkmmbhblpjoaaGreatOfBlock
namespace Go.Proofs.YtbdkmmbhblpjoaaGreat
set_option maxRecDepth 8000
open Go.ChangeShapes Go.WideShapes Go.ChangeAt Go.RowKit Go.Deep
set_option linter.unusedVariables false

theorem slice_of {H : Type} {enc : TypeId × Value → H} {P : Program} {W : World} {base : Nat} {sp : Nat → Bool} {held : Bool} {T e : TypeId} {m : Nat} {v : Value} {y : DataW H × List MemPlace} (hT : P.underlying T = some (.slice e)) (h : DataW.trod enc P W base sp held m T [v] = some y) : ∃ a l k, v = .slice a l k := by
  rcases open_slice hT h with ⟨hcs, _⟩ | ⟨x, l, c, m, n, D, Pl, hcs, _⟩
  · exact ⟨_, _, _, by simpa using hcs⟩
  · exact ⟨_, _, _, by simpa using hcs⟩
theorem bond_dec {H : Type} {enc : TypeId × Value → H} {W : World} {base : Nat} {sp : Nat → Bool} {held : Bool} (fuel : Nat) (cs : List Value) (x) (hl : cs.length = elBond.size) (h : DataW.trod enc Tryz.prog W base sp held fuel 76 cs = some x) : ∃ y, cs = elBond.enc y := by
  obtain ⟨zs, rfl, _⟩ := ints_of_cells cs (flat_cells 5 76 fuel cs x (by kernel_rfl) h)
  have hl' : zs.length = 4 := by simpa [elBond] using hl
  match zs, hl' with
  | [a, b, c, d], _ => exact ⟨((a, b), (c, d)), rfl⟩

set_option maxRecDepth 100000 in
set_option maxHeartbeats 8000000 in
theorem zooLoads_walk (ug0 ur0 ub0 : Value) (zg0 : List Int) (zr0 : List Rw) (zb0 : List Bd) (w : World) (ig0 : Ints w ug0 zg0) (ir0 : Reads elRow w ur0 zr0) (ib0 : Reads elBond w ub0 zb0) :
    Calls Tryz.prog 6 #[.agg #[ug0, ur0, ub0]] w fun e w' => e = .returned (.bool true) ∧ Below w.heap.size w w' := by
  have HG := Lib.hid ig0
  have HR := Lib.hid ir0
  have HBB := Lib.hid ib0
  obtain ⟨ga, gc, gn, hge⟩ : ∃ a k c, ug0 = .slice a k c := by
    rcases ig0.open.2 with ⟨a, c, e, _⟩ | ⟨b, off, c, e, _⟩
    · exact ⟨_, _, _, e⟩
    · exact ⟨_, _, _, e⟩
  obtain ⟨ra, rc, hre, -⟩ := ir0
  obtain ⟨ba, bc, hbe, -⟩ := ib0
  subst hge hre hbe
  have HX : Hid (Below w.heap.size w (w.alloc (.cells #[.slice ga gc gn, .slice ra zr0.length rc, .slice ba zb0.length bc] 46))) := Lib.hid (nb_alloc (Below.refl _ _) _)
  have HXB : Hid ((w.alloc (.cells #[.slice ga gc gn, .slice ra zr0.length rc, .slice ba zb0.length bc] 46)).heap[w.heap.size]? = some (.cells #[.slice ga gc gn, .slice ra zr0.length rc, .slice ba zb0.length bc] 46)) := Lib.hid (heap_alloc_new _ _)
  clear ig0
  go_enter Tryz.func6, Tryz.ntmps6
  go_wp2_with fail
  generalize w.alloc (.cells #[.slice ga gc gn, .slice ra zr0.length rc, .slice ba zb0.length bc] 46) = X at *
  refine (zooLoad_any _ _ _ zg0 zr0 zb0 _ (HG.out.later HX.out) (HR.out.later HX.out) (HBB.out.later HX.out)).mono ?_
  rintro e w1 ⟨u1, rfl, hb1, hbad1, hgood1⟩
  have HB1 := Lib.hid hb1
  have hq : w1.heap[w.heap.size]? = some (.cells #[.slice ga gc gn, .slice ra zr0.length rc, .slice ba zb0.length bc] 46) := (hb1.block _ (Array.getElem?_eq_some_iff.1 HXB.out).1).trans HXB.out
  have k0 : w1.cell? ⟨w.heap.size, 0, none⟩ = some (.slice ga gc gn) := (cell_of_row _ _ _ _ _ _ hq).trans rfl
  have k1 : w1.cell? ⟨w.heap.size, 1, none⟩ = some (.slice ra zr0.length rc) := (cell_of_row _ _ _ _ _ _ hq).trans rfl
  have k2 : w1.cell? ⟨w.heap.size, 2, none⟩ = some (.slice ba zb0.length bc) := (cell_of_row _ _ _ _ _ _ hq).trans rfl
  have lq := (Array.getElem?_eq_some_iff.1 hq).1
  have HZO : Hid (zldE zg0 zr0 zb0 = 0 → ZOk (zldZ zg0 zr0 zb0)) := Lib.hid (fun h => ZOk.load h)
  obtain ⟨ze, hze⟩ : ∃ x, zldE zg0 zr0 zb0 = x := ⟨_, rfl⟩
  obtain ⟨zz, hzz⟩ : ∃ x, zldZ zg0 zr0 zb0 = x := ⟨_, rfl⟩
  rw [hze, hzz] at hgood1 HZO
  rw [hze] at hbad1 ⊢
  have HZE : Hid (zldE zg0 zr0 zb0 = ze ∧ zldZ zg0 zr0 zb0 = zz) := Lib.hid ⟨hze, hzz⟩
  have HM1 : Hid (zldE [-1] [] [] = 1) := Lib.hid (by decide)
  have hint : ∀ Y : World, Ints (Y.alloc (.cells #[.int .i64 (-1)] 3)) (.slice (some ⟨Y.heap.size, 0, none⟩) 1 1) [-1] := fun Y => Ints.ofReads (Reads.ofBlock (E := elInt) (xs := [-1]) (heap_alloc_new Y _) (by decide))
  have HINT := Lib.hid hint
  have hnilR : ∀ Y : World, Reads elRow Y (.slice none 0 0) [] := fun Y => ⟨none, 0, rfl, by simp, by simp [maxLen], fun k hk => by simp at hk⟩
  have hnilB : ∀ Y : World, Reads elBond Y (.slice none 0 0) [] := fun Y => ⟨none, 0, rfl, by simp, by simp [maxLen], fun k hk => by simp at hk⟩
  have HNR := Lib.hid hnilR
  have HNB := Lib.hid hnilB
  clear hb1 hq hze hzz hint hnilR hnilB
  by_cases h0 : ze = 0
  · as_aux_lemma =>
    subst h0
    obtain ⟨p, F, rfl, hzp, hF⟩ := hgood1 rfl
    have HZP := Lib.hid hzp
    have HOK := Lib.hid (HZO.out rfl)
    clear hbad1 hgood1 hzp hF
    go_wp2_with fail
    refine (zfLoad_any _ _ _ zg0 zr0 zb0 _ (HG.out.later (nb_trans HX.out HB1.out)) (HR.out.later (nb_trans HX.out HB1.out)) (HBB.out.later (nb_trans HX.out HB1.out))).mono ?_
    rintro e w2 ⟨u2, rfl, hb2, -, hgood2⟩
    rw [HZE.out.1, HZE.out.2] at hgood2
    rw [HZE.out.1]
    obtain ⟨q, G, rfl, hzq, -⟩ := hgood2 rfl
    have HZQ := Lib.hid hzq
    have HB2 := Lib.hid hb2
    clear hgood2 hzq hb2 k0 k1 k2
    go_wp2_with fail
    refine (zooLoad_any _ _ _ [-1] [] [] _ (HINT.out w2) (HNR.out _) (HNB.out _)).mono ?_
    rintro e w3 ⟨u3, rfl, hb3, hbad3, -⟩
    rw [HM1.out] at hbad3 ⊢
    obtain rfl := hbad3 (by decide)
    have HB3 : Hid (Below w2.heap.size w2 w3) := Lib.hid (nb_trans (nb_alloc (Below.refl _ _) _) hb3)
    clear hb3 hbad3
    go_wp2_with fail
    refine (zooState_any p F zz _ (HZP.out.later (nb_trans HB2.out HB3.out)) HOK.out).mono ?_
    rintro e w4 ⟨xg, xr, xb, rfl, hxt, hb4⟩
    have HXT := Lib.hid hxt
    have HB4 := Lib.hid hb4
    clear hxt hb4
    go_wp2_with fail
    refine (zfState q G zz _ (HZQ.out.later (nb_trans HB3.out HB4.out)) HOK.out).mono ?_
    rintro e w5 ⟨yg, yr, yb, rfl, hyt, hb5⟩
    have HYT := Lib.hid hyt
    have HB5 := Lib.hid hb5
    clear hyt hb5
    go_wp2_with fail
    refine (sameSt_any _ (HXT.out.later HB5.out) HYT.out).mono ?_
    rintro e w6 ⟨rfl, hb6⟩
    have HB6 : Hid (Below w.heap.size w w6) := Lib.hid (nb_trans HX.out (nb_trans HB1.out (nb_trans HB2.out (nb_trans HB3.out (nb_trans HB4.out (nb_trans HB5.out hb6))))))
    clear hb6
    go_wp2
    go_ret
    exact ⟨rfl, HB6.out⟩
  · as_aux_lemma =>
    obtain rfl := hbad1 h0
    have hne : (ze == ze) = true := by simp
    clear hbad1 hgood1
    go_wp2_with fail
    refine (zfLoad_any _ _ _ zg0 zr0 zb0 _ (HG.out.later (nb_trans HX.out HB1.out)) (HR.out.later (nb_trans HX.out HB1.out)) (HBB.out.later (nb_trans HX.out HB1.out))).mono ?_
    rintro e w2 ⟨u2, rfl, hb2, hbad2, -⟩
    rw [HZE.out.1] at hbad2 ⊢
    obtain rfl := hbad2 h0
    have HB2 := Lib.hid hb2
    clear hbad2 hb2 k0 k1 k2
    go_wp2_with fail
    refine (zooLoad_any _ _ _ [-1] [] [] _ (HINT.out w2) (HNR.out _) (HNB.out _)).mono ?_
    rintro e w3 ⟨u3, rfl, hb3, hbad3, -⟩
    rw [HM1.out] at hbad3 ⊢
    obtain rfl := hbad3 (by decide)
    have HB3 : Hid (Below w.heap.size w w3) := Lib.hid (nb_trans HX.out (nb_trans HB1.out (nb_trans HB2.out (nb_trans (nb_alloc (Below.refl _ _) _) hb3))))
    clear hb3 hbad3
    go_wp2
    go_ret
    exact ⟨rfl, HB3.out⟩

namespace zooLoads
theorem own : ownKnob Tryz.prog.godebug = none := by kernel_rfl
theorem laidOut : laidOutB Tryz.prog = true := by kernel_rfl

set_option maxRecDepth 100000 in
set_option maxHeartbeats 4000000 in
theorem lifted (os : Os) (started : os.Started) (H : Type) (enc : TypeId × Value → H) :
    ReturnsInHanded {} Tryz.checked os 6 .any (Rows.zooLoadsSpec.pre6 enc Tryz.prog Tryz.f6 Rows.zooLoadsRow.domain false) (Rows.zooLoadsSpec.post enc Tryz.prog Tryz.f6 false true false false) := by
  refine returnsInHanded_of_change (C := Tryz.checked) own started (by kernel_rfl) Tryz.func6
    (ChangeSpec.witness6 (enc := enc) (C := Tryz.checked) false ⟨#[], #[.agg #[.slice none 0 0, .slice none 0 0, .slice none 0 0]], []⟩ 8 (by kernel_rfl) (by kernel_rfl) (by kernel_rfl) (by kernel_rfl)) ?_
  intro W base args ds gs before hval0 hW hcnd _
  have hval : ∀ (j : Nat) t v, Tryz.f6.params[j]? = some t → args[j]? = some v → Value.okWide Tryz.prog W .any base t v := hval0
  have hW' := hW
  obtain ⟨p, q, hA0, hV, rfl, hfz, hnd⟩ := hW
  have hA : DataW.TrodAll enc Tryz.prog W 0 (fun _ => true) true Tryz.f6.params.toList args.toList ds p := hA0
  rw [Tryz.params6] at hA hval
  obtain ⟨v0, vs0, d0, ds0, p0, q0, hargs, rfl, rfl, h0, r0⟩ := trodAll_cons hA
  obtain ⟨rfl, rfl, rfl⟩ := trodAll_nil r0
  obtain rfl : args = #[v0] := by cases args; simp_all
  obtain ⟨rfl, rfl⟩ := trodVars_none hV
  have k0' := h0
  have lt0 : ∀ x ∈ p0, x.block < W.heap.size := by obtain ⟨m, hm⟩ := h0; exact DataW.trod_lt m _ _ _ hm
  obtain ⟨ug0, ur0, ub0, zg0, zr0, zb0, rfl, ig0, ir0, ib0⟩ : ∃ (a b c : Value) (zg : List Int) (zr : List Rw) (zb : List Bd), v0 = .agg #[a, b, c] ∧ Ints W a zg ∧ Reads elRow W b zr ∧ Reads elBond W c zb := by
    obtain ⟨c0, c1, c2, y0, y1, y2, m, rfl, _, _, hy0, hy1, hy2⟩ := Go.Joins.open_agg3 Tryz.underlying46 (by kernel_rfl) (show Tryz.prog.cellsOf 46 = 3 by kernel_rfl) (hval 0 46 v0 rfl rfl) h0
    obtain ⟨a0, l0, k0, rfl⟩ := slice_of Tryz.underlying26 hy0
    obtain ⟨a1, l1, k1, rfl⟩ := slice_of Tryz.underlying30 hy1
    obtain ⟨a2, l2, k2, rfl⟩ := slice_of Tryz.underlying31 hy2
    obtain ⟨zg, hg⟩ := Ints_of Tryz.underlying26 Tryz.underlying3 (by kernel_rfl) ⟨m, hy0⟩
    obtain ⟨zr, hr⟩ := Reads_of elRow Tryz.underlying30 (by kernel_rfl) row_dec ⟨m, hy1⟩
    obtain ⟨zb, hb⟩ := Reads_of elBond Tryz.underlying31 (by kernel_rfl) bond_dec ⟨m, hy2⟩
    exact ⟨_, _, _, zg, zr, zb, rfl, hg, hr, hb⟩
  clear hA0 hval0
  refine (zooLoads_walk ug0 ur0 ub0 zg0 zr0 zb0 W ig0 ir0 ib0).mono fun e W' ⟨he, bel⟩ => ?_
  subst he
  exact ⟨_, rfl, _, _, _, [], _, [], hW', trodAll_mk1 (shut_bool Tryz.underlying4 _), (trodAll_cons_mk (Below.trod laidOut (by kernel_rfl) (of_decide_eq_true (by kernel_rfl)) k0' bel lt0) trodAll_mk0), rfl, bel.frame _, fun h => by cases h⟩
end zooLoads

theorem zooLoads_proved : Rows.ZooLoadsSaid :=
  OpenClaim.holds_of_wide 6 Tryz.f6 rfl rfl rfl rfl rfl rfl rfl ⟨rfl, rfl, rfl, rfl, rfl⟩ rfl rfl rfl rfl rfl (by kernel_rfl) Tryz.func6 (by kernel_rfl)
    (of_decide_eq_true (by kernel_rfl)) (by unfold Func.isWrapper; first | (rw [if_pos (by decide +kernel)]; kernel_rfl) | (rw [if_neg (by decide +kernel)]; exact ⟨rfl, rfl⟩))
    (fun os started H enc _ => zooLoads.lifted os started H enc)

end Go.Proofs.YtbdkmmbhblpjoaaGreat

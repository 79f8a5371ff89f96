/- The lines of a printed state; what is cut off is no text unless at a line's end: the statement TextLines. -/
import Derived.Test.YtndhomjfjhohoaaGreatDoorPParse
import Derived.Test.YtndhomjfjhohoaaGreatDoorPTold
import Derived.Test.YtndhomjfjhohoaaGreatDoorCardKit
import Derived.Test.YtndhomjfjhohoaaGreatDoorTextOpen
namespace Go.Proofs.YtndhomjfjhohoaaGreatDoor
set_option maxRecDepth 8000
open Go Go.ChangeShapes Go.WideShapes Go.ChangeAt Go.RowKit
set_option linter.unusedVariables false

theorem text_end (g : List Int) (rs : List Rw) (bs : List Bd) : ∃ x, textT g rs bs = x ++ [10] := ⟨jn 10 (lnsT g rs bs), by rw [textT, jn_lines (by simp [lnsT])]⟩
theorem pa_cut {t : List UInt8} {n : Nat} (hl : t.length ≤ 6000) (hn : n ≤ t.length) (h : 0 < n → t[n - 1]? ≠ some 10) : paE (t.take n) = 9 := by
  have h0 : paE (t.take n) = 0 ∨ paE (t.take n) = 9 := by
    unfold paE
    rw [if_neg (by rw [List.length_take]; omega)]
    cases rdT (t.take n) with
    | none => exact .inr rfl
    | some s =>
      simp only
      split
      · exact .inl rfl
      · exact .inr rfl
  rcases h0 with h0 | h0
  · exfalso
    obtain ⟨-, -, h3⟩ := paE_zero h0
    obtain ⟨x, hx⟩ := text_end (paS (t.take n)).g (paS (t.take n)).r (paS (t.take n)).b
    rw [h3] at hx
    have hlen := congrArg List.length hx
    rw [List.length_take, List.length_append, List.length_singleton] at hlen
    have h4 : (t.take n)[n - 1]? = some 10 := by rw [hx, List.getElem?_append_right (by omega), show n - 1 - x.length = 0 by omega]; rfl
    rw [List.getElem?_take, if_pos (by omega)] at h4
    exact h (by omega) h4
  · exact h0

theorem cut_bs (t : List UInt8) (k : Nat) : (bs t).extract 0 k = bs (t.take k) := by
  apply ByteArray.ext
  simp [bs]
set_option maxRecDepth 100000 in
set_option maxHeartbeats 8000000 in
theorem textLines_walk (ug0 ur0 ub0 : Value) (zg0 : List Int) (zr0 : List Rw) (zb0 : List Bd) (a1 : Int) (i1 : I64 a1) (w : World) (hv : VarsIs w) (ig0 : Ints w ug0 zg0) (ir0 : Reads elRow w ur0 zr0) (ib0 : Reads elBond w ub0 zb0) :
    Calls Tryz.prog 7 #[.agg #[ug0, ur0, ub0], .int .i64 a1] w fun e w' => e = .returned (.bool true) ∧ Below w.heap.size w w' := by
  have HIG := Lib.hid ig0
  have HIR := Lib.hid ir0
  have HIB := Lib.hid ib0
  obtain ⟨ga, gl, gc, hge⟩ : ∃ a k c, ug0 = .slice a k c := by obtain ⟨a, c, e, _⟩ := ig0; exact ⟨_, _, _, e⟩
  obtain ⟨ra, rc, hre, -⟩ := ir0
  obtain ⟨ba, bc, hbe, -⟩ := ib0
  have hX : Below w.heap.size w (w.alloc (.cells #[ug0, ur0, ub0] 26)) := nb_alloc (Below.refl _ _) _
  have hxb : (w.alloc (.cells #[ug0, ur0, ub0] 26)).heap[w.heap.size]? = some (.cells #[ug0, ur0, ub0] 26) := heap_alloc_new _ _
  have HX := Lib.hid hX
  have HXB := Lib.hid hxb
  have HV := Lib.hid hv
  have HTL := Lib.hid (told_any _ (hv.later hX))
  obtain ⟨rl, hrl⟩ : ∃ n, zr0.length = n := ⟨_, rfl⟩
  obtain ⟨bl, hbl⟩ : ∃ n, zb0.length = n := ⟨_, rfl⟩
  have HRL := Lib.hid hrl
  have HBL := Lib.hid hbl
  rw [hrl] at hre
  rw [hbl] at hbe
  clear hX hxb hv ig0 hrl hbl
  subst hge hre hbe
  go_enter Tryz.func7, Tryz.ntmps7
  go_wp2_with (go_at_call 13; refine HTL.out.mono ?_; rintro e W1 ⟨rfl, hb1⟩; refine Hid.out ?_)
  refine Lib.hid ?_
  have HB1 := Lib.hid (nb_trans HX.out hb1)
  have hq1 := (hb1.block _ (Array.getElem?_eq_some_iff.1 HXB.out).1).trans HXB.out
  have HP := Lib.hid (print_any _ _ _ zg0 zr0 zb0 W1 (HIG.out.later HB1.out) (HIR.out.later HB1.out) (HIB.out.later HB1.out) (HV.out.later HB1.out))
  have c0 : W1.cell? ⟨w.heap.size, 0, none⟩ = some (.slice ga gl gc) := by rw [cell_of_row _ _ _ _ _ _ hq1]; rfl
  have c1 : W1.cell? ⟨w.heap.size, 1, none⟩ = some (.slice ra rl rc) := by rw [cell_of_row _ _ _ _ _ _ hq1]; rfl
  have c2 : W1.cell? ⟨w.heap.size, 2, none⟩ = some (.slice ba bl bc) := by rw [cell_of_row _ _ _ _ _ _ hq1]; rfl
  have hpl : w.heap.size < W1.heap.size := (Array.getElem?_eq_some_iff.1 hq1).1
  have HQ1 := Lib.hid hq1
  clear hb1 hq1 HTL
  go_wp2_with (go_at_call 8; refine HP.out.mono ?_; rintro e W2 ⟨rfl, hb2⟩; refine Hid.out ?_)
  refine Lib.hid ?_
  have HB2 := Lib.hid (nb_trans HB1.out hb2)
  have hq2 := (hb2.block _ (Array.getElem?_eq_some_iff.1 HQ1.out).1).trans HQ1.out
  have HQ2 := Lib.hid hq2
  clear c0 c1 c2 hb2 hq2 hpl HP
  obtain ⟨z, hz⟩ : ∃ z, prE zg0 zr0 zb0 = z := ⟨_, rfl⟩
  by_cases hz0 : z = 0
  · subst hz0
    have HT : Hid (prT zg0 zr0 zb0 = textT zg0 zr0 zb0) := Lib.hid (by rw [prT, if_pos hz])
    have HTE := Lib.hid (text_end zg0 zr0 zb0)
    obtain ⟨-, -, hr60, hb60⟩ := Fine.of (prE_load hz).1
    rw [HRL.out] at hr60
    rw [HBL.out] at hb60
    have HTC : Hid (∀ W, Calls Tryz.prog 19 #[.string (bs (textT zg0 zr0 zb0)), .string ⟨#[10]⟩] W fun e w' => e = .returned (.int .i64 (1 + (rl : Int) + (bl : Int))) ∧ w' = W) := Lib.hid (fun W => by
      have := count_any' 10 (textT zg0 zr0 zb0) W
      rw [count_text, HRL.out, HBL.out] at this
      rw [show (1 + (rl : Int) + (bl : Int)) = ((1 + rl + bl : Nat) : Int) by omega]
      exact this)
    rw [HT.out, hz]
    generalize textT zg0 zr0 zb0 = t at *
    clear hz HT
    obtain ⟨n, hn⟩ : ∃ n, t.length = n := ⟨_, rfl⟩
    have hn0 : 0 < n := by
      obtain ⟨x, hx⟩ := HTE.out
      rw [← hn, hx]; simp
    have HN := Lib.hid hn
    have hbsz : (bs t).size = n := (bs_size t).trans hn
    by_cases h6 : 6000 < n
    · clear hn
      go_wp2
      go_ret
      exact ⟨rfl, HB2.out⟩
    · go_wp2_with fail
      refine (rest_any _ _ _ (by omega) (by omega)).mono ?_
      rintro e w' ⟨rfl, rfl⟩
      have m0 : 0 ≤ a1 % (n : Int) := Int.emod_nonneg _ (by omega)
      have m1 : a1 % (n : Int) < n := Int.emod_lt_of_pos _ (by omega)
      obtain ⟨k, hk⟩ : ∃ k : Nat, a1 % (n : Int) = k := ⟨(a1 % (n : Int)).toNat, by omega⟩
      rw [hk] at m0 m1
      rw [hk]
      clear hk
      have hkn : k < n := by omega
      have HPA := Lib.hid (parse_any (t.take k) W2 (by rw [List.length_take]; omega) (HV.out.later HB2.out))
      obtain ⟨z2, hz2⟩ : ∃ z, paE (t.take k) = z := ⟨_, rfl⟩
      have HZ2 := Lib.hid hz2
      unfold ParsePost at HPA
      rw [hz2] at HPA
      clear hz2
      go_wp2_with fail
      rw [cut_bs]
      refine HPA.out.mono ?_
      rintro e W3 ⟨vg, vr, vb, rfl, hst, hb3⟩
      have HB3 := Lib.hid (nb_trans HB2.out hb3)
      have hq3 := heap_alloc_older (o := .cells #[vg, vr, vb] 26) ((hb3.block _ (Array.getElem?_eq_some_iff.1 HQ2.out).1).trans HQ2.out)
      have HQ3 := Lib.hid hq3
      obtain ⟨gl3, hgl3⟩ : ∃ n, (paS (t.take k)).g.length = n := ⟨_, rfl⟩
      obtain ⟨rl3, hrl3⟩ : ∃ n, (paS (t.take k)).r.length = n := ⟨_, rfl⟩
      obtain ⟨bl3, hbl3⟩ : ∃ n, (paS (t.take k)).b.length = n := ⟨_, rfl⟩
      obtain ⟨ga3, gc3, hge, -⟩ := hst.g.reads
      obtain ⟨ra3, rc3, hre, -⟩ := hst.r.reads
      obtain ⟨ba3, bc3, hbe, -⟩ := hst.b.reads
      rw [hgl3] at hge
      rw [hrl3] at hre
      rw [hbl3] at hbe
      subst hge hre hbe
      clear hst hgl3 hrl3 hbl3 hb3 hq3
      have hB4 := nb_alloc HB3.out (.cells #[.slice ga3 gl3 gc3, .slice ra3 rl3 rc3, .slice ba3 bl3 bc3] 26)
      have HB4 := Lib.hid hB4
      clear hB4
      have hpl : w.heap.size < (W3.alloc (.cells #[.slice ga3 gl3 gc3, .slice ra3 rl3 rc3, .slice ba3 bl3 bc3] 26)).heap.size := (Array.getElem?_eq_some_iff.1 HQ3.out).1
      have HPL := Lib.hid hpl
      by_cases hk0 : k = 0
      · subst hk0
        have HZ9 : Hid (z2 = 9) := Lib.hid (by rw [← HZ2.out]; exact pa_cut (by omega) (by omega) (fun h => by omega))
        cases HZ9.out
        clear hpl
        go_wp2_with fail
        generalize (W3.alloc (.cells #[.slice ga3 gl3 gc3, .slice ra3 rl3 rc3, .slice ba3 bl3 bc3] 26)) = W4 at *
        have c1 : W4.cell? ⟨w.heap.size, 1, none⟩ = some (.slice ra rl rc) := by rw [cell_of_row _ _ _ _ _ _ HQ3.out]; rfl
        have c2 : W4.cell? ⟨w.heap.size, 2, none⟩ = some (.slice ba bl bc) := by rw [cell_of_row _ _ _ _ _ _ HQ3.out]; rfl
        have hpl := HPL.out
        go_quiet ((go_at_call 19; exact Calls.quiet_of_same (HTC.out _)))
        go_wp2
        go_ret
        exact ⟨rfl, nb_drewN HB4.out⟩
      · have hkl : k - 1 < t.length := by omega
        have hkb : k - 1 < (bs t).size := by omega
        obtain ⟨ee, hee⟩ : ∃ ee : Bool, (((((bs t)[k - 1]'hkb).toNat : Nat) : Int) == 10) = ee := ⟨_, rfl⟩
        have HEE : Hid (ee = false → z2 = 9) := Lib.hid (fun h => by
          rw [← HZ2.out]
          refine pa_cut (by omega) (by omega) (fun _ hc => ?_)
          rw [List.getElem?_eq_getElem hkl] at hc
          have hc' : (bs t)[k - 1]'hkb = 10 := Option.some.inj hc
          rw [hc', h] at hee
          exact absurd hee (by decide))
        clear hpl
        go_wp2_with fail
        clear hee
        generalize (W3.alloc (.cells #[.slice ga3 gl3 gc3, .slice ra3 rl3 rc3, .slice ba3 bl3 bc3] 26)) = W4 at *
        have c1 : W4.cell? ⟨w.heap.size, 1, none⟩ = some (.slice ra rl rc) := by rw [cell_of_row _ _ _ _ _ _ HQ3.out]; rfl
        have c2 : W4.cell? ⟨w.heap.size, 2, none⟩ = some (.slice ba bl bc) := by rw [cell_of_row _ _ _ _ _ _ HQ3.out]; rfl
        have hpl := HPL.out
        cases ee
        · cases HEE.out rfl
          go_quiet ((go_at_call 19; exact Calls.quiet_of_same (HTC.out _)))
          go_wp2
          go_ret
          exact ⟨rfl, nb_drewN HB4.out⟩
        · go_quiet ((go_at_call 19; exact Calls.quiet_of_same (HTC.out _)))
          go_wp2
          go_ret
          exact ⟨rfl, nb_drewN HB4.out⟩
  · generalize prT zg0 zr0 zb0 = tt at *
    rw [hz]
    clear hz
    go_wp2
    go_ret
    exact ⟨rfl, HB2.out⟩
namespace textLines
theorem own : ownKnob Tryz.prog.godebug = none := by kernel_rfl
theorem laidOut : laidOutB Tryz.prog = true := by kernel_rfl

set_option maxRecDepth 100000 in
set_option maxHeartbeats 4000000 in
theorem lifted (os : Os) (started : os.Started) (H : Type) (enc : TypeId × Value → H) :
    ReturnsInHanded {} Tryz.checked os 7 .any (fun w args => (Rows.textLinesSpec.pre enc Tryz.prog Tryz.f7 Rows.textLinesRow.domain false w args ∧ laidMetH Tryz.prog Rows.textLinesRow.laid w) ∧ sizedMet enc Tryz.prog Tryz.f7 (OpenSpec.ofChange Rows.textLinesSpec) false w args)
      (Rows.textLinesSpec.post enc Tryz.prog Tryz.f7 false true false false) := by
  refine returnsInHanded_laid_shaped (C := Tryz.checked) (X := fun w _ => laidMetH Tryz.prog Rows.textLinesRow.laid w) (fun _ _ _ hh h => h.of_heap hh) own started (by kernel_rfl) Tryz.func7
    (ChangeSpec.witness_shaped (enc := enc) (C := Tryz.checked) (os := os) (X := fun w _ => laidMetH Tryz.prog Rows.textLinesRow.laid w) false (World.laidAll Tryz.prog os Rows.textLinesRow.laid) #[.agg #[.slice none 0 0, .slice none 0 0, .slice none 0 0], .int .i64 0] 8 (World.laidAll_os _ _ _)
      (World.shaped_of_ZipB (by kernel_rfl) (by kernel_rfl)) (by kernel_rfl) (by kernel_rfl) (by kernel_rfl)
      (by rw [MakeChecks.laidMetH_plain _ _ _ (by kernel_rfl)]; exact laidMet_laidAll _ (by kernel_rfl) (by kernel_rfl))) ?_
  intro W base args ds gs before hval0 hW hcnd hsz hlaid hshape
  have hval : ∀ (j : Nat) t v, Tryz.f7.params[j]? = some t → args[j]? = some v → Value.okWide Tryz.prog W .any base t v := hval0
  have hW' := hW
  obtain ⟨p, q, hA0, hV, rfl, hfz, hnd⟩ := hW
  have hA : DataW.TrodAll enc Tryz.prog W 0 (fun _ => true) true Tryz.f7.params.toList args.toList ds p := hA0
  rw [Tryz.params7] at hA hval
  obtain ⟨v0, vs0, d0, ds0, p0, q0, hargs, rfl, rfl, h0, r0⟩ := trodAll_cons hA
  obtain ⟨v1, vs1, d1, ds1, p1, q1, rfl, rfl, rfl, h1, r1⟩ := trodAll_cons r0
  obtain ⟨rfl, rfl, rfl⟩ := trodAll_nil r1
  obtain rfl : args = #[v0, v1] := by cases args; simp_all
  obtain ⟨rfl, rfl⟩ := trodVars_none hV
  have k0' := h0
  have lt0 : ∀ x ∈ p0, x.block < W.heap.size := by obtain ⟨m, hm⟩ := h0; exact DataW.trod_lt m _ _ _ hm
  have k1' := h1
  have lt1 : ∀ x ∈ p1, x.block < W.heap.size := by obtain ⟨m, hm⟩ := h1; exact DataW.trod_lt m _ _ _ hm
  obtain ⟨ug0, ur0, ub0, zg0, zr0, zb0, rfl, ig0, ir0, ib0⟩ : ∃ (a b c : Value) (zg : List Int) (zr : List Rw) (zb : List Bd), v0 = .agg #[a, b, c] ∧ Ints W a zg ∧ Reads elRow W b zr ∧ Reads elBond W c zb := by
    obtain ⟨c0, c1, c2, y0, y1, y2, m, rfl, _, _, hy0, hy1, hy2⟩ := Go.Joins.open_agg3 Tryz.underlying26 (by kernel_rfl) (show Tryz.prog.cellsOf 26 = 3 by kernel_rfl) (hval 0 26 v0 rfl rfl) h0
    obtain ⟨a0, l0, k0, rfl⟩ := slice_of Tryz.underlying22 hy0
    obtain ⟨a1, l1, k1, rfl⟩ := slice_of Tryz.underlying23 hy1
    obtain ⟨a2, l2, k2, rfl⟩ := slice_of Tryz.underlying24 hy2
    obtain ⟨zg, hg⟩ := Ints_of Tryz.underlying22 Tryz.underlying3 (by kernel_rfl) ⟨m, hy0⟩
    obtain ⟨zr, hr⟩ := Reads_of elRow Tryz.underlying23 (by kernel_rfl) row_dec ⟨m, hy1⟩
    obtain ⟨zb, hb⟩ := Reads_of elBond Tryz.underlying24 (by kernel_rfl) bond_dec ⟨m, hy2⟩
    exact ⟨_, _, _, zg, zr, zb, rfl, hg, hr, hb⟩
  obtain ⟨a1, rfl, i1⟩ : ∃ a : Int, v1 = .int .i64 a ∧ I64 a := by
    obtain ⟨a, rfl, _, _, wa⟩ := open_int Tryz.underlying3 (hval 1 3 v1 rfl rfl) h1
    exact ⟨a, rfl, I64_of wa⟩
  rw [Tryz.params7] at hsz
  clear hA0 hval0
  refine (textLines_walk ug0 ur0 ub0 zg0 zr0 zb0 a1 i1 W (VarsIs.of hlaid hshape) ig0 ir0 ib0).mono fun e W' ⟨he, bel⟩ => ?_
  subst he
  exact ⟨_, rfl, _, _, _, [], _, [], hW', trodAll_mk1 (shut_bool Tryz.underlying4 _), (trodAll_cons_mk (Below.trod laidOut (by kernel_rfl) (of_decide_eq_true (by kernel_rfl)) k0' bel lt0) (trodAll_cons_mk (Below.trod laidOut (by kernel_rfl) (of_decide_eq_true (by kernel_rfl)) k1' bel lt1) trodAll_mk0)), rfl, bel.frame _, fun h => by cases h⟩
end textLines

theorem textLines_proved : Rows.TextLinesSaid :=
  OpenClaim.holds_of_wide 7 Tryz.f7 rfl rfl rfl rfl rfl rfl rfl ⟨rfl, rfl, rfl, rfl, rfl⟩ rfl rfl rfl rfl rfl (by kernel_rfl) Tryz.func7 (by kernel_rfl)
    (of_decide_eq_true (by kernel_rfl)) (by unfold Func.isWrapper; first | (rw [if_pos (by decide +kernel)]; kernel_rfl) | (rw [if_neg (by decide +kernel)]; exact ⟨rfl, rfl⟩))
    (fun os started H enc _ => textLines.lifted os started H enc)
theorem textLines_card : Rows.TextLinesCardSaid :=
  Claim7.holds_tied_plain_at .later [] [.data, .data, .data, .data, .sentinel, .sentinel, .pinned] true (true, "51adf19e7b0457040110f153bed93bd756ae1ee273793b6025d405c32f9e54b0") true textLines_proved (fun _ h => by cases h) (by kernel_rfl) (fun _ h => by cases h) textLines_row_tie rfl ⟨rfl, rfl⟩ (by kernel_rfl) rfl
    (fun f fn hf hfn => by
      obtain rfl : f = 7 := Option.some.inj ((show Tryz.prog.funcNamed Rows.textLinesRow.func = some 7 by kernel_rfl).symm.trans hf) |>.symm
      obtain rfl : fn = Tryz.f7 := (Option.some.inj (Tryz.func7.symm.trans hfn)).symm
      exact ⟨by kernel_rfl, fun j t ht => by
        rw [Tryz.params7] at ht
        have hm : t ∈ [26, 3] := by simpa using Array.mem_of_getElem? ht
        have hall : ([26, 3].all fun u => !Tryz.prog.wantsStandIn u) = true := by kernel_rfl
        exact (show Tryz.prog.wantsStandIn t = false by simpa using List.all_eq_true.1 hall t hm)⟩)
    (by kernel_rfl)

end Go.Proofs.YtndhomjfjhohoaaGreatDoor

/- After Gone, a handle has neither parent nor children; all other bonds are unchanged: the statement FamilyGone. No condition. -/
import Derived.Test.YtmigfaogomepkaaGroundA
import Derived.Test.YtmigfaogomepkaaKeepGrown
import Derived.Test.YtmigfaogomepkaaKeepRelated
namespace Go.Proofs.Ytmigfaogomepkaa
open Go.ChangeShapes Go.WideShapes Go.ChangeAt Go.RowKit
set_option linter.unusedVariables false

theorem gone_par (bs : List Bd) (h : Hd) : hasP (goneB bs h) h = false ∧ kids (goneB bs h) h = [] := by
  refine ⟨hasP_no (fun p hp => (mem_goneB.1 hp).2.1 rfl), List.eq_nil_iff_forall_not_mem.2 fun c hc => ?_⟩
  exact (mem_goneB.1 (mem_kids.1 hc)).2.2 rfl
theorem gonePred (x : Bd) (a b : Int) : (!(decide (x.1 = (a, b)) || decide (x.2 = (a, b)))) = (!((x.1.1 == a) && (x.1.2 == b)) && !((x.2.1 == a) && (x.2.2 == b))) := by
  obtain ⟨⟨x1, x2⟩, x3, x4⟩ := x
  rw [eqHd, eqHd, Bool.not_or]
theorem filterB_t {p : Bd → Bool} {xs : List Bd} {r : Bd} (h : p r = true) : (xs ++ [r]).filter p = xs.filter p ++ [r] := by simp [List.filter_append, h]
theorem filterB_f {p : Bd → Bool} {xs : List Bd} {r : Bd} (h : p r = false) : (xs ++ [r]).filter p = xs.filter p := by simp [List.filter_append, h]

set_option maxRecDepth 100000 in
set_option maxHeartbeats 8000000 in
theorem familyGone_walk (u0 : Value) (z0 : List Opm) (j0 : ∀ x ∈ z0, OpOk x) (a_1 b_1 : Int) (i1 : I64 a_1 ∧ I64 b_1) (w : World) (i0 : Reads elOp w u0 z0) (s0 : z0.length * 128 ≤ 140737488351232) :
    Calls Try.prog 8 #[u0, .agg #[.int .i64 a_1, .int .i64 b_1]] w fun e w' => e = .returned (.bool true) ∧ Below w.heap.size w w' := by
  obtain ⟨i9, hi, hz0, hz1, hz2⟩ := info_parts infoBond
  have HR0 := Lib.hid i0
  have HJ := Lib.hid j0
  have HS0 := Lib.hid s0
  have HAB : Hid (okH (a_1, b_1)) := Lib.hid i1
  have hmd := FOk.made j0
  have HOK := Lib.hid hmd.1
  have HLN := Lib.hid hmd.2
  obtain ⟨ua, uc, hue, -⟩ := i0
  have HX : Hid (Below w.heap.size w (w.alloc (.cells #[.int .i64 a_1, .int .i64 b_1] 38))) := Lib.hid (nb_alloc (Below.refl _ _) _)
  have HXB : Hid ((w.alloc (.cells #[.int .i64 a_1, .int .i64 b_1] 38)).heap[w.heap.size]? = some (.cells #[.int .i64 a_1, .int .i64 b_1] 38)) := Lib.hid (heap_alloc_new _ _)
  subst hue
  clear j0 s0 i1 hmd
  go_enter Try.func8, Try.ntmps8
  go_wp2_with fail
  generalize w.alloc (.cells #[.int .i64 a_1, .int .i64 b_1] 38) = X at *
  refine (related_any _).mono ?_
  rintro e w1 ⟨rfl, hb1⟩
  have HB1 := Lib.hid (nb_trans HX.out hb1)
  have hxl := (Array.getElem?_eq_some_iff.1 HXB.out).1
  have HX1 : Hid (w1.heap[w.heap.size]? = some (.cells #[.int .i64 a_1, .int .i64 b_1] 38)) := Lib.hid (by rw [hb1.block _ hxl]; exact HXB.out)
  clear hb1 hxl
  go_wp2_with fail
  refine (grown_any _ z0 _ (HR0.out.later HB1.out) HJ.out HS0.out).mono ?_
  rintro e w2 ⟨q, F, rfl, hfam, hFb, hb2⟩
  obtain ⟨bs, hbs⟩ : ∃ bs, famL z0 = bs := ⟨_, rfl⟩
  rw [hbs] at hfam HOK HLN
  have HF2 := Lib.hid hfam
  have HFB := Lib.hid hFb
  have HB2 := Lib.hid (nb_trans HB1.out hb2)
  have h1l := (Array.getElem?_eq_some_iff.1 HX1.out).1
  have HX2 : Hid (w2.heap[w.heap.size]? = some (.cells #[.int .i64 a_1, .int .i64 b_1] 38)) := Lib.hid (by rw [hb2.block _ h1l]; exact HX1.out)
  have HNF : Hid (∀ b, F b → w1.heap.size ≤ b) := Lib.hid hFb
  have HW1 : Hid (w.heap.size < w1.heap.size) := Lib.hid h1l
  have HN : Hid (bs.length * 32 ≤ 140737488355328 ∧ bs.length ≤ z0.length) := Lib.hid ⟨by have := HS0.out; have := HLN.out; omega, HLN.out⟩
  clear hfam hFb hb2 hbs h1l
  go_wp2_with fail
  refine (famBonds_any q F bs _ HF2.out HOK.out.sorted HN.out.1).mono ?_
  rintro e w3 ⟨vb, rfl, ho3, hb3⟩
  have HO3 := Lib.hid ho3
  have HB3 := Lib.hid (nb_trans HB2.out hb3)
  have HF3 := Lib.hid (HF2.out.later hb3)
  have h2l := (Array.getElem?_eq_some_iff.1 HX2.out).1
  have hx3 : w3.heap[w.heap.size]? = some (.cells #[.int .i64 a_1, .int .i64 b_1] 38) := by rw [hb3.block _ h2l]; exact HX2.out
  have HX3 := Lib.hid hx3
  have hx3l := (Array.getElem?_eq_some_iff.1 hx3).1
  have k0 : w3.cell? ⟨w.heap.size, 0, none⟩ = some (.int .i64 a_1) := by rw [cell_of_row _ _ _ _ _ _ hx3]; rfl
  have k1 : w3.cell? ⟨w.heap.size, 1, none⟩ = some (.int .i64 b_1) := by rw [cell_of_row _ _ _ _ _ _ hx3]; rfl
  clear ho3 hb3 h2l hx3
  go_wp2_with fail
  refine (famGone_any q F bs a_1 b_1 _ HF3.out HOK.out HN.out.1).mono ?_
  rintro e w4 ⟨rfl, hf4, hk4⟩
  have HF4 := Lib.hid hf4
  have HOK4 := Lib.hid (HOK.out.gone (a_1, b_1))
  have HN4 : Hid ((goneB bs (a_1, b_1)).length * 32 ≤ 140737488355328) := Lib.hid (by have := goneB_len bs (a_1, b_1); have := HN.out.1; omega)
  have HNFO : Hid (∀ k, vb.ownBlock = some k → ¬ F k) := Lib.hid (fun k e hF => by have := HF2.out.lt k hF; have := HO3.out.ge e; omega)
  have HR4 : Hid (Reads elBond w4 vb bs) := Lib.hid (HO3.out.reads.kept hk4 HNFO.out)
  have HB4 : Hid (Below w.heap.size w w4) := Lib.hid (HB3.out.trans (hk4.below HB3.out.size (fun b hb => by have := HNF.out b hb; have := HW1.out; omega)))
  have HX4 : Hid (w4.heap[w.heap.size]? = some (.cells #[.int .i64 a_1, .int .i64 b_1] 38)) := Lib.hid (by rw [hk4.block _ hx3l (fun e => by have := HNF.out _ e; have := HW1.out; omega)]; exact HX3.out)
  have HGB : Hid (goneB bs (a_1, b_1) = bs.filter (fun x => !((x.1.1 == a_1) && (x.1.2 == b_1)) && !((x.2.1 == a_1) && (x.2.2 == b_1)))) := Lib.hid (by unfold goneB; exact congrArg (fun p => bs.filter p) (funext fun x => gonePred x a_1 b_1))
  obtain ⟨hm, hop⟩ := HR4.out.open
  unfold maxLen at hm
  obtain ⟨n, hn⟩ : ∃ n, bs.length = n := ⟨_, rfl⟩
  have HLB := Lib.hid hn
  have hnn := HN.out.1
  rw [hn] at hm hop hnn
  clear hf4 hk4 k0 k1 hn hx3l
  obtain ⟨P, hP⟩ : ∃ P : Bd → Bool, (fun x => !((x.1.1 == a_1) && (x.1.2 == b_1)) && !((x.2.1 == a_1) && (x.2.2 == b_1))) = P := ⟨_, rfl⟩
  rw [hP] at HGB
  have HP := Lib.hid (fun x => (congrFun hP x).symm)
  clear hP
  rcases hop with ⟨ad, cap, rfl, hz⟩ | ⟨bl, off, cap, rfl, hbl, hlc, hcm, hc⟩
  all_goals
    go_wp2
    go_loopw [7, 25] (fun v7 i wr => ∃ k : Nat, k ≤ n ∧ i = .int .i64 k ∧ Hid (OwnsF elBond wr w4.heap.size 44 v7 ((bs.take k).filter P)) ∧ Hid (Below w4.heap.size w4 wr)) (fun _ i _ => n - (intOf i).toNat)
    case atStart => exact ⟨0, by omega, rfl, OwnsF.nil _ _ _ _, Below.refl _ _⟩
    case round =>
      obtain ⟨k, hk, rfl, hO, hB⟩ := hrel
      have hbsz := hB.out.size
      have hxw : wr.heap[w.heap.size]? = some (.cells #[.int .i64 a_1, .int .i64 b_1] 38) := by rw [hB.out.block _ (Array.getElem?_eq_some_iff.1 HX4.out).1]; exact HX4.out
      have hxwl := (Array.getElem?_eq_some_iff.1 hxw).1
      by_cases hltk : k < n
      · first
          | omega
          | (have hcr : ∀ jj, jj < 4 → wr.cell? ⟨bl, off + k * 4 + jj, none⟩ = (elBond.enc (bs.getD k bdZ))[jj]? := fun jj hjj => by rw [hB.out.cell (p := ⟨bl, _, none⟩) hbl]; exact hc k hltk jj hjj
             have hkl : k < bs.length := by rw [HLB.out]; exact hltk
             have HTK : Hid (bs.take (k + 1) = bs.take k ++ [bs.getD k bdZ]) := Lib.hid (by rw [List.take_add_one, List.getElem?_eq_getElem hkl, List.getD_eq_getElem?_getD, List.getElem?_eq_getElem hkl]; rfl)
             have hbw : bl < wr.heap.size := Nat.lt_of_lt_of_le hbl hbsz
             obtain ⟨y, hy⟩ : ∃ y, bs.getD k bdZ = y := ⟨_, rfl⟩
             rw [hy] at hcr HTK
             obtain ⟨⟨y1, y2⟩, y3, y4⟩ := y
             have c0 : wr.cell? ⟨bl, off + k * 4, none⟩ = some (.int .i64 y1) := hcr 0 (by decide)
             have c1 : wr.cell? ⟨bl, off + k * 4 + 1, none⟩ = some (.int .i64 y2) := hcr 1 (by decide)
             have c2 : wr.cell? ⟨bl, off + k * 4 + 2, none⟩ = some (.int .i64 y3) := hcr 2 (by decide)
             have c3 : wr.cell? ⟨bl, off + k * 4 + 3, none⟩ = some (.int .i64 y4) := hcr 3 (by decide)
             have HPY := Lib.hid (HP.out ((y1, y2), (y3, y4)))
             obtain ⟨L, hL⟩ : ∃ L, (bs.take k).filter P = L := ⟨_, rfl⟩
             have hLl : L.length ≤ n := by rw [← hL, ← HLB.out]; exact Nat.le_trans (List.length_filter_le _ _) (by rw [List.length_take]; omega)
             have hLk : L.length ≤ k := by rw [← hL]; exact Nat.le_trans (List.length_filter_le _ _) (by rw [List.length_take]; omega)
             rw [hL] at hO
             have HL := Lib.hid hL
             have kx0 : wr.cell? ⟨w.heap.size, 0, none⟩ = some (.int .i64 a_1) := by rw [cell_of_row _ _ _ _ _ _ hxw]; rfl
             have kx1 : wr.cell? ⟨w.heap.size, 1, none⟩ = some (.int .i64 b_1) := by rw [cell_of_row _ _ _ _ _ _ hxw]; rfl
             clear hcr hc hy hL hxw
             cases h1 : (y1 == a_1) <;> cases h2 : (y2 == b_1) <;> cases h3 : (y3 == a_1) <;> cases h4 : (y4 == b_1)
             all_goals
               have HPV : Hid (P ((y1, y2), (y3, y4)) = _) := Lib.hid HPY.out
               rw [h1, h2, h3, h4] at HPV
               go_wp2_with (first | (at_builtin; refine wpList_append_own _ rfl _ _ 31 rfl w4.heap.size 44 i9 _ 4 32 Try.underlying31 hi hz0 hz1 hz2 rfl (by decide) _ L.length (L.flatMap elBond.enc) rfl (World.ownsRow.alloc (World.ownsRow.alloc hO.out _) _) ⟨wr.heap.size + 1, 0, none⟩ 1 1 [.int .i64 y1, .int .i64 y2, .int .i64 y3, .int .i64 y4] rfl rfl (World.news_of_block (heap_alloc2_new _ _ _)) (elBond.one ((y1, y2), (y3, y4))) (by unfold maxLen; omega) (by omega) (by simp; omega) ?_; intro v' w7 hown hgr hnil))
               first
                 | (have HO7 : Hid (OwnsF elBond w7 w4.heap.size 44 v' ((bs.take (k + 1)).filter P)) := Lib.hid (by rw [HTK.out, filterB_t HPV.out, HL.out]; exact OwnsF.snoc (x := ((y1, y2), (y3, y4))) hown)
                    have HB7 : Hid (Below w4.heap.size w4 w7) := Lib.hid ((nb_alloc (nb_alloc hB.out _) _).grown hgr (by simp; omega) (fun j hj => hO.out.ge hj))
                    clear hown hgr hnil
                    go_wp2
                    go_roundw
                    case rel => exact ⟨k + 1, by omega, by go_num, HO7, HB7⟩
                    case measure => simp [intOf]; omega)
                 | (go_roundw
                    case rel => exact ⟨k + 1, by omega, by go_num, Lib.hid (by rw [HTK.out, filterB_f HPV.out, HL.out]; exact hO.out.later (nb_alloc (Below.refl _ _) _)), Lib.hid (nb_alloc hB.out _)⟩
                    case measure => simp [intOf]; omega))
      · obtain rfl : k = n := by omega
        rw [List.take_of_length_le (by rw [HLB.out]; exact Nat.le_refl _), ← HGB.out] at hO
        obtain ⟨gp, gk⟩ := gone_par bs (a_1, b_1)
        obtain ⟨cs, hcs⟩ : ∃ cs, goneB bs (a_1, b_1) = cs := ⟨_, rfl⟩
        rw [hcs] at hO gp gk HF4 HOK4 HN4
        have HFW := Lib.hid (HF4.out.later hB.out)
        have kx0 : wr.cell? ⟨w.heap.size, 0, none⟩ = some (.int .i64 a_1) := by rw [cell_of_row _ _ _ _ _ _ hxw]; rfl
        have kx1 : wr.cell? ⟨w.heap.size, 1, none⟩ = some (.int .i64 b_1) := by rw [cell_of_row _ _ _ _ _ _ hxw]; rfl
        have HGK := Lib.hid gk
        have HXW := Lib.hid hxw
        have HPP : Hid (hasP cs (a_1, b_1) = false ∧ parB cs (a_1, b_1) = (0, 0)) := Lib.hid ⟨gp, (hasP_none gp).1⟩
        clear hcs gp gk hxw
        go_wp2_with fail
        refine (famParent_any q F cs a_1 b_1 0 0 false _ HFW.out HOK4.out.sorted HAB.out.1 HAB.out.2 HPP.out.2 HPP.out.1).mono ?_
        rintro e w5 ⟨rfl, hb5⟩
        have HB5 := Lib.hid hb5
        have hx5 : w5.heap[w.heap.size]? = some (.cells #[.int .i64 a_1, .int .i64 b_1] 38) := by rw [hb5.block _ hxwl]; exact HXW.out
        have hx5l := (Array.getElem?_eq_some_iff.1 hx5).1
        have HF5 := Lib.hid ((HFW.out.later hb5).later (nb_alloc (Below.refl _ _) (.cells #[.int .i64 0, .int .i64 0] 38)))
        have HO5 := Lib.hid ((hO.out.later hb5).later (nb_alloc (Below.refl _ _) (.cells #[.int .i64 0, .int .i64 0] 38)))
        have HBA := Lib.hid (nb_alloc (nb_trans (nb_trans HB4.out hB.out) hb5) (.cells #[.int .i64 0, .int .i64 0] 38))
        have ky0 : w5.cell? ⟨w.heap.size, 0, none⟩ = some (.int .i64 a_1) := by rw [cell_of_row _ _ _ _ _ _ hx5]; rfl
        have ky1 : w5.cell? ⟨w.heap.size, 1, none⟩ = some (.int .i64 b_1) := by rw [cell_of_row _ _ _ _ _ _ hx5]; rfl
        clear hb5 hx5 kx0 kx1
        go_wp2_with fail
        generalize w5.alloc (.cells #[.int .i64 0, .int .i64 0] 38) = V at *
        refine (famChildren_any q F cs a_1 b_1 _ HF5.out HOK4.out.sorted HN4.out).mono ?_
        rintro e w6 ⟨v6, rfl, ho6, hb6⟩
        rw [HGK.out] at ho6
        obtain ⟨a6, c6, rfl, -⟩ := ho6.reads
        have HF6 := Lib.hid (HF5.out.later hb6)
        have HO6 := Lib.hid (HO5.out.later hb6)
        have HB6 := Lib.hid (nb_trans HBA.out hb6)
        clear ho6 hb6 ky0 ky1
        simp only [List.length_nil]
        go_wp2_with fail
        refine (famBonds_any q F cs _ HF6.out HOK4.out.sorted HN4.out).mono ?_
        rintro e w7 ⟨v7, rfl, ho7, hb7⟩
        have HO7 := Lib.hid ho7.reads
        have HOW := Lib.hid (HO6.out.reads.later hb7)
        have HB7 := Lib.hid (nb_trans HB6.out hb7)
        clear ho7 hb7
        go_wp2_with fail
        refine (eqBond_any _ _ cs cs _ HO7.out HOW.out).mono ?_
        rintro e w8 ⟨rfl, hb8⟩
        rw [decide_eq_true rfl]
        have HB8 := Lib.hid (nb_trans HB7.out hb8)
        clear hb8
        go_wp2
        go_ret
        exact ⟨rfl, HB8.out⟩

namespace familyGone
theorem own : ownKnob Try.prog.godebug = none := by kernel_rfl
theorem laidOut : laidOutB Try.prog = true := by kernel_rfl

set_option maxRecDepth 100000 in
set_option maxHeartbeats 4000000 in
theorem lifted (os : Os) (started : os.Started) (H : Type) (enc : TypeId × Value → H) :
    ReturnsInHanded {} Try.checked os 8 .any (Rows.familyGoneSpec.pre6 enc Try.prog Try.f8 Rows.familyGoneRow.domain false) (Rows.familyGoneSpec.post enc Try.prog Try.f8 false true false false) := by
  refine returnsInHanded_of_change_sized (C := Try.checked) own started (by kernel_rfl) Try.func8
    (ChangeSpec.witness6 (enc := enc) (C := Try.checked) false ⟨#[], #[.slice none 0 0, .agg #[.int .i64 0, .int .i64 0]], []⟩ 8 (by kernel_rfl) (by kernel_rfl) (by kernel_rfl) (by kernel_rfl)) ?_
  intro W base args ds gs before hval0 hW hcnd hsz _
  have hval : ∀ (j : Nat) t v, Try.f8.params[j]? = some t → args[j]? = some v → Value.okWide Try.prog W .any base t v := hval0
  have hW' := hW
  obtain ⟨p, q, hA0, hV, rfl, hfz, hnd⟩ := hW
  have hA : DataW.TrodAll enc Try.prog W 0 (fun _ => true) true Try.f8.params.toList args.toList ds p := hA0
  rw [Try.params8] at hA hval
  obtain ⟨v0, vs0, d0, ds0, p0, q0, hargs, rfl, rfl, h0, r0⟩ := trodAll_cons hA
  obtain ⟨v1, vs1, d1, ds1, p1, q1, rfl, rfl, rfl, h1, r1⟩ := trodAll_cons r0
  obtain ⟨rfl, rfl, rfl⟩ := trodAll_nil r1
  obtain rfl : args = #[v0, v1] := by cases args; simp_all
  obtain ⟨rfl, rfl⟩ := trodVars_none hV
  have k0' := h0
  have lt0 : ∀ x ∈ p0, x.block < W.heap.size := by obtain ⟨m, hm⟩ := h0; exact DataW.trod_lt m _ _ _ hm
  have k1' := h1
  have lt1 : ∀ x ∈ p1, x.block < W.heap.size := by obtain ⟨m, hm⟩ := h1; exact DataW.trod_lt m _ _ _ hm
  obtain ⟨z0, i0, j0⟩ : ∃ zs, Reads elOp W v0 zs ∧ ∀ x ∈ zs, OpOk x := by
    obtain ⟨a0, len0, cap0, rfl⟩ := okWide_slice Try.underlying22 (hval 0 22 v0 rfl rfl)
    exact Reads_ofP elOp OpOk Try.underlying22 (by kernel_rfl) op_dec h0
  obtain ⟨a_1, b_1, rfl, i1⟩ : ∃ a_1 b_1 : Int, v1 = .agg #[.int .i64 a_1, .int .i64 b_1] ∧ (I64 a_1 ∧ I64 b_1) := by
    obtain ⟨zs, hl, rfl, hz⟩ := open_flat 3 2 Try.underlying38 (by kernel_rfl) (by kernel_rfl) (hval 1 38 v1 rfl rfl) h1
    obtain ⟨a_1, b_1, rfl⟩ := list2 hl
    exact ⟨a_1, b_1, rfl, hz a_1 (by simp), hz b_1 (by simp)⟩
  rw [Try.params8] at hsz
  have s0 : z0.length * 128 ≤ 140737488351232 := by
    obtain ⟨aa, cc, ee, _⟩ := i0
    have hh := k0'
    rw [ee] at hh
    exact trod_len Try.underlying22 (show Try.prog.bytesOf 40 = 128 by kernel_rfl) hh (fun el sp hd => sized_slice hsz (j := 0) (t := 22) rfl (by rw [hd]; rfl) Try.underlying22)
  clear hA0 hval0
  refine (familyGone_walk v0 z0 j0 a_1 b_1 i1 W i0 s0).mono fun e W' ⟨he, bel⟩ => ?_
  subst he
  exact ⟨_, rfl, _, _, _, [], _, [], hW', trodAll_mk1 (shut_bool Try.underlying4 _), (trodAll_cons_mk (Below.trod laidOut (by kernel_rfl) (of_decide_eq_true (by kernel_rfl)) k0' bel lt0) (trodAll_cons_mk (Below.trod laidOut (by kernel_rfl) (of_decide_eq_true (by kernel_rfl)) k1' bel lt1) trodAll_mk0)), rfl, bel.frame _, fun h => by cases h⟩
end familyGone

theorem familyGone_proved : Rows.FamilyGoneSaid :=
  OpenClaim.holds_of_wide 8 Try.f8 rfl rfl rfl rfl rfl rfl rfl ⟨rfl, rfl, rfl, rfl, rfl⟩ rfl rfl rfl rfl rfl (by kernel_rfl) Try.func8 (by kernel_rfl)
    (of_decide_eq_true (by kernel_rfl)) (by unfold Func.isWrapper; first | (rw [if_pos (by decide +kernel)]; kernel_rfl) | (rw [if_neg (by decide +kernel)]; exact ⟨rfl, rfl⟩))
    (fun os started H enc _ => familyGone.lifted os started H enc)

end Go.Proofs.Ytmigfaogomepkaa

/- After any sequence of calls, Children and Under return the results of the reference: the statement FamilyTells. No condition. -/
import Derived.Test.YtlclceiebnnpgaaGroundA
import Derived.Test.YtlclceiebnnpgaaLawRelated
import Derived.Test.YtlclceiebnnpgaaAppendKeeps
import Derived.Test.YtlclceiebnnpgaaFamTo
namespace Go.Proofs.Ytlclceiebnnpgaa
open Go.ChangeShapes Go.WideShapes Go.ChangeAt Go.RowKit
set_option linter.unusedVariables false

/-- Behind an append onto the reference's bonds, whose result is not stored. -/
theorem BothF.grown {B x w' : World} {p q : Nat} {F G : Nat → Prop} {bs : List Bd} {v0 v1 v2 vB : Value} (h : BothF B x p q F G bs) (hz : BonIs x q G v0 v1 v2 bs vB) (ho : w'.ownsRow 0 44 4 vB bs.length (bs.flatMap elBond.enc)) (hg : x.grownBy w' vB.ownBlock) : BothF B w' p q F G bs := by
  have hk : Kept (fun b => vB.ownBlock = some b) x w' := ⟨hg.os, hg.tape, hg.output, hg.size, fun b hb hn => hg.block b hb (Ne.symm hn)⟩
  refine ⟨h.fam.kept hk (fun b hb e => h.ap b hb (hz.inB b e).1), ⟨v0, v1, v2, vB, ⟨?_, ho, hz.inB, hz.at_, fun b hb => Nat.lt_of_lt_of_le (hz.lt b hb) hg.size⟩⟩, h.ap, h.fb, h.gb, h.below.trans (hk.below h.below.size (fun b e => h.gb b (hz.inB b e).1))⟩
  rw [hg.block q (hz.lt q hz.at_) (fun e => (hz.inB q e.symm).2 rfl)]
  exact hz.block
theorem refUnder_at (q : Nat) (G : Nat → Prop) (bs : List Bd) (a b : Int) (U : List Hd) (hU : ∃ d M, AcyBy bs d M ∧ under bs M (a, b) = U) (w : World) (h : BonAt w q G bs) (ok : FOk bs) (hn : bs.length * 32 ≤ 140737488355328) :
    Calls Try.prog 19 #[.pointer (some ⟨q, 0, none⟩), .agg #[.int .i64 a, .int .i64 b]] w (HandsPost w U) := by
  obtain ⟨d, M, ha, rfl⟩ := hU
  exact refUnder_any q G bs d M ok.sorted ha hn _ a b w (Nat.le_refl _) h

set_option maxRecDepth 100000 in
set_option maxHeartbeats 16000000 in
theorem familyTells_walk (u0 : Value) (z0 : List Opm) (j0 : ∀ x ∈ z0, OpOk x) (a_1 b_1 : Int) (i1 : I64 a_1 ∧ I64 b_1) (w : World) (i0 : Reads elOp w u0 z0) (s0 : z0.length * 128 ≤ 140737488351232) :
    Calls Try.prog 4 #[u0, .agg #[.int .i64 a_1, .int .i64 b_1]] w fun e w' => e = .returned (.bool true) ∧ Below w.heap.size w w' := by
  obtain ⟨i9, hi, hz0, hz1, hz2⟩ := info_parts infoBond
  have HJ := Lib.hid j0
  have HAB : Hid (okH (a_1, b_1)) := Lib.hid i1
  obtain ⟨ua, uc, hue, hlc, hm, hcc⟩ := i0
  subst hue
  unfold maxLen at hm
  obtain ⟨n, hn⟩ : ∃ n, z0.length = n := ⟨_, rfl⟩
  have HN := Lib.hid hn
  have HX : Hid (Below w.heap.size w (w.alloc (.cells #[.int .i64 a_1, .int .i64 b_1] 38))) := Lib.hid (nb_alloc (Below.refl _ _) _)
  have HXB : Hid ((w.alloc (.cells #[.int .i64 a_1, .int .i64 b_1] 38)).heap[w.heap.size]? = some (.cells #[.int .i64 a_1, .int .i64 b_1] 38)) := Lib.hid (heap_alloc_new _ _)
  rw [hn] at hlc s0 hcc ⊢
  have hmn : n ≤ 9223372036854775807 := by omega
  have HCC := Lib.hid hcc
  clear j0 i1 hn hcc
  go_enter Try.func4, Try.ntmps4
  go_wp2_with fail
  generalize w.alloc (.cells #[.int .i64 a_1, .int .i64 b_1] 38) = X at *
  have HXL : Hid (w.heap.size < X.heap.size) := Lib.hid (Array.getElem?_eq_some_iff.1 HXB.out).1
  refine (famNew_any _).mono ?_
  rintro e w1 ⟨rfl, hw1⟩
  have HBT := Lib.hid (BothF.start hw1)
  clear hw1
  go_wp2
  generalize hq : w1.heap.size = q at *
  clear hq
  generalize w1.alloc (.cells #[.slice none 0 0, .slice none 0 0, .slice none 0 0, .slice none 0 0] 33) = w2 at *
  go_loopw [20] (fun i wr => ∃ (t : Nat) (F G : Nat → Prop), t ≤ n ∧ i = .int .i64 t ∧ Hid (BothF X wr X.heap.size q F G (famL (z0.take t)))) (fun i _ => n - (intOf i).toNat)
  case atStart => exact ⟨0, _, _, by omega, rfl, HBT⟩
  case round =>
    obtain ⟨t, F, G, htn, rfl, hT⟩ := hrel
    have hmd := FOk.made (zs := z0.take t) (fun x hx => HJ.out x (List.mem_of_mem_take hx))
    have HOK : Hid (FOk (famL (z0.take t))) := Lib.hid hmd.1
    have hsl : (famL (z0.take t)).length ≤ n := Nat.le_trans hmd.2 (by rw [List.length_take, HN.out]; omega)
    clear hmd
    by_cases hlt : t < n
    · as_aux_lemma =>
      obtain ⟨b, off, hua, hb, hcc⟩ := HCC.out t hlt
      subst hua
      obtain ⟨o, ho⟩ : ∃ o, z0.getD t opZ = o := ⟨_, rfl⟩
      have htl : t < z0.length := by rw [HN.out]; exact hlt
      have hcr : ∀ jj, jj < 16 → wr.cell? ⟨b, off + t * 16 + jj, none⟩ = (elOp.enc o)[jj]? := fun jj hjj => by rw [(nb_trans HX.out hT.out.below).cell (p := ⟨b, _, none⟩) hb, ← ho]; exact hcc jj hjj
      have c0 : wr.cell? ⟨b, off + t * 16, none⟩ = some (.int .i64 o.d) := hcr 0 (by decide)
      have c1 : wr.cell? ⟨b, off + t * 16 + 1, none⟩ = some (.int .i64 o.m) := hcr 1 (by decide)
      have c2 : wr.cell? ⟨b, off + t * 16 + 2, none⟩ = some (.int .i64 (o.f 0)) := hcr 2 (by decide)
      have c3 : wr.cell? ⟨b, off + t * 16 + 3, none⟩ = some (.int .i64 (o.f 1)) := hcr 3 (by decide)
      have c4 : wr.cell? ⟨b, off + t * 16 + 4, none⟩ = some (.int .i64 (o.f 2)) := hcr 4 (by decide)
      have c5 : wr.cell? ⟨b, off + t * 16 + 5, none⟩ = some (.int .i64 (o.f 3)) := hcr 5 (by decide)
      have c6 : wr.cell? ⟨b, off + t * 16 + 6, none⟩ = some (.int .i64 (o.f 4)) := hcr 6 (by decide)
      have c7 : wr.cell? ⟨b, off + t * 16 + 7, none⟩ = some (.int .i64 (o.f 5)) := hcr 7 (by decide)
      have c8 : wr.cell? ⟨b, off + t * 16 + 8, none⟩ = some (.int .i64 (o.f 6)) := hcr 8 (by decide)
      have c9 : wr.cell? ⟨b, off + t * 16 + 9, none⟩ = some (.int .i64 (o.f 7)) := hcr 9 (by decide)
      have c10 : wr.cell? ⟨b, off + t * 16 + 10, none⟩ = some (.int .i64 o.a) := hcr 10 (by decide)
      have c11 : wr.cell? ⟨b, off + t * 16 + 11, none⟩ = some (.int .i64 o.b) := hcr 11 (by decide)
      have c12 : wr.cell? ⟨b, off + t * 16 + 12, none⟩ = some (.int .i64 o.ta) := hcr 12 (by decide)
      have c13 : wr.cell? ⟨b, off + t * 16 + 13, none⟩ = some (.int .i64 o.tb) := hcr 13 (by decide)
      have c14 : wr.cell? ⟨b, off + t * 16 + 14, none⟩ = some (.int .i64 o.k) := hcr 14 (by decide)
      have c15 : wr.cell? ⟨b, off + t * 16 + 15, none⟩ = some (.int .i64 o.n) := hcr 15 (by decide)
      have HTK : Hid (famL (z0.take (t + 1)) = stepB (famL (z0.take t)) o) := Lib.hid (by rw [takeF_snoc z0 t opZ htl, ho, famL_snoc])
      have HOP : Hid (OpOk o) := Lib.hid (HJ.out o (by rw [← ho]; exact memD htl))
      obtain ⟨s, hs⟩ : ∃ s, famL (z0.take t) = s := ⟨_, rfl⟩
      rw [hs] at hT HTK HOK hsl
      have HSL : Hid (s.length * 32 ≤ 140737488300000) := Lib.hid (by omega)
      obtain ⟨s5, hs5⟩ : ∃ s5, stepB s o = s5 := ⟨_, rfl⟩
      have HS5 := Lib.hid hs5
      rw [hs5] at HTK
      have hbw : b < wr.heap.size := Nat.lt_of_lt_of_le hb (nb_trans HX.out hT.out.below).size
      have HTA := Lib.hid (hT.out.later (nb_alloc (Below.refl _ _) (.cells #[.int .i64 o.d, .int .i64 o.m, .int .i64 (o.f 0), .int .i64 (o.f 1), .int .i64 (o.f 2), .int .i64 (o.f 3), .int .i64 (o.f 4), .int .i64 (o.f 5), .int .i64 (o.f 6), .int .i64 (o.f 7), .int .i64 o.a, .int .i64 o.b, .int .i64 o.ta, .int .i64 o.tb, .int .i64 o.k, .int .i64 o.n] 40)))
      clear hcr hcc ho hs hT hs5 HCC
      go_wp2_with fail
      generalize wr.alloc (.cells #[.int .i64 o.d, .int .i64 o.m, .int .i64 (o.f 0), .int .i64 (o.f 1), .int .i64 (o.f 2), .int .i64 (o.f 3), .int .i64 (o.f 4), .int .i64 (o.f 5), .int .i64 (o.f 6), .int .i64 (o.f 7), .int .i64 o.a, .int .i64 o.b, .int .i64 o.ta, .int .i64 o.tb, .int .i64 o.k, .int .i64 o.n] 40) = A at *
      refine (lawRelated_any X.heap.size q F G s s5 o _ HTA.out.fam HTA.out.bon HTA.out.ap HOK.out HSL.out HOP.out HS5.out).mono ?_
      rintro e w5 hr5
      obtain ⟨rfl, F5, G5, hT5, k5⟩ := HTA.out.rel hr5
      have HT5 := Lib.hid hT5
      clear hr5 k5 hT5
      go_wp2
      go_roundw
      case rel => exact ⟨t + 1, F5, G5, by omega, by go_num, by rw [HTK.out]; exact HT5⟩
      case measure => simp [intOf]; omega
    · as_aux_lemma =>
      obtain rfl : t = n := by omega
      generalize famL (z0.take t) = s at *
      obtain ⟨v0, v1, v2, vB, hbi⟩ := hT.out.bon
      have HBI := Lib.hid hbi
      obtain ⟨cq, fq, hql⟩ := hbi.cell
      have hx : wr.heap[w.heap.size]? = some (.cells #[.int .i64 a_1, .int .i64 b_1] 38) := by rw [hT.out.below.block _ HXL.out]; exact HXB.out
      have k0 : wr.cell? ⟨w.heap.size, 0, none⟩ = some (.int .i64 a_1) := by rw [cell_of_row _ _ _ _ _ _ hx]; rfl
      have k1 : wr.cell? ⟨w.heap.size, 1, none⟩ = some (.int .i64 b_1) := by rw [cell_of_row _ _ _ _ _ _ hx]; rfl
      have hxl : w.heap.size < wr.heap.size := (Array.getElem?_eq_some_iff.1 hx).1
      have HXW := Lib.hid hx
      have HSN : Hid (s.length * 32 ≤ 140737488300000) := Lib.hid (by omega)
      have HOW : Hid (∀ Y, Below wr.heap.size wr Y → Y.ownsRow 0 44 4 vB s.length (s.flatMap elBond.enc)) := Lib.hid (fun Y hY => (hbi.later hY).own)
      have HKC : Hid (∀ Y Z : World, Below wr.heap.size wr Y → Y.grownBy Z vB.ownBlock → (Z.cell? ⟨q, 3, none⟩ = some vB ∧ Z.cell? ⟨w.heap.size, 0, none⟩ = some (.int .i64 a_1) ∧ Z.cell? ⟨w.heap.size, 1, none⟩ = some (.int .i64 b_1))) := Lib.hid (fun Y Z hY hg => by
        have hz := HBI.out.later hY
        have h9 : Z.heap[q]? = _ := (hg.block q (hz.lt q hz.at_) (fun e => (hz.inB q e.symm).2 rfl)).trans hz.block
        have h8 : Z.heap[w.heap.size]? = _ := (hg.block _ (Nat.lt_of_lt_of_le hxl hY.size) (fun e => by have := hT.out.gb _ (hz.inB _ e.symm).1; have := HXL.out; omega)).trans ((hY.block _ hxl).trans HXW.out)
        exact ⟨by rw [cell_of_row _ _ _ _ _ _ h9]; rfl, by rw [cell_of_row _ _ _ _ _ _ h8]; rfl, by rw [cell_of_row _ _ _ _ _ _ h8]; rfl⟩)
      clear hbi hx
      go_wp2_with fail
      go_region_held3 (fun x => (x.cell? ⟨q, 3, none⟩ = some vB ∧ x.cell? ⟨w.heap.size, 0, none⟩ = some (.int .i64 a_1) ∧ x.cell? ⟨w.heap.size, 1, none⟩ = some (.int .i64 b_1))) (first | go_keep | exact HKD.out) (first
        | ((refine stepK_append (by rfl) _ _ 31 (by rfl) 0 44 i9 _ 4 32 Try.underlying31 hi hz0 hz1 hz2 rfl (by decide) vB s.length (s.flatMap elBond.enc) (by rfl) (HOW.out _ (nb_alloc (Below.refl _ wr) (.cells #[.int .i64 a_1, .int .i64 b_1, .int .i64 a_1, .int .i64 b_1] 44)).drew) ⟨wr.heap.size, 0, none⟩ 1 1 [.int .i64 a_1, .int .i64 b_1, .int .i64 a_1, .int .i64 b_1] (by rfl) rfl (World.news_of_block (heap_alloc_new _ _)) (elBond.one ((a_1, b_1), (a_1, b_1))) (by have := HSN.out; unfold maxLen; omega) (by have := HSN.out; omega) (Nat.zero_le _) ?_; intro v3 w3 hown hkp hgr; have HO3 : Hid (OwnsF elBond w3 0 44 v3 (s ++ [((a_1, b_1), (a_1, b_1))])) := Lib.hid (OwnsF.snoc (x := ((a_1, b_1), (a_1, b_1))) hown); have HT3 : Hid (BothF X w3 X.heap.size q F G s) := Lib.hid (BothF.grown (hT.out.later (nb_alloc (Below.refl _ wr) (.cells #[.int .i64 a_1, .int .i64 b_1, .int .i64 a_1, .int .i64 b_1] 44)).drew) (HBI.out.later (nb_alloc (Below.refl _ wr) (.cells #[.int .i64 a_1, .int .i64 b_1, .int .i64 a_1, .int .i64 b_1] 44)).drew) hkp hgr); have HKD := Lib.hid (HKC.out _ w3 (nb_alloc (Below.refl _ wr) (.cells #[.int .i64 a_1, .int .i64 b_1, .int .i64 a_1, .int .i64 b_1] 44)).drew hgr); clear hown hkp hgr; obtain ⟨va, vc, rfl, hl3, hm3, hc3⟩ := HO3.out.reads)) | fail "none")
      all_goals
        have hlm : (s ++ [((a_1, b_1), (a_1, b_1))]).length = s.length + 1 := by simp
        rw [hlm] at hl3 hc3 ⊢
        clear hlm
        have HC3 := Lib.hid hc3
        unfold maxLen at hm3
        have hmm : s.length + 1 ≤ 9223372036854775807 := by omega
        clear hc3 cq fq hql k0 k1 hxl
        go_wp2
        go_loopw [39] (fun i wl => ∃ k : Nat, k ≤ s.length + 1 ∧ i = .int .i64 k ∧ Hid (Below w3.heap.size w3 wl)) (fun i _ => s.length + 1 - (intOf i).toNat)
        case atStart => exact ⟨0, by omega, rfl, Below.refl _ _⟩
        case round =>
          obtain ⟨k, hk, rfl, hB⟩ := hrel
          by_cases hltk : k < s.length + 1
          · as_aux_lemma =>
            obtain ⟨g, off, hva, hg3, hcc⟩ := HC3.out k hltk
            subst hva
            have hltk' : (k : Int) < (s.length : Int) + 1 := by omega
            have HTW := Lib.hid (HT3.out.later hB.out)
            obtain ⟨y, hy⟩ : ∃ y, (s ++ [((a_1, b_1), (a_1, b_1))]).getD k bdZ = y := ⟨_, rfl⟩
            have HYO : Hid (okH y.1 ∧ okH y.2) := Lib.hid (by
              have hmem : y ∈ s ++ [((a_1, b_1), (a_1, b_1))] := by rw [← hy]; exact memD (by simp; omega)
              rcases List.mem_append.1 hmem with h | h
              · exact HOK.out.ok _ h
              · simp only [List.mem_singleton] at h
                rw [h]; exact ⟨HAB.out, HAB.out⟩)
            have hcr : ∀ jj, jj < 4 → wr.cell? ⟨g, off + k * 4 + jj, none⟩ = (elBond.enc y)[jj]? := fun jj hjj => by rw [hB.out.cell (p := ⟨g, _, none⟩) hg3, ← hy]; exact hcc jj hjj
            obtain ⟨⟨y1, y2⟩, y3, y4⟩ := y
            have d0 : wr.cell? ⟨g, off + k * 4, none⟩ = some (.int .i64 y1) := hcr 0 (by decide)
            have d1 : wr.cell? ⟨g, off + k * 4 + 1, none⟩ = some (.int .i64 y2) := hcr 1 (by decide)
            have d2 : wr.cell? ⟨g, off + k * 4 + 2, none⟩ = some (.int .i64 y3) := hcr 2 (by decide)
            have d3 : wr.cell? ⟨g, off + k * 4 + 3, none⟩ = some (.int .i64 y4) := hcr 3 (by decide)
            have hgw : g < wr.heap.size := Nat.lt_of_lt_of_le hg3 hB.out.size
            have HW2 : Hid (Below wr.heap.size wr ((wr.alloc (.cells #[.int .i64 y1, .int .i64 y2, .int .i64 y3, .int .i64 y4] 44)).alloc (.cells #[.int .i64 y1, .int .i64 y2, .int .i64 y3, .int .i64 y4] 38))) := Lib.hid (nb_alloc (nb_alloc (Below.refl _ _) _) _)
            have HW2B : Hid (((wr.alloc (.cells #[.int .i64 y1, .int .i64 y2, .int .i64 y3, .int .i64 y4] 44)).alloc (.cells #[.int .i64 y1, .int .i64 y2, .int .i64 y3, .int .i64 y4] 38)).heap[wr.heap.size + 1]? = some (.cells #[.int .i64 y1, .int .i64 y2, .int .i64 y3, .int .i64 y4] 38)) := Lib.hid (heap_alloc2_new _ _ _)
            have HT2 := Lib.hid (HTW.out.later HW2.out)
            have HB2 := Lib.hid (nb_trans hB.out HW2.out)
            clear hcr hcc hy HC3
            go_wp2
            generalize (wr.alloc (.cells #[.int .i64 y1, .int .i64 y2, .int .i64 y3, .int .i64 y4] 44)).alloc (.cells #[.int .i64 y1, .int .i64 y2, .int .i64 y3, .int .i64 y4] 38) = W2 at *
            have HW2L : Hid (wr.heap.size + 1 < W2.heap.size) := Lib.hid (Array.getElem?_eq_some_iff.1 HW2B.out).1
            clear d0 d1 d2 d3 hgw HW2 HTW hB
            generalize wr.heap.size + 1 = c9 at *
            go_loopw [49] (fun i wi => ∃ j : Nat, j ≤ 2 ∧ i = .int .i64 j ∧ Hid (Below W2.heap.size W2 wi)) (fun i _ => 2 - (intOf i).toNat)
            case atStart => exact ⟨0, by omega, rfl, Below.refl _ _⟩
            case round =>
              obtain ⟨j, hj, rfl, hBi⟩ := hrel
              by_cases hltj : j < 2
              · as_aux_lemma =>
                obtain ⟨x1, x2, HXO, e0, e1⟩ : ∃ x1 x2 : Int, Hid (okH (x1, x2)) ∧ wr.cell? ⟨c9, j * 2, none⟩ = some (.int .i64 x1) ∧ wr.cell? ⟨c9, j * 2 + 1, none⟩ = some (.int .i64 x2) := by
                  have hb : wr.heap[c9]? = _ := (hBi.out.block _ HW2L.out).trans HW2B.out
                  rcases (show j = 0 ∨ j = 1 by omega) with rfl | rfl
                  · exact ⟨y1, y2, Lib.hid HYO.out.1, by rw [cell_of_row _ _ _ _ _ _ hb]; rfl, by rw [cell_of_row _ _ _ _ _ _ hb]; rfl⟩
                  · exact ⟨y3, y4, Lib.hid HYO.out.2, by rw [cell_of_row _ _ _ _ _ _ hb]; rfl, by rw [cell_of_row _ _ _ _ _ _ hb]; rfl⟩
                have hcl : c9 < wr.heap.size := Nat.lt_of_lt_of_le HW2L.out hBi.out.size
                obtain ⟨U, hU, -⟩ := HOK.out.undAt (x1, x2)
                have HU := Lib.hid hU
                have HN2 : Hid (s.length * 32 ≤ 140737488355328) := Lib.hid (by have := HSN.out; omega)
                have HWA : Hid (Below wr.heap.size wr (wr.alloc (.cells #[.int .i64 x1, .int .i64 x2] 38))) := Lib.hid (nb_alloc (Below.refl _ _) _)
                have HTI := Lib.hid (HT2.out.later (nb_trans hBi.out HWA.out))
                have HXX : Hid ((wr.alloc (.cells #[.int .i64 x1, .int .i64 x2] 38)).heap[wr.heap.size]? = some (.cells #[.int .i64 x1, .int .i64 x2] 38)) := Lib.hid (heap_alloc_new _ _)
                clear hU
                go_wp2_with fail
                generalize wr.alloc (.cells #[.int .i64 x1, .int .i64 x2] 38) = A at *
                have hAl := (Array.getElem?_eq_some_iff.1 HXX.out).1
                have HSA : Hid (∀ Y, Below A.heap.size A Y → (Y.cell? ⟨wr.heap.size, 0, none⟩ = some (.int .i64 x1) ∧ Y.cell? ⟨wr.heap.size, 1, none⟩ = some (.int .i64 x2))) := Lib.hid (fun Y hY => by
                  have hb : Y.heap[wr.heap.size]? = _ := (hY.block _ hAl).trans HXX.out
                  exact ⟨by rw [cell_of_row _ _ _ _ _ _ hb]; rfl, by rw [cell_of_row _ _ _ _ _ _ hb]; rfl⟩)
                obtain ⟨ka0, ka1⟩ := HSA.out A (Below.refl _ _)
                clear e0 e1 hcl
                go_region_held3 (fun x => (x.cell? ⟨wr.heap.size, 0, none⟩ = some (.int .i64 x1) ∧ x.cell? ⟨wr.heap.size, 1, none⟩ = some (.int .i64 x2))) (first | go_keep | exact HSA.out _ Ba.out | exact HSA.out _ Bb.out | exact HSA.out _ Bc.out | exact HSA.out _ Bd.out | exact HSA.out _ Be.out | exact HSA.out _ Bf.out) (first
                  | ((go_at_call 16; refine (famChildren_any X.heap.size F s x1 x2 _ (HTI.out.later (Below.refl _ _).drew).fam HOK.out.sorted HN2.out).mono ?_; rintro e xa ⟨ua1, rfl, ho, hb⟩; have Ra := Lib.hid ho.reads; have Ba : Hid (Below A.heap.size A xa) := Lib.hid (nb_trans (Below.refl _ _).drew hb); clear ho hb))
                  | ((go_at_call 17; refine (refChildren_any q G s x1 x2 _ (HTI.out.later Ba.out).bon HN2.out).mono ?_; rintro e xb ⟨ub1, rfl, ho, hb⟩; have Rb := Lib.hid ho.reads; have Rc := Lib.hid (Ra.out.later hb); have Bb := Lib.hid (nb_trans Ba.out hb); clear ho hb Ra))
                  | ((go_at_call 15; refine (eqHand_any _ _ (kids s (x1, x2)) (kids s (x1, x2)) _ Rc.out Rb.out).mono ?_; rintro e xc ⟨rfl, hb⟩; rw [decide_eq_true rfl]; have Bc := Lib.hid (nb_trans Bb.out hb); clear hb Rc Rb))
                  | ((go_at_call 18; refine (famUnder_at X.heap.size F s x1 x2 U HU.out _ (HTI.out.later Bc.out).fam HOK.out HXO.out HN2.out).mono ?_; rintro e xd ⟨ud1, rfl, ho, hb⟩; have Rd := Lib.hid ho.reads; have Bd := Lib.hid (nb_trans Bc.out hb); clear ho hb))
                  | ((go_at_call 19; refine (refUnder_at q G s x1 x2 U HU.out _ (HTI.out.later Bd.out).bon HOK.out HN2.out).mono ?_; rintro e xe ⟨ue1, rfl, ho, hb⟩; have Re := Lib.hid ho.reads; have Rf := Lib.hid (Rd.out.later hb); have Be := Lib.hid (nb_trans Bd.out hb); clear ho hb Rd))
                  | ((go_at_call 15; refine (eqHand_any _ _ U U _ Rf.out Re.out).mono ?_; rintro e xf ⟨rfl, hb⟩; rw [decide_eq_true rfl]; have Bf := Lib.hid (nb_trans Be.out hb); clear hb Rf Re)) | fail "none")
                have HEND : Hid (Below W2.heap.size W2 xf) := Lib.hid (nb_trans (nb_trans hBi.out HWA.out) Bf.out)
                go_wp2
                go_roundw
                case rel => exact ⟨j + 1, by omega, by go_num, HEND⟩
                case measure => simp [intOf]; omega
              · obtain rfl : j = 2 := by omega
                have HEND : Hid (Below w3.heap.size w3 wr) := Lib.hid (nb_trans HB2.out hBi.out)
                go_wp2
                go_roundw
                case rel => exact ⟨k + 1, by omega, by go_num, HEND⟩
                case measure => simp [intOf]; omega
          · have hnl : ¬ ((k : Int) < (s.length : Int) + 1) := by omega
            have HSM : Hid (s.length < maxLen) := Lib.hid (by have := HSN.out; unfold maxLen; omega)
            have HP := Lib.hid (adoptB_yes (bs := s) (c := (0, 0)) (p := (0, 0)) (.inl rfl))
            have H00 : Hid (okH (0, 0)) := Lib.hid ⟨⟨by decide, by decide⟩, ⟨by decide, by decide⟩⟩
            have HT4 := Lib.hid (HT3.out.later hB.out)
            go_wp2_with fail
            refine (famAdopt_by _ F s 0 0 0 0 8 s _ HT4.out.fam HOK.out H00.out H00.out HSM.out HP.out.2 HP.out.1).mono ?_
            rintro e w9 ⟨rfl, F9, h9, hk9, hm9⟩
            have HBN : Hid (Below w.heap.size w w9) := Lib.hid (nb_trans HX.out (HT4.out.below.trans (hk9.below HT4.out.below.size HT4.out.fb)))
            clear h9 hk9 hm9
            go_wp2
            go_ret
            exact ⟨rfl, HBN.out⟩
namespace familyTells
theorem own : ownKnob Try.prog.godebug = none := by kernel_rfl
theorem laidOut : laidOutB Try.prog = true := by kernel_rfl

set_option maxRecDepth 100000 in
set_option maxHeartbeats 4000000 in
theorem lifted (os : Os) (started : os.Started) (H : Type) (enc : TypeId × Value → H) :
    ReturnsInHanded {} Try.checked os 4 .any (Rows.familyTellsSpec.pre6 enc Try.prog Try.f4 Rows.familyTellsRow.domain false) (Rows.familyTellsSpec.post enc Try.prog Try.f4 false true false false) := by
  refine returnsInHanded_of_change_sized (C := Try.checked) own started (by kernel_rfl) Try.func4
    (ChangeSpec.witness6 (enc := enc) (C := Try.checked) false ⟨#[], #[.slice none 0 0, .agg #[.int .i64 0, .int .i64 0]], []⟩ 8 (by kernel_rfl) (by kernel_rfl) (by kernel_rfl) (by kernel_rfl)) ?_
  intro W base args ds gs before hval0 hW hcnd hsz _
  have hval : ∀ (j : Nat) t v, Try.f4.params[j]? = some t → args[j]? = some v → Value.okWide Try.prog W .any base t v := hval0
  have hW' := hW
  obtain ⟨p, q, hA0, hV, rfl, hfz, hnd⟩ := hW
  have hA : DataW.TrodAll enc Try.prog W 0 (fun _ => true) true Try.f4.params.toList args.toList ds p := hA0
  rw [Try.params4] at hA hval
  obtain ⟨v0, vs0, d0, ds0, p0, q0, hargs, rfl, rfl, h0, r0⟩ := trodAll_cons hA
  obtain ⟨v1, vs1, d1, ds1, p1, q1, rfl, rfl, rfl, h1, r1⟩ := trodAll_cons r0
  obtain ⟨rfl, rfl, rfl⟩ := trodAll_nil r1
  obtain rfl : args = #[v0, v1] := by cases args; simp_all
  obtain ⟨rfl, rfl⟩ := trodVars_none hV
  have k0' := h0
  have lt0 : ∀ x ∈ p0, x.block < W.heap.size := by obtain ⟨m, hm⟩ := h0; exact DataW.trod_lt m _ _ _ hm
  have k1' := h1
  have lt1 : ∀ x ∈ p1, x.block < W.heap.size := by obtain ⟨m, hm⟩ := h1; exact DataW.trod_lt m _ _ _ hm
  obtain ⟨z0, i0, j0⟩ : ∃ zs, Reads elOp W v0 zs ∧ ∀ x ∈ zs, OpOk x := by
    obtain ⟨a0, len0, cap0, rfl⟩ := okWide_slice Try.underlying22 (hval 0 22 v0 rfl rfl)
    exact Reads_ofP elOp OpOk Try.underlying22 (by kernel_rfl) op_dec h0
  obtain ⟨a_1, b_1, rfl, i1⟩ : ∃ a_1 b_1 : Int, v1 = .agg #[.int .i64 a_1, .int .i64 b_1] ∧ (I64 a_1 ∧ I64 b_1) := by
    obtain ⟨zs, hl, rfl, hz⟩ := open_flat 3 2 Try.underlying38 (by kernel_rfl) (by kernel_rfl) (hval 1 38 v1 rfl rfl) h1
    obtain ⟨a_1, b_1, rfl⟩ := list2 hl
    exact ⟨a_1, b_1, rfl, hz a_1 (by simp), hz b_1 (by simp)⟩
  rw [Try.params4] at hsz
  have s0 : z0.length * 128 ≤ 140737488351232 := by
    obtain ⟨aa, cc, ee, _⟩ := i0
    have hh := k0'
    rw [ee] at hh
    exact trod_len Try.underlying22 (show Try.prog.bytesOf 40 = 128 by kernel_rfl) hh (fun el sp hd => sized_slice hsz (j := 0) (t := 22) rfl (by rw [hd]; rfl) Try.underlying22)
  clear hA0 hval0
  refine (familyTells_walk v0 z0 j0 a_1 b_1 i1 W i0 s0).mono fun e W' ⟨he, bel⟩ => ?_
  subst he
  exact ⟨_, rfl, _, _, _, [], _, [], hW', trodAll_mk1 (shut_bool Try.underlying4 _), (trodAll_cons_mk (Below.trod laidOut (by kernel_rfl) (of_decide_eq_true (by kernel_rfl)) k0' bel lt0) (trodAll_cons_mk (Below.trod laidOut (by kernel_rfl) (of_decide_eq_true (by kernel_rfl)) k1' bel lt1) trodAll_mk0)), rfl, bel.frame _, fun h => by cases h⟩
end familyTells

theorem familyTells_proved : Rows.FamilyTellsSaid :=
  OpenClaim.holds_of_wide 4 Try.f4 rfl rfl rfl rfl rfl rfl rfl ⟨rfl, rfl, rfl, rfl, rfl⟩ rfl rfl rfl rfl rfl (by kernel_rfl) Try.func4 (by kernel_rfl)
    (of_decide_eq_true (by kernel_rfl)) (by unfold Func.isWrapper; first | (rw [if_pos (by decide +kernel)]; kernel_rfl) | (rw [if_neg (by decide +kernel)]; exact ⟨rfl, rfl⟩))
    (fun os started H enc _ => familyTells.lifted os started H enc)

end Go.Proofs.Ytlclceiebnnpgaa

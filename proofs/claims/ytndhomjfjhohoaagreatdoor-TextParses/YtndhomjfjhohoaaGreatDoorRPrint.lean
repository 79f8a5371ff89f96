
/- The reference's Print. -/
import Derived.Test.YtndhomjfjhohoaaGreatDoorRDigits
import Derived.Test.YtndhomjfjhohoaaGreatDoorREqRow
import Derived.Test.YtndhomjfjhohoaaGreatDoorTextQ
import Derived.Test.YtndhomjfjhohoaaGreatDoorZooRefLoad
import Derived.Test.YtndhomjfjhohoaaGreatDoorTextSame
namespace Go.Proofs.YtndhomjfjhohoaaGreatDoor
set_option maxRecDepth 8000
set_option maxRecDepth 8000
set_option linter.unusedSimpArgs false
open Go Go.RowKit

theorem zf_cells {w : World} {q : Nat} {G : Nat → Prop} {s : Zs} (h : ZfAt w q G s) : ∃ va vl vL vB, w.heap[q]? = some (.cells #[va, vl, vL, vB] 81) ∧ Reads elRow w vL s.rows ∧ Reads elBond w vB s.bs := by
  obtain ⟨G0, G1, vB, hz, -⟩ := h
  obtain ⟨c, vL, hzi⟩ := hz.zoo
  obtain ⟨vg, vl, hq, -⟩ := hzi.slots
  exact ⟨vg, vl, vL, vB, hq, hzi.own.reads, hz.own.reads⟩
/-- strings, one after another, as the two operations of a concatenation -/
theorem add_is {P : Program} {a b c : List UInt8} (h : a ++ b = c) (hl : c.length ≤ 1000000000) (x : World) : (Op.stringOp .add { data := a.toArray } { data := b.toArray }).run P x = .ok (.string { data := c.toArray }) x := by
  have := add_run (P := P) a b (by have := congrArg List.length h; rw [List.length_append] at this; omega) x
  rw [h] at this; exact this
theorem itoa_len {n : Int} (h : J9 n) : (Lib.itoa n).length ≤ 21 := Lib.itoa_length_le n (by have := h.1; omega) (by have := h.2; omega)
theorem digJ {n : Int} (h : J9 n) (w : World) : Calls Tryz.prog 31 #[.int .i64 n] w fun e w' => e = .returned (.string (bs (Lib.itoa n))) ∧ Below w.heap.size w w' := digits_any n ⟨by have := h.1; omega, by have := h.2; omega⟩ w

theorem row_f {W : World} {p : Nat} {r : Rw} {T : TypeId} (h : W.heap[p]? = some (.cells #[.int .i64 r.s, .int .i64 r.g, .int .i64 r.m, .int .i64 (r.f 0), .int .i64 (r.f 1), .int .i64 (r.f 2), .int .i64 (r.f 3), .int .i64 (r.f 4), .int .i64 (r.f 5), .int .i64 (r.f 6), .int .i64 (r.f 7)] T)) : ∀ {j : Nat}, j < 8 → W.cell? ⟨p, 3 + j, none⟩ = some (.int .i64 (r.f j))
  | 0, _ => by rw [cell_of_row _ _ _ _ _ _ h]; rfl
  | 1, _ => by rw [cell_of_row _ _ _ _ _ _ h]; rfl
  | 2, _ => by rw [cell_of_row _ _ _ _ _ _ h]; rfl
  | 3, _ => by rw [cell_of_row _ _ _ _ _ _ h]; rfl
  | 4, _ => by rw [cell_of_row _ _ _ _ _ _ h]; rfl
  | 5, _ => by rw [cell_of_row _ _ _ _ _ _ h]; rfl
  | 6, _ => by rw [cell_of_row _ _ _ _ _ _ h]; rfl
  | 7, _ => by rw [cell_of_row _ _ _ _ _ _ h]; rfl
def T2 (g : List Int) (rs : List Rw) : List UInt8 := (lnW gensW g ++ [10]) ++ rs.flatMap fun r => rowLn r ++ [10]
def T4 (g : List Int) (rs : List Rw) (bs : List Bd) : List UInt8 := T2 g rs ++ bs.flatMap fun b => bondLn b ++ [10]
theorem T4_text (g : List Int) (rs : List Rw) (bs : List Bd) : T4 g rs bs = textT g rs bs := by
  simp [T4, T2, textT, lnsT, List.flatMap_map]
theorem T4_take (g : List Int) (rs : List Rw) (bs : List Bd) (k : Nat) : (T4 g rs (bs.take k)).length ≤ (textT g rs bs).length := by
  rw [← T4_text]
  unfold T4
  rw [List.length_append, List.length_append]
  conv => rhs; rw [← List.take_append_drop k bs, List.flatMap_append, List.length_append]
  omega
theorem T2_take (g : List Int) (rs : List Rw) (bs : List Bd) (k : Nat) : (T2 g (rs.take k)).length ≤ (textT g rs bs).length := by
  rw [← T4_text]
  unfold T4 T2
  have h : (rs.flatMap fun r => rowLn r ++ [10]) = ((rs.take k).flatMap fun r => rowLn r ++ [10]) ++ ((rs.drop k).flatMap fun r => rowLn r ++ [10]) := by rw [← List.flatMap_append, List.take_append_drop]
  rw [h]
  simp only [List.length_append]
  omega
theorem T2_snoc (g : List Int) (rs : List Rw) (r : Rw) : T2 g (rs ++ [r]) = T2 g rs ++ (rowLn r ++ [10]) := by simp [T2]
theorem T4_snoc (g : List Int) (rs : List Rw) (bs : List Bd) (b : Bd) : T4 g rs (bs ++ [b]) = T4 g rs bs ++ (bondLn b ++ [10]) := by simp [T4]
set_option maxHeartbeats 16000000 in
theorem refPrint_any (vg vr vb : Value) (gens : List Int) (rs : List Rw) (bds : List Bd) (w : World) (hg : Ints w vg gens) (hr : Reads elRow w vr rs) (hb : Reads elBond w vb bds) :
    Calls Tryz.prog 9 #[.agg #[vg, vr, vb]] w fun e w' => e = .returned (.tuple #[.string (bs (prT gens rs bds)), .int .i64 (prE gens rs bds)]) ∧ Below w.heap.size w w' := by
  have HG := Lib.hid hg
  have HR := Lib.hid hr
  have HB := Lib.hid hb
  obtain ⟨gn, hgn⟩ : ∃ n, gens.length = n := ⟨_, rfl⟩
  obtain ⟨rn, hrn⟩ : ∃ n, rs.length = n := ⟨_, rfl⟩
  obtain ⟨bn, hbn⟩ : ∃ n, bds.length = n := ⟨_, rfl⟩
  have HGN := Lib.hid hgn
  have HRN := Lib.hid hrn
  have HBN := Lib.hid hbn
  obtain ⟨ga, gc, hge, -, hgm, hgcc⟩ := hg
  obtain ⟨ra, rc, hre, -, hrm, hrcc⟩ := hr
  obtain ⟨ba, bc, hbe, -, hbm, hbcc⟩ := hb
  have HGC := Lib.hid hgcc
  have HRC := Lib.hid hrcc
  have HBC := Lib.hid hbcc
  rw [hgn] at hge HGC
  rw [hrn] at hre HRC
  rw [hbn] at hbe HBC
  subst hge hre hbe
  clear hgn hrn hbn hgcc hrcc hbcc hgm hrm hbm
  have hX : Below w.heap.size w (w.alloc (.cells #[.slice ga gn gc, .slice ra rn rc, .slice ba bn bc] 26)) := nb_alloc (Below.refl _ _) _
  have hxb : (w.alloc (.cells #[.slice ga gn gc, .slice ra rn rc, .slice ba bn bc] 26)).heap[w.heap.size]? = some (.cells #[.slice ga gn gc, .slice ra rn rc, .slice ba bn bc] 26) := heap_alloc_new _ _
  have HX := Lib.hid hX
  have HXB := Lib.hid hxb
  have HL := Lib.hid (zfLoad_any _ _ _ gens rs bds _ (HG.out.later hX) (HR.out.later hX) (HB.out.later hX))
  clear hX hxb
  go_enter Tryz.func9, Tryz.ntmps9
  go_wp2_with (go_at_call 28; refine HL.out.mono ?_; rintro e W1 ⟨u, rfl, hb1, -, hgood⟩; refine Hid.out ?_)
  refine Lib.hid ?_
  have HB1 := Lib.hid (nb_trans HX.out hb1)
  have hq1 := (hb1.block _ (Array.getElem?_eq_some_iff.1 HXB.out).1).trans HXB.out
  have HQ1 := Lib.hid hq1
  obtain ⟨z, hz⟩ : ∃ z, zldE gens rs bds = z := ⟨_, rfl⟩
  have HGD := Lib.hid hgood
  rw [hz] at HGD ⊢
  have HZ := Lib.hid hz
  clear hb1 hq1 hgood hz HL
  by_cases hz0 : z = 0
  · subst hz0
    obtain ⟨q, G, rfl, hzf, -⟩ := HGD.out rfl
    obtain ⟨va, vl, vL, vB, hqz, hrL, hrB⟩ := zf_cells hzf
    have HQZ := Lib.hid hqz
    have HRL := Lib.hid hrL
    have HRB := Lib.hid hrB
    have hwz : wldE gens rs = 0 := Classical.byContradiction (fun hc => by have := HZ.out; rw [zldE, if_neg hc] at this; exact hc this)
    have HSR := Lib.hid (sortR_iff hwz)
    have HAB := Lib.hid (accB_iff HZ.out)
    have HEQ : Hid (∀ y : Later W1, Calls Tryz.prog 29 #[vL, .slice ra rn rc] y.w fun e w' => e = .returned (.bool (upS rs)) ∧ Below y.w.heap.size y.w w') := Lib.hid (fun y =>
      (eqRow_any _ _ (zldZ gens rs bds).rows rs y.w (HRL.out.later y.below) ((HR.out.later HB1.out).later y.below) HSR.out.2).mono fun e w' ⟨⟨t, he, ht⟩, hb⟩ => ⟨by
        rw [he]
        have h2 : t = true ↔ upS rs = true := ht.trans HSR.out.1
        cases t <;> cases hu : upS rs <;> simp_all, hb⟩)
    have HEB : Hid (∀ y : Later W1, Calls Tryz.prog 30 #[vB, .slice ba bn bc] y.w fun e w' => e = .returned (.bool (upC bds)) ∧ Below y.w.heap.size y.w w') := Lib.hid (fun y =>
      (eqBond_any _ _ (zldZ gens rs bds).bs bds y.w (HRB.out.later y.below) ((HB.out.later HB1.out).later y.below)).mono fun e w' ⟨he, hb⟩ => ⟨by
        rw [he, show decide ((zldZ gens rs bds).bs = bds) = upC bds from by
          have := HAB.out
          show decide (accB bds = bds) = upC bds
          cases hu : upC bds
          · rw [hu] at this; exact decide_eq_false (fun h => by cases this.1 h)
          · rw [hu] at this; exact decide_eq_true (this.2 rfl)], hb⟩)
    obtain ⟨La, Lc, hLe, -⟩ := hrL
    obtain ⟨Ba, Bc, hBe, -⟩ := hrB
    generalize (zldZ gens rs bds).rows.length = Ln at *
    generalize (zldZ gens rs bds).bs.length = Bn at *
    subst hLe hBe
    have kq2 : ∀ y : Later W1, y.w.cell? ⟨q, 2, none⟩ = some (.slice La Ln Lc) := fun y => y.cell (by rw [cell_of_row _ _ _ _ _ _ HQZ.out]; rfl)
    have kq3 : ∀ y : Later W1, y.w.cell? ⟨q, 3, none⟩ = some (.slice Ba Bn Bc) := fun y => y.cell (by rw [cell_of_row _ _ _ _ _ _ HQZ.out]; rfl)
    have kw1 : ∀ y : Later W1, y.w.cell? ⟨w.heap.size, 1, none⟩ = some (.slice ra rn rc) := fun y => y.cell (by rw [cell_of_row _ _ _ _ _ _ HQ1.out]; rfl)
    have kw2 : ∀ y : Later W1, y.w.cell? ⟨w.heap.size, 2, none⟩ = some (.slice ba bn bc) := fun y => y.cell (by rw [cell_of_row _ _ _ _ _ _ HQ1.out]; rfl)
    have hql : ∀ y : Later W1, q < y.w.heap.size := fun y => Nat.lt_of_lt_of_le (Array.getElem?_eq_some_iff.1 HQZ.out).1 y.below.size
    have hwl : ∀ y : Later W1, w.heap.size < y.w.heap.size := fun y => Nat.lt_of_lt_of_le (Array.getElem?_eq_some_iff.1 HQ1.out).1 y.below.size
    clear hzf hqz hwz HGD HSR HAB
    obtain ⟨us, hus⟩ : ∃ t, upS rs = t := ⟨_, rfl⟩
    obtain ⟨uc, huc⟩ : ∃ t, upC bds = t := ⟨_, rfl⟩
    rw [hus] at HEQ
    rw [huc] at HEB
    cases us
    · have HPE : Hid (prE gens rs bds = 4) := Lib.hid (by rw [prE, if_pos HZ.out, hus]; rfl)
      have HPT : Hid (prT gens rs bds = []) := Lib.hid (by rw [prT, if_neg (by rw [HPE.out]; decide)])
      clear hus huc
      go_wp2_with fail
      refine wp_region_later (by kernel_rfl) (by kernel_rfl) ?_
      repeat (go_big_quiet_step ((first | (go_at_call 29; exact Calls.later (HEQ.out _)) | (go_at_call 30; exact Calls.later (HEB.out _)))))
      refine wpQuiet_nil ?_
      rintro _ ⟨nq, rfl⟩
      have HBN := Lib.hid (nb_trans HB1.out nq.below)
      go_wp2
      go_ret2
      exact ⟨by rw [HPE.out, HPT.out]; rfl, HBN.out⟩
    · cases uc
      · have HPE : Hid (prE gens rs bds = 4) := Lib.hid (by rw [prE, if_pos HZ.out, hus, huc]; rfl)
        have HPT : Hid (prT gens rs bds = []) := Lib.hid (by rw [prT, if_neg (by rw [HPE.out]; decide)])
        clear hus huc
        go_wp2_with fail
        refine wp_region_later (by kernel_rfl) (by kernel_rfl) ?_
        repeat (go_big_quiet_step ((first | (go_at_call 29; exact Calls.later (HEQ.out _)) | (go_at_call 30; exact Calls.later (HEB.out _)))))
        refine wpQuiet_nil ?_
        rintro _ ⟨nq, rfl⟩
        have HBN := Lib.hid (nb_trans HB1.out nq.below)
        go_wp2
        go_ret2
        exact ⟨by rw [HPE.out, HPT.out]; rfl, HBN.out⟩
      · have HPE : Hid (prE gens rs bds = 0) := Lib.hid (by rw [prE, if_pos HZ.out, hus, huc]; rfl)
        have HPT : Hid (prT gens rs bds = textT gens rs bds) := Lib.hid (by rw [prT, if_pos HPE.out])
        have HTL := Lib.hid (text_len HZ.out)
        obtain ⟨hfn, hg60, hr60, hb60⟩ := Fine.of HZ.out
        have HFN := Lib.hid hfn
        rw [HGN.out] at hg60
        rw [HRN.out] at hr60
        rw [HBN.out] at hb60
        clear hus huc hfn
        go_wp2_with fail
        refine wp_region_later (by kernel_rfl) (by kernel_rfl) ?_
        repeat (go_big_quiet_step ((first | (go_at_call 29; exact Calls.later (HEQ.out _)) | (go_at_call 30; exact Calls.later (HEB.out _)))))
        refine wpQuiet_nil ?_
        rintro _ ⟨nq, rfl⟩
        have HBV := Lib.hid (nb_trans HB1.out nq.below)
        have HQV := Lib.hid ((nq.below.block _ (Array.getElem?_eq_some_iff.1 HQ1.out).1).trans HQ1.out)
        generalize nq.w = V at *
        clear kq2 kq3 kw1 kw2 hql hwl HEQ HEB HQZ HRL HRB HQ1 HB1
        have hwV : w.heap.size < V.heap.size := (Array.getElem?_eq_some_iff.1 HQV.out).1
        have c0 : V.cell? ⟨w.heap.size, 0, none⟩ = some (.slice ga gn gc) := by rw [cell_of_row _ _ _ _ _ _ HQV.out]; rfl
        go_wp2
        go_loopw [6, 44] (fun s6 i wr => ∃ (k : Nat) (A : List UInt8), k ≤ gn ∧ s6 = .string (bs A) ∧ i = .int .i64 k ∧ Hid (A = lnW gensW (gens.take k)) ∧ Hid (Below w.heap.size w wr) ∧ Hid (Below V.heap.size V wr)) (fun _ i _ => gn - (intOf i).toNat)
        case atStart => exact ⟨0, gensW, by omega, rfl, rfl, Lib.hid (by simp [lnW]), HBV, Lib.hid (Below.refl _ _)⟩
        case round =>
          obtain ⟨k, A, hk, rfl, rfl, hA, hB, hBq⟩ := hrel
          by_cases hlt : k < gn
          · obtain ⟨b, off, rfl, hbl, hck0⟩ := HGC.out k hlt
            have hck : wr.cell? ⟨b, off + k, none⟩ = some (.int .i64 (gens.getD k 0)) := by rw [hB.out.cell (p := ⟨b, off + k, none⟩) hbl]; exact hck0
            have hkl : k < gens.length := by rw [HGN.out]; exact hlt
            have hy9 : J9 (gens.getD k 0) := HFN.out.gi _ (memD hkl)
            have HT : Hid (gens.take (k + 1) = gens.take k ++ [gens.getD k 0]) := Lib.hid (take_snoc hkl)
            have hAl : A.length ≤ 4 + 22 * 60 := by
              have := lnW_len gensW (ns := gens.take k) (fun n hn => (HFN.out.gi n (List.mem_of_mem_take hn)).i64)
              rw [List.length_take, HGN.out] at this
              have h4 : gensW.length = 4 := rfl
              rw [hA.out]; omega
            have hbw : b < wr.heap.size := Nat.lt_of_lt_of_le hbl hB.out.size
            generalize gens.getD k 0 = y at *
            have HIT := Lib.hid (digJ hy9 wr)
            have hl21 := itoa_len hy9
            obtain ⟨D1, hD1⟩ : ∃ D, Lib.itoa (y) = D := ⟨_, rfl⟩
            rw [hD1] at HIT hl21
            obtain ⟨E, hE⟩ : ∃ Zz : List UInt8, ([32] : List UInt8) ++ D1 = Zz := ⟨_, rfl⟩
            obtain ⟨C, hC⟩ : ∃ Zz : List UInt8, A ++ E = Zz := ⟨_, rfl⟩
            have lE := congrArg List.length hE
            simp only [List.length_append, List.length_cons, List.length_nil] at lE
            have lC := congrArg List.length hC
            simp only [List.length_append, List.length_cons, List.length_nil] at lC
            have rE := add_is (P := Tryz.prog) hE (by omega)
            have rC := add_is (P := Tryz.prog) hC (by omega)
            have HCC : Hid (C = lnW gensW (gens.take (k + 1))) := Lib.hid (by rw [HT.out, lnW_snoc, ← hA.out, ← hC, ← hE, ← hD1]; rfl)
            clear hC hE hD1 hck0 hkl hy9 hAl lE lC
            go_wp2_with (go_at_call 31; refine HIT.out.mono ?_; rintro e w2 ⟨rfl, hb2⟩; refine Hid.out ?_)
            refine Lib.hid ?_
            have HB2 := Lib.hid (nb_trans hB.out hb2)
            have HB2q := Lib.hid (nb_trans hBq.out hb2)
            clear hb2 hck
            go_wp2
            go_roundw
            case rel => exact ⟨k + 1, C, by omega, rfl, by go_num, HCC, HB2, HB2q⟩
            case measure => simp [intOf]; omega
          · obtain rfl : k = gn := by omega
            have hAl : A.length ≤ 4 + 22 * 60 := by
              have := lnW_len gensW (ns := gens.take k) (fun n hn => (HFN.out.gi n (List.mem_of_mem_take hn)).i64)
              rw [List.length_take, HGN.out] at this
              have h4 : gensW.length = 4 := rfl
              rw [hA.out]; omega
            obtain ⟨C, hC⟩ : ∃ Zz : List UInt8, A ++ ([10] : List UInt8) = Zz := ⟨_, rfl⟩
            have lC := congrArg List.length hC
            simp only [List.length_append, List.length_cons, List.length_nil] at lC
            have rC := add_is (P := Tryz.prog) hC (by omega)
            have HL1 : Hid (C = T2 gens []) := Lib.hid (by rw [← hC, hA.out, List.take_of_length_le (by rw [HGN.out]; exact Nat.le_refl _)]; simp [T2])
            have HQW := Lib.hid ((hBq.out.block _ (Array.getElem?_eq_some_iff.1 HQV.out).1).trans HQV.out)
            clear hC lC hAl hA c0 HBV HQV HGC
            have HBW := hB
            generalize wr = W at *
            clear hB hBq hwV
            have hwW : w.heap.size < W.heap.size := (Array.getElem?_eq_some_iff.1 HQW.out).1
            have c1 : W.cell? ⟨w.heap.size, 1, none⟩ = some (.slice ra rn rc) := by rw [cell_of_row _ _ _ _ _ _ HQW.out]; rfl
            go_wp2
            clear c1
            go_loopw [6, 59] (fun s6 i wr => ∃ (k2 : Nat) (A : List UInt8), k2 ≤ rn ∧ s6 = .string (bs A) ∧ i = .int .i64 k2 ∧ Hid (A = T2 gens (rs.take k2)) ∧ Hid (Below w.heap.size w wr) ∧ Hid (Below W.heap.size W wr)) (fun _ i _ => rn - (intOf i).toNat)
            case atStart => exact ⟨0, C, by omega, rfl, rfl, Lib.hid (by rw [HL1.out, List.take_zero]), HBW, Lib.hid (Below.refl _ _)⟩
            case round =>
              obtain ⟨k2, A2, hk2, rfl, rfl, hA2, hB, hBq⟩ := hrel
              have hAl2 : A2.length ≤ 1000000 := by
                rw [hA2.out]; exact Nat.le_trans (T2_take gens rs bds k2) HTL.out
              by_cases hlt2 : k2 < rn
              · as_aux_lemma =>
                obtain ⟨b, off, rfl, hbl, hck0⟩ := HRC.out k2 hlt2
                have hkl : k2 < rs.length := by rw [HRN.out]; exact hlt2
                obtain ⟨r, hr⟩ : ∃ r, rs.getD k2 rowZ = r := ⟨_, rfl⟩
                have hck : ∀ j, j < 11 → wr.cell? ⟨b, off + k2 * 11 + j, none⟩ = (elRow.enc r)[j]? := fun j hj => by rw [hB.out.cell (p := ⟨b, off + k2 * 11 + j, none⟩) hbl, ← hr]; exact hck0 j hj
                have hfr : FineR r := by rw [← hr]; exact HFN.out.ri _ (memD hkl)
                have HT : Hid (T2 gens (rs.take (k2 + 1)) = T2 gens (rs.take k2) ++ (rowLn r ++ [10])) := Lib.hid (by rw [take_snocD rs k2 rowZ hkl, hr, T2_snoc])
                have hbw : b < wr.heap.size := Nat.lt_of_lt_of_le hbl hB.out.size
                obtain ⟨e0, e1, e2, e3, e4, e5, e6, e7, e8, e9, e10⟩ := lRow (O := off + k2 * 11) (r := r) hck
                have HBR := Lib.hid (nb_alloc hB.out (.cells #[.int .i64 r.s, .int .i64 r.g, .int .i64 r.m, .int .i64 (r.f 0), .int .i64 (r.f 1), .int .i64 (r.f 2), .int .i64 (r.f 3), .int .i64 (r.f 4), .int .i64 (r.f 5), .int .i64 (r.f 6), .int .i64 (r.f 7)] 54))
                have HBRq := Lib.hid (nb_alloc hBq.out (.cells #[.int .i64 r.s, .int .i64 r.g, .int .i64 r.m, .int .i64 (r.f 0), .int .i64 (r.f 1), .int .i64 (r.f 2), .int .i64 (r.f 3), .int .i64 (r.f 4), .int .i64 (r.f 5), .int .i64 (r.f 6), .int .i64 (r.f 7)] 54))
                have HXR := Lib.hid (heap_alloc_new wr (.cells #[.int .i64 r.s, .int .i64 r.g, .int .i64 r.m, .int .i64 (r.f 0), .int .i64 (r.f 1), .int .i64 (r.f 2), .int .i64 (r.f 3), .int .i64 (r.f 4), .int .i64 (r.f 5), .int .i64 (r.f 6), .int .i64 (r.f 7)] 54))
                clear hck hck0 hr hkl
                go_wp2_with fail
                clear e0 e1 e2 e3 e4 e5 e6 e7 e8 e9 e10
                generalize wr.alloc (.cells #[.int .i64 r.s, .int .i64 r.g, .int .i64 r.m, .int .i64 (r.f 0), .int .i64 (r.f 1), .int .i64 (r.f 2), .int .i64 (r.f 3), .int .i64 (r.f 4), .int .i64 (r.f 5), .int .i64 (r.f 6), .int .i64 (r.f 7)] 54) = R at *
                generalize wr.heap.size = p at *
                obtain ⟨js, jg, jm, jf⟩ := hfr
                have hs21 := itoa_len js
                have hg21 := itoa_len jg
                obtain ⟨D1, hD1⟩ : ∃ D, Lib.itoa (r.s) = D := ⟨_, rfl⟩
                obtain ⟨D2, hD2⟩ : ∃ D, Lib.itoa (r.g) = D := ⟨_, rfl⟩
                rw [hD1] at hs21
                rw [hD2] at hg21
                obtain ⟨E1, hE1⟩ : ∃ Zz : List UInt8, ([114, 111, 119, 32] : List UInt8) ++ D1 = Zz := ⟨_, rfl⟩
                obtain ⟨E2, hE2⟩ : ∃ Zz : List UInt8, E1 ++ ([32] : List UInt8) = Zz := ⟨_, rfl⟩
                obtain ⟨E3, hE3⟩ : ∃ Zz : List UInt8, E2 ++ D2 = Zz := ⟨_, rfl⟩
                obtain ⟨C2, hC2⟩ : ∃ Zz : List UInt8, A2 ++ E3 = Zz := ⟨_, rfl⟩
                have lE1 := congrArg List.length hE1
                simp only [List.length_append, List.length_cons, List.length_nil] at lE1
                have lE2 := congrArg List.length hE2
                simp only [List.length_append, List.length_cons, List.length_nil] at lE2
                have lE3 := congrArg List.length hE3
                simp only [List.length_append, List.length_cons, List.length_nil] at lE3
                have lC2 := congrArg List.length hC2
                simp only [List.length_append, List.length_cons, List.length_nil] at lC2
                have rE1 := add_is (P := Tryz.prog) hE1 (by omega)
                have rE2 := add_is (P := Tryz.prog) hE2 (by omega)
                have rE3 := add_is (P := Tryz.prog) hE3 (by omega)
                have rC2 := add_is (P := Tryz.prog) hC2 (by omega)
                have HIT1 : Hid (∀ y : Later R, Calls Tryz.prog 31 #[.int .i64 (r.s)] y.w fun e w' => e = .returned (.string { data := D1.toArray }) ∧ Below y.w.heap.size y.w w') := Lib.hid (fun y => by have := digJ (n := r.s) js y.w; rw [hD1] at this; exact this)
                have HIT2 : Hid (∀ y : Later R, Calls Tryz.prog 31 #[.int .i64 (r.g)] y.w fun e w' => e = .returned (.string { data := D2.toArray }) ∧ Below y.w.heap.size y.w w') := Lib.hid (fun y => by have := digJ (n := r.g) jg y.w; rw [hD2] at this; exact this)
                have kf0 : ∀ y : Later R, y.w.cell? ⟨p, 0, none⟩ = some (.int .i64 r.s) := fun y => y.cell (by rw [cell_of_row _ _ _ _ _ _ HXR.out]; rfl)
                have kf1 : ∀ y : Later R, y.w.cell? ⟨p, 1, none⟩ = some (.int .i64 r.g) := fun y => y.cell (by rw [cell_of_row _ _ _ _ _ _ HXR.out]; rfl)
                have hpl : ∀ y : Later R, p < y.w.heap.size := fun y => Nat.lt_of_lt_of_le (Array.getElem?_eq_some_iff.1 HXR.out).1 y.below.size
                have HC2 : Hid (C2 = A2 ++ lnW rowW [r.s, r.g]) := Lib.hid (by rw [← hC2, ← hE3, ← hE2, ← hE1, ← hD1, ← hD2]; simp [lnW, rowW, numW])
                have HC2l : C2.length ≤ 1000100 := by omega
                clear hC2 hE3 hE2 hE1 hD1 hD2 lE1 lE2 lE3 lC2
                refine wp_region_later (by kernel_rfl) (by kernel_rfl) ?_
                repeat (go_big_quiet_step ((first | (go_at_call 31; first | with_reducible exact Calls.later (HIT1.out _) | with_reducible exact Calls.later (HIT2.out _)))))
                refine wpQuiet_nil ?_
                rintro _ ⟨nq, rfl⟩
                have HBR2 := Lib.hid (nb_trans HBR.out nq.below)
                have HBR2q := Lib.hid (nb_trans HBRq.out nq.below)
                have HXR2 := Lib.hid ((nq.below.block _ (Array.getElem?_eq_some_iff.1 HXR.out).1).trans HXR.out)
                clear kf0 kf1 hpl HIT1 HIT2
                generalize nq.w = R2 at *
                have kf2 : R2.cell? ⟨p, 2, none⟩ = some (.int .i64 r.m) := by rw [cell_of_row _ _ _ _ _ _ HXR2.out]; rfl
                have hpl2 : p < R2.heap.size := (Array.getElem?_eq_some_iff.1 HXR2.out).1
                go_wp2_with fail
                refine (refKinds_any r.m R2).mono ?_
                rintro e R3 ⟨vk, rfl, hok, hb3⟩
                have HKI := Lib.hid (Ints.owns hok)
                have HB3 := Lib.hid (nb_trans HBR2.out hb3)
                have HB3q := Lib.hid (nb_trans HBR2q.out hb3)
                have HXR3 := Lib.hid ((hb3.block _ (Array.getElem?_eq_some_iff.1 HXR2.out).1).trans HXR2.out)
                have HKS : Hid (∀ z ∈ kinds r.m, ∃ j : Nat, j < 8 ∧ z = (j : Int)) := Lib.hid (fun z hz => by obtain ⟨j, hj, e, -⟩ := mem_kindsTo.1 hz; exact ⟨j, hj, e⟩)
                have HKL : Hid ((kinds r.m).length ≤ 8) := Lib.hid (kindsTo_len r.m 8)
                clear hok hb3 kf2 hpl2
                obtain ⟨ks, hks⟩ : ∃ ks, kinds r.m = ks := ⟨_, rfl⟩
                rw [hks] at HKI HKS HKL
                have HKK := Lib.hid hks
                clear hks
                obtain ⟨kn, hkn⟩ : ∃ n, ks.length = n := ⟨_, rfl⟩
                obtain ⟨ka, kc, hke, -, hkm, hkcc⟩ := HKI.out
                have HKC := Lib.hid hkcc
                rw [hkn] at hke HKC HKL
                have HKN := Lib.hid hkn
                have hkn8 : kn ≤ 8 := HKL.out
                subst hke
                clear hkn hkcc hkm HKI HBR HBRq HBR2 HBR2q HXR HXR2
                have HLR : Hid (rowLn r = lnW rowW [r.s, r.g] ++ ks.flatMap (kvW r.f)) := Lib.hid (by rw [rowLn, HKK.out])
                clear HKK
                go_wp2
                go_loopw [6, 81] (fun s6 i wr => ∃ (k3 : Nat) (A : List UInt8), k3 ≤ kn ∧ s6 = .string (bs A) ∧ i = .int .i64 k3 ∧ Hid (A = C2 ++ (ks.take k3).flatMap (kvW r.f)) ∧ Hid (Below R3.heap.size R3 wr)) (fun _ i _ => kn - (intOf i).toNat)
                case atStart => exact ⟨0, C2, by omega, rfl, rfl, Lib.hid (by simp), Lib.hid (Below.refl _ _)⟩
                case round =>
                  obtain ⟨k3, A3, hk3, rfl, rfl, hA3, hBb⟩ := hrel
                  have hA3l : A3.length ≤ 1000100 + 44 * 8 := by
                    have := kvs_len (f := r.f) (ks := ks.take k3) (fun z hz => by
                      obtain ⟨j, hj, rfl⟩ := HKS.out z (List.mem_of_mem_take hz)
                      exact ⟨⟨by omega, by omega⟩, by rw [Int.toNat_natCast]; exact (jf j hj).1.i64⟩)
                    rw [List.length_take, HKN.out] at this
                    have := HKL.out
                    rw [hA3.out, List.length_append]; omega
                  by_cases hlt3 : k3 < kn
                  · obtain ⟨b3, off3, rfl, hbl3, hck0⟩ := HKC.out k3 hlt3
                    have hck : wr.cell? ⟨b3, off3 + k3, none⟩ = some (.int .i64 (ks.getD k3 0)) := by rw [hBb.out.cell (p := ⟨b3, off3 + k3, none⟩) hbl3]; exact hck0
                    have hkl : k3 < ks.length := by rw [HKN.out]; exact hlt3
                    have HT3 : Hid (ks.take (k3 + 1) = ks.take k3 ++ [ks.getD k3 0]) := Lib.hid (take_snoc hkl)
                    obtain ⟨j, hj, hjz⟩ := HKS.out _ (memD (d := (0 : Int)) hkl)
                    have hbw3 : b3 < wr.heap.size := Nat.lt_of_lt_of_le hbl3 hBb.out.size
                    generalize ks.getD k3 0 = zk at *
                    subst hjz
                    have hj9 : J9 (j : Int) := ⟨by omega, by omega⟩
                    have hf9 : J9 (r.f j) := (jf j hj).1
                    have hs21 := itoa_len hj9
                    have hg21 := itoa_len hf9
                    obtain ⟨D1, hD1⟩ : ∃ D, Lib.itoa (j : Int) = D := ⟨_, rfl⟩
                    obtain ⟨D2, hD2⟩ : ∃ D, Lib.itoa (r.f j) = D := ⟨_, rfl⟩
                    rw [hD1] at hs21
                    rw [hD2] at hg21
                    obtain ⟨E1, hE1⟩ : ∃ Zz : List UInt8, ([32] : List UInt8) ++ D1 = Zz := ⟨_, rfl⟩
                    obtain ⟨E2, hE2⟩ : ∃ Zz : List UInt8, E1 ++ ([61] : List UInt8) = Zz := ⟨_, rfl⟩
                    obtain ⟨E3, hE3⟩ : ∃ Zz : List UInt8, E2 ++ D2 = Zz := ⟨_, rfl⟩
                    obtain ⟨C3, hC3⟩ : ∃ Zz : List UInt8, A3 ++ E3 = Zz := ⟨_, rfl⟩
                    have lE1 := congrArg List.length hE1
                    simp only [List.length_append, List.length_cons, List.length_nil] at lE1
                    have lE2 := congrArg List.length hE2
                    simp only [List.length_append, List.length_cons, List.length_nil] at lE2
                    have lE3 := congrArg List.length hE3
                    simp only [List.length_append, List.length_cons, List.length_nil] at lE3
                    have lC3 := congrArg List.length hC3
                    simp only [List.length_append, List.length_cons, List.length_nil] at lC3
                    have rE1 := add_is (P := Tryz.prog) hE1 (by omega)
                    have rE2 := add_is (P := Tryz.prog) hE2 (by omega)
                    have rE3 := add_is (P := Tryz.prog) hE3 (by omega)
                    have rC3 := add_is (P := Tryz.prog) hC3 (by omega)
                    have HIT1 : Hid (∀ y : Later wr, Calls Tryz.prog 31 #[.int .i64 ((j : Int))] y.w fun e w' => e = .returned (.string { data := D1.toArray }) ∧ Below y.w.heap.size y.w w') := Lib.hid (fun y => by have := digJ (n := (j : Int)) hj9 y.w; rw [hD1] at this; exact this)
                    have HIT2 : Hid (∀ y : Later wr, Calls Tryz.prog 31 #[.int .i64 (r.f j)] y.w fun e w' => e = .returned (.string { data := D2.toArray }) ∧ Below y.w.heap.size y.w w') := Lib.hid (fun y => by have := digJ (n := r.f j) hf9 y.w; rw [hD2] at this; exact this)
                    have HC3 : Hid (C3 = C2 ++ (ks.take (k3 + 1)).flatMap (kvW r.f)) := Lib.hid (by rw [HT3.out, List.flatMap_append, ← List.append_assoc, ← hA3.out, ← hC3, ← hE3, ← hE2, ← hE1, ← hD1, ← hD2]; simp [kvW, numW])
                    have hpl3 : ∀ y : Later wr, p < y.w.heap.size := fun y => Nat.lt_of_lt_of_le (Nat.lt_of_lt_of_le (Array.getElem?_eq_some_iff.1 HXR3.out).1 hBb.out.size) y.below.size
                    have kf : ∀ y : Later wr, y.w.cell? ⟨p, 3 + j, none⟩ = some (.int .i64 (r.f j)) := fun y => y.cell ((hBb.out.cell (p := ⟨p, 3 + j, none⟩) (Array.getElem?_eq_some_iff.1 HXR3.out).1).trans (row_f HXR3.out hj))
                    clear hC3 hE3 hE2 hE1 hD1 hD2 lE1 lE2 lE3 lC3 hA3l hck0 hkl
                    go_wp2_with fail
                    clear hck
                    refine wp_region_later (by kernel_rfl) (by kernel_rfl) ?_
                    repeat (go_big_quiet_step ((first | (go_at_call 31; first | with_reducible exact Calls.later (HIT1.out _) | with_reducible exact Calls.later (HIT2.out _)))))
                    refine wpQuiet_nil ?_
                    rintro _ ⟨nq, rfl⟩
                    have HBn := Lib.hid (nb_trans hBb.out nq.below)
                    generalize nq.w = R4 at *
                    go_wp2
                    go_roundw
                    case rel => exact ⟨k3 + 1, C3, by omega, rfl, by go_num, HC3, HBn⟩
                    case measure => simp [intOf]; omega
                  · obtain rfl : k3 = kn := by omega
                    obtain ⟨C3, hC3⟩ : ∃ Zz : List UInt8, A3 ++ ([10] : List UInt8) = Zz := ⟨_, rfl⟩
                    have lC3 := congrArg List.length hC3
                    simp only [List.length_append, List.length_cons, List.length_nil] at lC3
                    have rC3 := add_is (P := Tryz.prog) hC3 (by omega)
                    have HC3 : Hid (C3 = T2 gens (rs.take (k2 + 1))) := Lib.hid (by
                      rw [HT.out, HLR.out, ← hA2.out, ← hC3, hA3.out, List.take_of_length_le (by rw [HKN.out]; exact Nat.le_refl _), HC2.out]; simp)
                    have HBn := Lib.hid (nb_trans HB3.out hBb.out)
                    have HBnq := Lib.hid (nb_trans HB3q.out hBb.out)
                    clear hC3 lC3 hA3l
                    go_wp2
                    go_roundw
                    case rel => exact ⟨k2 + 1, C3, by omega, rfl, by go_num, HC3, HBn, HBnq⟩
                    case measure => simp [intOf]; omega
              · obtain rfl : k2 = rn := by omega
                have HL2 : Hid (A2 = T2 gens rs) := Lib.hid (by rw [hA2.out, List.take_of_length_le (by rw [HRN.out]; exact Nat.le_refl _)])
                have HQ2 := Lib.hid ((hBq.out.block _ (Array.getElem?_eq_some_iff.1 HQW.out).1).trans HQW.out)
                clear hA2 HRC hAl2 HQW hwW HBW
                have HBU := hB
                generalize wr = U at *
                clear hB hBq
                have hwU : w.heap.size < U.heap.size := (Array.getElem?_eq_some_iff.1 HQ2.out).1
                have c2 : U.cell? ⟨w.heap.size, 2, none⟩ = some (.slice ba bn bc) := by rw [cell_of_row _ _ _ _ _ _ HQ2.out]; rfl
                go_wp2
                clear c2
                have hA4 : A2.length ≤ 1000000 := by
                  rw [HL2.out]; have := T2_take gens rs bds rs.length; rw [List.take_length] at this; exact Nat.le_trans this HTL.out
                go_loopw [6, 105] (fun s6 i wr => ∃ (k4 : Nat) (A : List UInt8), k4 ≤ bn ∧ s6 = .string (bs A) ∧ i = .int .i64 k4 ∧ Hid (A = T4 gens rs (bds.take k4)) ∧ Hid (Below w.heap.size w wr)) (fun _ i _ => bn - (intOf i).toNat)
                case atStart => exact ⟨0, A2, by omega, rfl, rfl, Lib.hid (by rw [HL2.out, List.take_zero]; simp [T4]), HBU⟩
                case round =>
                  obtain ⟨k4, A4, hk4, rfl, rfl, hA4, hB⟩ := hrel
                  have hAl4 : A4.length ≤ 1000000 := by
                    rw [hA4.out]; exact Nat.le_trans (T4_take gens rs bds k4) HTL.out
                  by_cases hlt4 : k4 < bn
                  · obtain ⟨b4, off4, rfl, hbl4, hck0⟩ := HBC.out k4 hlt4
                    have hkl : k4 < bds.length := by rw [HBN.out]; exact hlt4
                    obtain ⟨x, hx⟩ : ∃ x, bds.getD k4 ((0, 0), (0, 0)) = x := ⟨_, rfl⟩
                    have hck : ∀ j, j < 4 → wr.cell? ⟨b4, off4 + k4 * 4 + j, none⟩ = (elBond.enc x)[j]? := fun j hj => by rw [hB.out.cell (p := ⟨b4, off4 + k4 * 4 + j, none⟩) hbl4, ← hx]; exact hck0 j hj
                    have hfx : FineB x := by rw [← hx]; exact HFN.out.bi _ (memD hkl)
                    have HT : Hid (T4 gens rs (bds.take (k4 + 1)) = T4 gens rs (bds.take k4) ++ (bondLn x ++ [10])) := Lib.hid (by rw [take_snocD bds k4 ((0, 0), (0, 0)) hkl, hx, T4_snoc])
                    have hbw : b4 < wr.heap.size := Nat.lt_of_lt_of_le hbl4 hB.out.size
                    obtain ⟨⟨x1, x2⟩, x3, x4⟩ := x
                    have e0 : wr.cell? ⟨b4, off4 + k4 * 4, none⟩ = some (.int .i64 x1) := hck 0 (by decide)
                    have e1 : wr.cell? ⟨b4, off4 + k4 * 4 + 1, none⟩ = some (.int .i64 x2) := hck 1 (by decide)
                    have e2 : wr.cell? ⟨b4, off4 + k4 * 4 + 2, none⟩ = some (.int .i64 x3) := hck 2 (by decide)
                    have e3 : wr.cell? ⟨b4, off4 + k4 * 4 + 3, none⟩ = some (.int .i64 x4) := hck 3 (by decide)
                    have HBR := Lib.hid (nb_alloc hB.out (.cells #[.int .i64 x1, .int .i64 x2, .int .i64 x3, .int .i64 x4] 58))
                    have HXR := Lib.hid (heap_alloc_new wr (.cells #[.int .i64 x1, .int .i64 x2, .int .i64 x3, .int .i64 x4] 58))
                    clear hck hck0 hx hkl
                    go_wp2_with fail
                    clear e0 e1 e2 e3
                    generalize wr.alloc (.cells #[.int .i64 x1, .int .i64 x2, .int .i64 x3, .int .i64 x4] 58) = R at *
                    generalize wr.heap.size = p at *
                    obtain ⟨j1, j2, j3, j4⟩ := hfx
                    have m1 := itoa_len j1
                    have m2 := itoa_len j2
                    have m3 := itoa_len j3
                    have m4 := itoa_len j4
                    obtain ⟨D1, hD1⟩ : ∃ D, Lib.itoa x1 = D := ⟨_, rfl⟩
                    obtain ⟨D2, hD2⟩ : ∃ D, Lib.itoa x2 = D := ⟨_, rfl⟩
                    obtain ⟨D3, hD3⟩ : ∃ D, Lib.itoa x3 = D := ⟨_, rfl⟩
                    obtain ⟨D4, hD4⟩ : ∃ D, Lib.itoa x4 = D := ⟨_, rfl⟩
                    have hD1' : Lib.itoa x1 = D1 := hD1
                    simp only [hD1'] at m1
                    have hD2' : Lib.itoa x2 = D2 := hD2
                    simp only [hD2'] at m2
                    have hD3' : Lib.itoa x3 = D3 := hD3
                    simp only [hD3'] at m3
                    have hD4' : Lib.itoa x4 = D4 := hD4
                    simp only [hD4'] at m4
                    obtain ⟨E1, hE1⟩ : ∃ Zz : List UInt8, ([98, 111, 110, 100, 32] : List UInt8) ++ D1 = Zz := ⟨_, rfl⟩
                    obtain ⟨E2, hE2⟩ : ∃ Zz : List UInt8, E1 ++ ([32] : List UInt8) = Zz := ⟨_, rfl⟩
                    obtain ⟨E3, hE3⟩ : ∃ Zz : List UInt8, E2 ++ D2 = Zz := ⟨_, rfl⟩
                    obtain ⟨E4, hE4⟩ : ∃ Zz : List UInt8, E3 ++ ([32] : List UInt8) = Zz := ⟨_, rfl⟩
                    obtain ⟨E5, hE5⟩ : ∃ Zz : List UInt8, E4 ++ D3 = Zz := ⟨_, rfl⟩
                    obtain ⟨E6, hE6⟩ : ∃ Zz : List UInt8, E5 ++ ([32] : List UInt8) = Zz := ⟨_, rfl⟩
                    obtain ⟨E7, hE7⟩ : ∃ Zz : List UInt8, E6 ++ D4 = Zz := ⟨_, rfl⟩
                    obtain ⟨E8, hE8⟩ : ∃ Zz : List UInt8, E7 ++ ([10] : List UInt8) = Zz := ⟨_, rfl⟩
                    obtain ⟨C4, hC4⟩ : ∃ Zz : List UInt8, A4 ++ E8 = Zz := ⟨_, rfl⟩
                    have lE1 := congrArg List.length hE1
                    simp only [List.length_append, List.length_cons, List.length_nil] at lE1
                    have lE2 := congrArg List.length hE2
                    simp only [List.length_append, List.length_cons, List.length_nil] at lE2
                    have lE3 := congrArg List.length hE3
                    simp only [List.length_append, List.length_cons, List.length_nil] at lE3
                    have lE4 := congrArg List.length hE4
                    simp only [List.length_append, List.length_cons, List.length_nil] at lE4
                    have lE5 := congrArg List.length hE5
                    simp only [List.length_append, List.length_cons, List.length_nil] at lE5
                    have lE6 := congrArg List.length hE6
                    simp only [List.length_append, List.length_cons, List.length_nil] at lE6
                    have lE7 := congrArg List.length hE7
                    simp only [List.length_append, List.length_cons, List.length_nil] at lE7
                    have lE8 := congrArg List.length hE8
                    simp only [List.length_append, List.length_cons, List.length_nil] at lE8
                    have lC4 := congrArg List.length hC4
                    simp only [List.length_append, List.length_cons, List.length_nil] at lC4
                    have rE1 := add_is (P := Tryz.prog) hE1 (by omega)
                    have rE2 := add_is (P := Tryz.prog) hE2 (by omega)
                    have rE3 := add_is (P := Tryz.prog) hE3 (by omega)
                    have rE4 := add_is (P := Tryz.prog) hE4 (by omega)
                    have rE5 := add_is (P := Tryz.prog) hE5 (by omega)
                    have rE6 := add_is (P := Tryz.prog) hE6 (by omega)
                    have rE7 := add_is (P := Tryz.prog) hE7 (by omega)
                    have rE8 := add_is (P := Tryz.prog) hE8 (by omega)
                    have rC4 := add_is (P := Tryz.prog) hC4 (by omega)
                    have HIT1 : Hid (∀ y : Later R, Calls Tryz.prog 31 #[.int .i64 (x1)] y.w fun e w' => e = .returned (.string { data := D1.toArray }) ∧ Below y.w.heap.size y.w w') := Lib.hid (fun y => by have := digJ (n := x1) j1 y.w; rw [hD1] at this; exact this)
                    have HIT2 : Hid (∀ y : Later R, Calls Tryz.prog 31 #[.int .i64 (x2)] y.w fun e w' => e = .returned (.string { data := D2.toArray }) ∧ Below y.w.heap.size y.w w') := Lib.hid (fun y => by have := digJ (n := x2) j2 y.w; rw [hD2] at this; exact this)
                    have HIT3 : Hid (∀ y : Later R, Calls Tryz.prog 31 #[.int .i64 (x3)] y.w fun e w' => e = .returned (.string { data := D3.toArray }) ∧ Below y.w.heap.size y.w w') := Lib.hid (fun y => by have := digJ (n := x3) j3 y.w; rw [hD3] at this; exact this)
                    have HIT4 : Hid (∀ y : Later R, Calls Tryz.prog 31 #[.int .i64 (x4)] y.w fun e w' => e = .returned (.string { data := D4.toArray }) ∧ Below y.w.heap.size y.w w') := Lib.hid (fun y => by have := digJ (n := x4) j4 y.w; rw [hD4] at this; exact this)
                    have kf0 : ∀ y : Later R, y.w.cell? ⟨p, 0, none⟩ = some (.int .i64 x1) := fun y => y.cell (by rw [cell_of_row _ _ _ _ _ _ HXR.out]; rfl)
                    have kf1 : ∀ y : Later R, y.w.cell? ⟨p, 1, none⟩ = some (.int .i64 x2) := fun y => y.cell (by rw [cell_of_row _ _ _ _ _ _ HXR.out]; rfl)
                    have kf2 : ∀ y : Later R, y.w.cell? ⟨p, 2, none⟩ = some (.int .i64 x3) := fun y => y.cell (by rw [cell_of_row _ _ _ _ _ _ HXR.out]; rfl)
                    have kf3 : ∀ y : Later R, y.w.cell? ⟨p, 3, none⟩ = some (.int .i64 x4) := fun y => y.cell (by rw [cell_of_row _ _ _ _ _ _ HXR.out]; rfl)
                    have hpl : ∀ y : Later R, p < y.w.heap.size := fun y => Nat.lt_of_lt_of_le (Array.getElem?_eq_some_iff.1 HXR.out).1 y.below.size
                    have HC4 : Hid (C4 = T4 gens rs (bds.take (k4 + 1))) := Lib.hid (by rw [HT.out, ← hA4.out, ← hC4, ← hE8, ← hE7, ← hE6, ← hE5, ← hE4, ← hE3, ← hE2, ← hE1, ← hD1, ← hD2, ← hD3, ← hD4]; simp [bondLn, lnW, bondW, numW])
                    clear hC4 hE8 hE7 hE6 hE5 hE4 hE3 hE2 hE1 hD1 hD2 hD3 hD4 hD1' hD2' hD3' hD4' lE1 lE2 lE3 lE4 lE5 lE6 lE7 lE8 lC4 hAl4
                    refine wp_region_later (by kernel_rfl) (by kernel_rfl) ?_
                    repeat (go_big_quiet_step ((first | (go_at_call 31; first | with_reducible exact Calls.later (HIT1.out _) | with_reducible exact Calls.later (HIT2.out _) | with_reducible exact Calls.later (HIT3.out _) | with_reducible exact Calls.later (HIT4.out _)))))
                    refine wpQuiet_nil ?_
                    rintro _ ⟨nq, rfl⟩
                    have HBn := Lib.hid (nb_trans HBR.out nq.below)
                    generalize nq.w = R2 at *
                    go_wp2
                    go_roundw
                    case rel => exact ⟨k4 + 1, C4, by omega, rfl, by go_num, HC4, HBn⟩
                    case measure => simp [intOf]; omega
                  · obtain rfl : k4 = bn := by omega
                    have HE : Hid (A4 = textT gens rs bds) := Lib.hid (by rw [hA4.out, List.take_of_length_le (by rw [HBN.out]; exact Nat.le_refl _), T4_text])
                    go_wp2
                    go_ret2
                    exact ⟨by rw [HPE.out, HPT.out, ← HE.out]; rfl, hB.out⟩
  · have HPE : Hid (prE gens rs bds = z) := Lib.hid (by rw [prE, if_neg (by rw [HZ.out]; exact hz0), HZ.out])
    have HPT : Hid (prT gens rs bds = []) := Lib.hid (by rw [prT, if_neg (by rw [HPE.out]; exact hz0)])
    clear HGD HQ1
    go_wp2
    go_ret2
    exact ⟨by rw [HPE.out, HPT.out]; rfl, HB1.out⟩
end Go.Proofs.YtndhomjfjhohoaaGreatDoor

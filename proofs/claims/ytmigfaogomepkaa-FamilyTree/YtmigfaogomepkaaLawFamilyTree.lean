/- No handle is its own descendant; each has at most one parent, whose child it is: the statement FamilyTree. No condition. -/
import Derived.Test.YtmigfaogomepkaaGroundA
import Derived.Test.YtmigfaogomepkaaKeepGrown
import Derived.Test.YtmigfaogomepkaaKeepRelated
import Derived.Test.YtmigfaogomepkaaFamTo
namespace Go.Proofs.Ytmigfaogomepkaa
open Go.ChangeShapes Go.WideShapes Go.ChangeAt Go.RowKit
set_option linter.unusedVariables false

set_option maxRecDepth 100000 in
set_option maxHeartbeats 16000000 in
theorem familyTree_walk (u0 : Value) (z0 : List Opm) (j0 : ∀ x ∈ z0, OpOk x) (w : World) (i0 : Reads elOp w u0 z0) (s0 : z0.length * 128 ≤ 140737488351232) :
    Calls Try.prog 5 #[u0] w fun e w' => e = .returned (.bool true) ∧ Below w.heap.size w w' := by
  have HR0 := Lib.hid i0
  have HJ := Lib.hid j0
  have HS0 := Lib.hid s0
  have hmd := FOk.made j0
  have HOK := Lib.hid hmd.1
  have HLN := Lib.hid hmd.2
  obtain ⟨ua, uc, hue, -⟩ := i0
  subst hue
  clear j0 s0 hmd
  go_enter Try.func5, Try.ntmps5
  go_wp2_with fail
  refine (related_any _).mono ?_
  rintro e w1 ⟨rfl, hb1⟩
  have HB1 := Lib.hid hb1
  clear hb1
  go_wp2_with fail
  refine (grown_any _ z0 _ (HR0.out.later HB1.out) HJ.out HS0.out).mono ?_
  rintro e w2 ⟨q, F, rfl, hfam, hFb, hb2⟩
  obtain ⟨bs, hbs⟩ : ∃ bs, famL z0 = bs := ⟨_, rfl⟩
  rw [hbs] at hfam HOK HLN
  have HF2 := Lib.hid hfam
  have HB2 := Lib.hid (nb_trans HB1.out hb2)
  have HN : Hid (bs.length * 32 ≤ 140737488355328) := Lib.hid (by have := HS0.out; have := HLN.out; omega)
  clear hfam hFb hb2 hbs
  go_wp2_with fail
  refine (famBonds_any q F bs _ HF2.out HOK.out.sorted HN.out).mono ?_
  rintro e w3 ⟨vb, rfl, ho3, hb3⟩
  have HB3 := Lib.hid (nb_trans HB2.out hb3)
  have HF3 := Lib.hid (HF2.out.later hb3)
  obtain ⟨hm, hop⟩ := ho3.reads.open
  unfold maxLen at hm
  obtain ⟨n, hn⟩ : ∃ n, bs.length = n := ⟨_, rfl⟩
  have HLB := Lib.hid hn
  have hnn := HN.out
  rw [hn] at hm hop hnn
  clear ho3 hb3 hn
  rcases hop with ⟨ad, cap, rfl, hz⟩ | ⟨bl, off, cap, rfl, hbl, hlc, hcm, hc⟩
  all_goals
    go_wp2
    go_loopw [18] (fun i wr => ∃ k : Nat, k ≤ n ∧ i = .int .i64 k ∧ Hid (Below w3.heap.size w3 wr)) (fun i _ => n - (intOf i).toNat)
    case atStart => exact ⟨0, by omega, rfl, Below.refl _ _⟩
    case round =>
      obtain ⟨k, hk, rfl, hB⟩ := hrel
      by_cases hltk : k < n
      · first
          | omega
          | (have hcr : ∀ jj, jj < 4 → wr.cell? ⟨bl, off + k * 4 + jj, none⟩ = (elBond.enc (bs.getD k bdZ))[jj]? := fun jj hjj => by rw [hB.out.cell (p := ⟨bl, _, none⟩) hbl]; exact hc k hltk jj hjj
             have hkl : k < bs.length := by rw [HLB.out]; exact hltk
             have HYM := Lib.hid (memD (d := bdZ) hkl)
             have hbw : bl < wr.heap.size := Nat.lt_of_lt_of_le hbl hB.out.size
             obtain ⟨y, hy⟩ : ∃ y, bs.getD k bdZ = y := ⟨_, rfl⟩
             rw [hy] at hcr HYM
             obtain ⟨⟨y1, y2⟩, y3, y4⟩ := y
             have d0 : wr.cell? ⟨bl, off + k * 4, none⟩ = some (.int .i64 y1) := hcr 0 (by decide)
             have d1 : wr.cell? ⟨bl, off + k * 4 + 1, none⟩ = some (.int .i64 y2) := hcr 1 (by decide)
             have d2 : wr.cell? ⟨bl, off + k * 4 + 2, none⟩ = some (.int .i64 y3) := hcr 2 (by decide)
             have d3 : wr.cell? ⟨bl, off + k * 4 + 3, none⟩ = some (.int .i64 y4) := hcr 3 (by decide)
             have HYO := Lib.hid (HOK.out.ok _ HYM.out)
             have HPP := Lib.hid (parB_of HOK.out.sorted HYM.out)
             obtain ⟨U, hU, hUm⟩ := HOK.out.undAt (y1, y2)
             have HU := Lib.hid hU
             have HU1 : Hid ((y1, y2) ∉ U) := Lib.hid (fun h => HOK.out.acy.irrefl _ ((hUm _).1 h))
             have HU2 : Hid ((y3, y4) ∉ U) := Lib.hid (fun h => HOK.out.acy.irrefl (y1, y2) ((Und.base HYM.out).trans ((hUm _).1 h)))
             have HKI : Hid ((y1, y2) ∈ kids bs (y3, y4)) := Lib.hid (mem_kids.2 HYM.out)
             obtain ⟨A, hA, hAl, hAm⟩ := HOK.out.anc (y1, y2)
             have HA := Lib.hid hA
             have HAL : Hid (A.length ≤ n) := Lib.hid (by rw [← HLB.out]; exact hAl)
             have HAM := Lib.hid hAm
             have HAO := Lib.hid (hA.okA HOK.out.ok)
             have HAR := Lib.hid (AncRest.of HOK.out.sorted hA)
             rw [HPP.out.1, HPP.out.2] at HAR
             have HBX : Hid ((wr.alloc (.cells #[.int .i64 y1, .int .i64 y2, .int .i64 y3, .int .i64 y4] 44)).heap[wr.heap.size]? = some (.cells #[.int .i64 y1, .int .i64 y2, .int .i64 y3, .int .i64 y4] 44)) := Lib.hid (heap_alloc_new _ _)
             have HBA := Lib.hid (nb_alloc hB.out (.cells #[.int .i64 y1, .int .i64 y2, .int .i64 y3, .int .i64 y4] 44))
             clear hcr hc hy hU hUm hA hAl hAm
             go_wp2_with fail
             generalize wr.alloc (.cells #[.int .i64 y1, .int .i64 y2, .int .i64 y3, .int .i64 y4] 44) = X at *
             obtain ⟨bb, hbb⟩ : ∃ bb, wr.heap.size = bb := ⟨_, rfl⟩
             rw [hbb] at HBX ⊢
             have HGB : Hid (w3.heap.size ≤ bb) := Lib.hid (by rw [← hbb]; exact hB.out.size)
             clear d0 d1 d2 d3 hbb hbw
             refine (famParent_any q F bs y1 y2 y3 y4 true _ (HF3.out.later HBA.out) HOK.out.sorted HYO.out.1.1 HYO.out.1.2 HPP.out.2 HPP.out.1).mono ?_
             rintro e w4 ⟨rfl, hb4⟩
             have HCB : Hid (∀ Y, Below X.heap.size X Y → (Y.cell? ⟨bb, 0, none⟩ = some (.int .i64 y1) ∧ Y.cell? ⟨bb, 1, none⟩ = some (.int .i64 y2) ∧ Y.cell? ⟨bb, 2, none⟩ = some (.int .i64 y3) ∧ Y.cell? ⟨bb, 3, none⟩ = some (.int .i64 y4) ∧ bb < Y.heap.size)) := Lib.hid (fun Y hY => by
               have hh : Y.heap[bb]? = _ := (hY.block _ (Array.getElem?_eq_some_iff.1 HBX.out).1).trans HBX.out
               refine ⟨?_, ?_, ?_, ?_, (Array.getElem?_eq_some_iff.1 hh).1⟩ <;> (rw [cell_of_row _ _ _ _ _ _ hh]; rfl))
             have hv5 : Below X.heap.size X (w4.alloc (.cells #[.int .i64 y3, .int .i64 y4] 38)) := nb_alloc hb4 _
             have HV5 := Lib.hid hv5
             have HP5 : Hid ((w4.alloc (.cells #[.int .i64 y3, .int .i64 y4] 38)).heap[w4.heap.size]? = some (.cells #[.int .i64 y3, .int .i64 y4] 38)) := Lib.hid (heap_alloc_new _ _)
             have HX4 : Hid (X.heap.size ≤ w4.heap.size) := Lib.hid hb4.size
             obtain ⟨k0, k1, k2, k3, hbl4⟩ := HCB.out w4 hb4
             clear hb4 hv5
             go_wp2_with fail
             generalize w4.alloc (.cells #[.int .i64 y3, .int .i64 y4] 38) = V at *
             obtain ⟨pb, hpb⟩ : ∃ pb, w4.heap.size = pb := ⟨_, rfl⟩
             rw [hpb] at HP5 HX4 ⊢
             clear k0 k1 k2 k3 hbl4 hpb
             obtain ⟨k0, k1, k2, k3, hblV⟩ := HCB.out V HV5.out
             have hpl := (Array.getElem?_eq_some_iff.1 HP5.out).1
             have p0 : V.cell? ⟨pb, 0, none⟩ = some (.int .i64 y3) := by rw [cell_of_row _ _ _ _ _ _ HP5.out]; rfl
             have p1 : V.cell? ⟨pb, 1, none⟩ = some (.int .i64 y4) := by rw [cell_of_row _ _ _ _ _ _ HP5.out]; rfl
             have HSV : Hid (∀ Y, Below V.heap.size V Y → (Y.cell? ⟨bb, 0, none⟩ = some (.int .i64 y1) ∧ Y.cell? ⟨bb, 1, none⟩ = some (.int .i64 y2) ∧ Y.cell? ⟨bb, 2, none⟩ = some (.int .i64 y3) ∧ Y.cell? ⟨bb, 3, none⟩ = some (.int .i64 y4) ∧ Y.cell? ⟨pb, 0, none⟩ = some (.int .i64 y3) ∧ Y.cell? ⟨pb, 1, none⟩ = some (.int .i64 y4))) := Lib.hid (fun Y hY => by
               obtain ⟨h0, h1, h2, h3, _⟩ := HCB.out Y (nb_trans HV5.out hY)
               have hh : Y.heap[pb]? = _ := (hY.block _ hpl).trans HP5.out
               exact ⟨h0, h1, h2, h3, by rw [cell_of_row _ _ _ _ _ _ hh]; rfl, by rw [cell_of_row _ _ _ _ _ _ hh]; rfl⟩)
             have HFV := Lib.hid ((HF3.out.later HBA.out).later HV5.out)
             have e1 : (y3 == y3) = true := by simp
             have e2 : (y4 == y4) = true := by simp
             have HVD : Hid (Below V.heap.size V V.drew) := Lib.hid (Below.refl _ _).drew
             go_wp2_with fail
             go_region_held3 (fun x => (x.cell? ⟨bb, 0, none⟩ = some (.int .i64 y1) ∧ x.cell? ⟨bb, 1, none⟩ = some (.int .i64 y2) ∧ x.cell? ⟨bb, 2, none⟩ = some (.int .i64 y3) ∧ x.cell? ⟨bb, 3, none⟩ = some (.int .i64 y4) ∧ x.cell? ⟨pb, 0, none⟩ = some (.int .i64 y3) ∧ x.cell? ⟨pb, 1, none⟩ = some (.int .i64 y4))) (first | go_keep | exact HSV.out _ Ba.out | exact HSV.out _ Bb.out | exact HSV.out _ Bc.out | exact HSV.out _ Bd.out | exact HSV.out _ Be.out | exact HSV.out _ Bf.out) (first
               | ((go_at_call 17; refine (famChildren_any q F bs y3 y4 _ (HFV.out.later HVD.out) HOK.out.sorted HN.out).mono ?_; rintro e xa ⟨va, rfl, ho, hb⟩; have Ra := Lib.hid ho.reads; have Ba := Lib.hid (nb_trans HVD.out hb); clear ho hb))
               | ((go_at_call 23; refine (hasHand_any _ (kids bs (y3, y4)) y1 y2 _ Ra.out).mono ?_; clear Ra; rintro e xb ⟨rfl, hb⟩; rw [decide_eq_true HKI.out]; have Bb := Lib.hid (nb_trans Ba.out hb); have Fb := Lib.hid (HFV.out.later (nb_trans Ba.out hb)); clear hb))
               | ((go_at_call 19; refine (famUnder_at q F bs y1 y2 U HU.out _ Fb.out HOK.out HYO.out.1 HN.out).mono ?_; clear Fb; rintro e xc ⟨vc, rfl, ho, hb⟩; have Rc := Lib.hid ho.reads; have Bc := Lib.hid (nb_trans Bb.out hb); clear ho hb))
               | ((go_at_call 23; refine (hasHand_any _ U y1 y2 _ Rc.out).mono ?_; clear Rc; rintro e xd ⟨rfl, hb⟩; rw [decide_eq_false HU1.out]; have Bd := Lib.hid (nb_trans Bc.out hb); have Fd := Lib.hid (HFV.out.later (nb_trans Bc.out hb)); clear hb))
               | ((go_at_call 19; refine (famUnder_at q F bs y1 y2 U HU.out _ Fd.out HOK.out HYO.out.1 HN.out).mono ?_; clear Fd; rintro e xe ⟨ve, rfl, ho, hb⟩; have Re := Lib.hid ho.reads; have Be := Lib.hid (nb_trans Bd.out hb); clear ho hb))
               | ((go_at_call 23; refine (hasHand_any _ U y3 y4 _ Re.out).mono ?_; clear Re; rintro e xf ⟨rfl, hb⟩; rw [decide_eq_false HU2.out]; have Bf := Lib.hid (nb_trans Be.out hb); clear hb)))
             obtain ⟨m0, m1, m2, m3, -⟩ := HSV.out xf Bf.out
             have hbx : bb < xf.heap.size := Nat.lt_of_lt_of_le hblV Bf.out.size
             have HH6 : Hid ((xf.alloc (.cells #[.int .i64 y1, .int .i64 y2] 38)).heap[xf.heap.size]? = some (.cells #[.int .i64 y1, .int .i64 y2] 38)) := Lib.hid (heap_alloc_new _ _)
             have HB6 : Hid (Below V.heap.size V (xf.alloc (.cells #[.int .i64 y1, .int .i64 y2] 38))) := Lib.hid (nb_alloc Bf.out _)
             have HS6 : Hid (V.heap.size ≤ xf.heap.size) := Lib.hid Bf.out.size
             clear k0 k1 k2 k3 p0 p1 e1 e2
             go_wp2_with fail
             generalize xf.alloc (.cells #[.int .i64 y1, .int .i64 y2] 38) = X6 at *
             obtain ⟨hb6, hhb6⟩ : ∃ hb6, xf.heap.size = hb6 := ⟨_, rfl⟩
             rw [hhb6] at HH6 HS6 ⊢
             clear m0 m1 m2 m3 hhb6 hbx
             refine (famBonds_any q F bs _ (HFV.out.later HB6.out) HOK.out.sorted HN.out).mono ?_
             rintro e w7 ⟨v7, rfl, ho7, hb7⟩
             obtain ⟨a7, c7, rfl, -⟩ := ho7.reads
             rw [HLB.out]
             have HB7 := Lib.hid (nb_trans HB6.out hb7)
             have HP7 : Hid (w7.heap[pb]? = some (.cells #[.int .i64 y3, .int .i64 y4] 38)) := Lib.hid (by rw [(nb_trans HB6.out hb7).block _ hpl]; exact HP5.out)
             have HH7 : Hid (w7.heap[hb6]? = some (.cells #[.int .i64 y1, .int .i64 y2] 38)) := Lib.hid (by rw [hb7.block _ (Array.getElem?_eq_some_iff.1 HH6.out).1]; exact HH6.out)
             have HNE : Hid (w3.heap.size ≤ pb ∧ pb < hb6 ∧ X.heap.size ≤ pb ∧ bb < X.heap.size) := Lib.hid (by
               have h1 := HBA.out.size
               have h2 := HX4.out
               have h3 := HS6.out
               have h4 := (Array.getElem?_eq_some_iff.1 HBX.out).1
               omega)
             have HX7 : Hid (Below X.heap.size X w7) := Lib.hid (nb_trans HV5.out (nb_trans HB6.out hb7))
             clear ho7 hb7
             generalize wr = wz at *
             go_wp2
             go_loopw [7, 71] (fun v7 i wr => ∃ (j : Nat) (x y : Hd) (g : Bool) (rest : List Hd), j ≤ n + 1 ∧ i = .int .i64 j ∧ v7 = .bool g ∧ Hid (wr.heap[pb]? = some (.cells #[.int .i64 y.1, .int .i64 y.2] 38)) ∧ Hid (wr.heap[hb6]? = some (.cells #[.int .i64 x.1, .int .i64 x.2] 38)) ∧ Hid (AncRest bs g y rest) ∧ Hid (rest.length + j = A.length) ∧ Hid (∀ z ∈ rest, z ∈ A) ∧ Hid (Below X.heap.size X wr)) (fun _ i _ => n + 1 - (intOf i).toNat)
             case atStart => exact ⟨0, (y1, y2), (y3, y4), true, A, by omega, rfl, rfl, HP7, HH7, HAR, Lib.hid (by omega), Lib.hid (fun _ h => h), HX7⟩
             case round =>
               obtain ⟨j, x, y, g, rest, hj, rfl, rfl, hP, hH, hR, hL, hM, hBj⟩ := hrel
               have hpl9 := (Array.getElem?_eq_some_iff.1 hP.out).1
               have hhl9 := (Array.getElem?_eq_some_iff.1 hH.out).1
               have HXJ : Hid (Below w3.heap.size w3 wr) := Lib.hid (nb_trans HBA.out hBj.out)
               rcases hR.out with ⟨rfl, rfl⟩ | ⟨rfl, r, rfl, hyr⟩
               · have hjn : j < n + 1 := by
                   have h9 := hL.out
                   simp only [List.length_nil] at h9
                   have := HAL.out
                   omega
                 have hjn' : (j : Int) < (n : Int) + 1 := by omega
                 go_wp2
                 go_roundw
                 case rel => exact ⟨k + 1, by omega, by go_num, HXJ⟩
                 case measure => simp [intOf]; omega
               · have hl9 := hL.out
                 simp only [List.length_cons] at hl9
                 have hal9 := HAL.out
                 have hjn : j < n + 1 := by omega
                 have hjn' : (j : Int) < (n : Int) + 1 := by omega
                 have hyA : y ∈ A := hM.out y (by simp)
                 have HYOK := Lib.hid (HAO.out y hyA)
                 obtain ⟨UY, hUY, hUYm⟩ := HOK.out.undAt y
                 have HUY := Lib.hid hUY
                 have HIN : Hid ((y1, y2) ∈ UY) := Lib.hid ((hUYm _).2 ((HAM.out y).1 hyA))
                 have HAR2 := Lib.hid (AncRest.of HOK.out.sorted hyr)
                 obtain ⟨z, hz9⟩ : ∃ z, parB bs y = z := ⟨_, rfl⟩
                 obtain ⟨g2, hg9⟩ : ∃ g2, hasP bs y = g2 := ⟨_, rfl⟩
                 have HPZ : Hid (parB bs y = z ∧ hasP bs y = g2) := Lib.hid ⟨hz9, hg9⟩
                 rw [hz9, hg9] at HAR2
                 obtain ⟨t1, t2⟩ := y
                 obtain ⟨z1, z2⟩ := z
                 obtain ⟨k0, k1, -, -, hblw⟩ := HCB.out wr hBj.out
                 have p0 : wr.cell? ⟨pb, 0, none⟩ = some (.int .i64 t1) := by rw [cell_of_row _ _ _ _ _ _ hP.out]; rfl
                 have p1 : wr.cell? ⟨pb, 1, none⟩ = some (.int .i64 t2) := by rw [cell_of_row _ _ _ _ _ _ hP.out]; rfl
                 have HSJ : Hid (∀ Y, Below wr.heap.size wr Y → (Y.cell? ⟨bb, 0, none⟩ = some (.int .i64 y1) ∧ Y.cell? ⟨bb, 1, none⟩ = some (.int .i64 y2) ∧ Y.cell? ⟨pb, 0, none⟩ = some (.int .i64 t1) ∧ Y.cell? ⟨pb, 1, none⟩ = some (.int .i64 t2))) := Lib.hid (fun Y hY => by
                   obtain ⟨h0, h1, _⟩ := HCB.out Y (nb_trans hBj.out hY)
                   have hh : Y.heap[pb]? = _ := (hY.block _ hpl9).trans hP.out
                   exact ⟨h0, h1, by rw [cell_of_row _ _ _ _ _ _ hh]; rfl, by rw [cell_of_row _ _ _ _ _ _ hh]; rfl⟩)
                 have HFW := Lib.hid (HF3.out.later HXJ.out)
                 have HWD : Hid (Below wr.heap.size wr wr.drew) := Lib.hid (Below.refl _ _).drew
                 clear hyr hUY hUYm hz9 hg9
                 go_wp2_with fail
                 go_region_held3 (fun x => (x.cell? ⟨bb, 0, none⟩ = some (.int .i64 y1) ∧ x.cell? ⟨bb, 1, none⟩ = some (.int .i64 y2) ∧ x.cell? ⟨pb, 0, none⟩ = some (.int .i64 t1) ∧ x.cell? ⟨pb, 1, none⟩ = some (.int .i64 t2))) (first | go_keep | exact HSJ.out _ Ca.out | exact HSJ.out _ Cb.out) (first
                   | ((go_at_call 19; refine (famUnder_at q F bs t1 t2 UY HUY.out _ (HFW.out.later HWD.out) HOK.out HYOK.out HN.out).mono ?_; rintro e xa9 ⟨va9, rfl, ho, hb⟩; have Qa := Lib.hid ho.reads; have Ca := Lib.hid (nb_trans HWD.out hb); clear ho hb))
                   | ((go_at_call 23; refine (hasHand_any _ UY y1 y2 _ Qa.out).mono ?_; rintro e xb9 ⟨rfl, hb⟩; rw [decide_eq_true HIN.out]; have Cb := Lib.hid (nb_trans Ca.out hb); clear hb)))
                 clear k0 k1 p0 p1
                 obtain ⟨-, -, p0, p1⟩ := HSJ.out xb9 Cb.out
                 have hP9 : xb9.heap[pb]? = some (.cells #[.int .i64 t1, .int .i64 t2] 38) := by rw [Cb.out.block _ hpl9]; exact hP.out
                 have hH9 : xb9.heap[hb6]? = some (.cells #[.int .i64 x.1, .int .i64 x.2] 38) := by rw [Cb.out.block _ hhl9]; exact hH.out
                 have hpl8 := (Array.getElem?_eq_some_iff.1 hP9).1
                 have hhl8 := (Array.getElem?_eq_some_iff.1 hH9).1
                 have q0 : xb9.cell? ⟨hb6, 0, none⟩ = some (.int .i64 x.1) := by rw [cell_of_row _ _ _ _ _ _ hH9]; rfl
                 have q1 : xb9.cell? ⟨hb6, 1, none⟩ = some (.int .i64 x.2) := by rw [cell_of_row _ _ _ _ _ _ hH9]; rfl
                 have fq : ∀ j, xb9.frozen? ⟨hb6, j, none⟩ = false := fun j => frozen_of_row _ _ _ _ _ hH9
                 have HNQ := HNE.out
                 have hne9 : pb ≠ hb6 := by omega
                 have HZH : Hid (((xb9.setCell ⟨hb6, 0, none⟩ (.int .i64 t1)).setCell ⟨hb6, 1, none⟩ (.int .i64 t2)).heap[hb6]? = some (.cells #[.int .i64 t1, .int .i64 t2] 38)) := Lib.hid (heap_setCell_same _ _ 1 _ _ _ (heap_setCell_same _ _ 0 _ _ _ hH9))
                 have HZP : Hid (((xb9.setCell ⟨hb6, 0, none⟩ (.int .i64 t1)).setCell ⟨hb6, 1, none⟩ (.int .i64 t2)).heap[pb]? = some (.cells #[.int .i64 t1, .int .i64 t2] 38)) := Lib.hid (by rw [heap_setCell_other _ _ _ _ hne9, heap_setCell_other _ _ _ _ hne9]; exact hP9)
                 have HZB : Hid (Below X.heap.size X ((xb9.setCell ⟨hb6, 0, none⟩ (.int .i64 t1)).setCell ⟨hb6, 1, none⟩ (.int .i64 t2))) := Lib.hid (nbf_set (nbf_set (nb_trans hBj.out Cb.out) _ 0 _ (by omega)) _ 1 _ (by omega))
                 clear hP9 hH9
                 go_wp2_with fail
                 generalize (xb9.setCell ⟨hb6, 0, none⟩ (.int .i64 t1)).setCell ⟨hb6, 1, none⟩ (.int .i64 t2) = Z at *
                 refine (famParent_any q F bs t1 t2 z1 z2 g2 _ (HF3.out.later (nb_trans HBA.out HZB.out)) HOK.out.sorted HYOK.out.1 HYOK.out.2 HPZ.out.1 HPZ.out.2).mono ?_
                 rintro e w9 ⟨rfl, hb9⟩
                 have hH8 : w9.heap[hb6]? = some (.cells #[.int .i64 t1, .int .i64 t2] 38) := by rw [hb9.block _ (Array.getElem?_eq_some_iff.1 HZH.out).1]; exact HZH.out
                 have hP8 : w9.heap[pb]? = some (.cells #[.int .i64 t1, .int .i64 t2] 38) := by rw [hb9.block _ (Array.getElem?_eq_some_iff.1 HZP.out).1]; exact HZP.out
                 have r0 : w9.cell? ⟨pb, 0, none⟩ = some (.int .i64 t1) := by rw [cell_of_row _ _ _ _ _ _ hP8]; rfl
                 have r1 : w9.cell? ⟨pb, 1, none⟩ = some (.int .i64 t2) := by rw [cell_of_row _ _ _ _ _ _ hP8]; rfl
                 have fr : ∀ j, w9.frozen? ⟨pb, j, none⟩ = false := fun j => frozen_of_row _ _ _ _ _ hP8
                 have hpl7 := (Array.getElem?_eq_some_iff.1 hP8).1
                 have HY8 : Hid (((w9.setCell ⟨pb, 0, none⟩ (.int .i64 z1)).setCell ⟨pb, 1, none⟩ (.int .i64 z2)).heap[pb]? = some (.cells #[.int .i64 z1, .int .i64 z2] 38)) := Lib.hid (heap_setCell_same _ _ 1 _ _ _ (heap_setCell_same _ _ 0 _ _ _ hP8))
                 have HX8 : Hid (((w9.setCell ⟨pb, 0, none⟩ (.int .i64 z1)).setCell ⟨pb, 1, none⟩ (.int .i64 z2)).heap[hb6]? = some (.cells #[.int .i64 t1, .int .i64 t2] 38)) := Lib.hid (by rw [heap_setCell_other _ _ _ _ (Ne.symm hne9), heap_setCell_other _ _ _ _ (Ne.symm hne9)]; exact hH8)
                 have HB8 : Hid (Below X.heap.size X ((w9.setCell ⟨pb, 0, none⟩ (.int .i64 z1)).setCell ⟨pb, 1, none⟩ (.int .i64 z2))) := Lib.hid (nbf_set (nbf_set (nb_trans HZB.out hb9) _ 0 _ (by omega)) _ 1 _ (by omega))
                 clear hb9 hH8 hP8 p0 p1 q0 q1 fq
                 go_wp2
                 go_roundw
                 case rel => exact ⟨j + 1, (t1, t2), (z1, z2), g2, r, by omega, by go_num, rfl, HY8, HX8, HAR2, Lib.hid (by omega), Lib.hid (fun z hz => hM.out z (by simp [hz])), HB8⟩
                 case measure => simp [intOf]; omega)
      · obtain rfl : k = n := by omega
        have HEND : Hid (Below w.heap.size w wr) := Lib.hid (nb_trans HB3.out hB.out)
        go_wp2
        go_ret
        exact ⟨rfl, HEND.out⟩

namespace familyTree
theorem own : ownKnob Try.prog.godebug = none := by kernel_rfl
theorem laidOut : laidOutB Try.prog = true := by kernel_rfl

set_option maxRecDepth 100000 in
set_option maxHeartbeats 4000000 in
theorem lifted (os : Os) (started : os.Started) (H : Type) (enc : TypeId × Value → H) :
    ReturnsInHanded {} Try.checked os 5 .any (Rows.familyTreeSpec.pre6 enc Try.prog Try.f5 Rows.familyTreeRow.domain false) (Rows.familyTreeSpec.post enc Try.prog Try.f5 false true false false) := by
  refine returnsInHanded_of_change_sized (C := Try.checked) own started (by kernel_rfl) Try.func5
    (ChangeSpec.witness6 (enc := enc) (C := Try.checked) false ⟨#[], #[.slice none 0 0], []⟩ 8 (by kernel_rfl) (by kernel_rfl) (by kernel_rfl) (by kernel_rfl)) ?_
  intro W base args ds gs before hval0 hW hcnd hsz _
  have hval : ∀ (j : Nat) t v, Try.f5.params[j]? = some t → args[j]? = some v → Value.okWide Try.prog W .any base t v := hval0
  have hW' := hW
  obtain ⟨p, q, hA0, hV, rfl, hfz, hnd⟩ := hW
  have hA : DataW.TrodAll enc Try.prog W 0 (fun _ => true) true Try.f5.params.toList args.toList ds p := hA0
  rw [Try.params5] at hA hval
  obtain ⟨v0, vs0, d0, ds0, p0, q0, hargs, rfl, rfl, h0, r0⟩ := trodAll_cons hA
  obtain ⟨rfl, rfl, rfl⟩ := trodAll_nil r0
  obtain rfl : args = #[v0] := by cases args; simp_all
  obtain ⟨rfl, rfl⟩ := trodVars_none hV
  have k0' := h0
  have lt0 : ∀ x ∈ p0, x.block < W.heap.size := by obtain ⟨m, hm⟩ := h0; exact DataW.trod_lt m _ _ _ hm
  obtain ⟨z0, i0, j0⟩ : ∃ zs, Reads elOp W v0 zs ∧ ∀ x ∈ zs, OpOk x := by
    obtain ⟨a0, len0, cap0, rfl⟩ := okWide_slice Try.underlying22 (hval 0 22 v0 rfl rfl)
    exact Reads_ofP elOp OpOk Try.underlying22 (by kernel_rfl) op_dec h0
  rw [Try.params5] at hsz
  have s0 : z0.length * 128 ≤ 140737488351232 := by
    obtain ⟨aa, cc, ee, _⟩ := i0
    have hh := k0'
    rw [ee] at hh
    exact trod_len Try.underlying22 (show Try.prog.bytesOf 40 = 128 by kernel_rfl) hh (fun el sp hd => sized_slice hsz (j := 0) (t := 22) rfl (by rw [hd]; rfl) Try.underlying22)
  clear hA0 hval0
  refine (familyTree_walk v0 z0 j0 W i0 s0).mono fun e W' ⟨he, bel⟩ => ?_
  subst he
  exact ⟨_, rfl, _, _, _, [], _, [], hW', trodAll_mk1 (shut_bool Try.underlying4 _), (trodAll_cons_mk (Below.trod laidOut (by kernel_rfl) (of_decide_eq_true (by kernel_rfl)) k0' bel lt0) trodAll_mk0), rfl, bel.frame _, fun h => by cases h⟩
end familyTree

theorem familyTree_proved : Rows.FamilyTreeSaid :=
  OpenClaim.holds_of_wide 5 Try.f5 rfl rfl rfl rfl rfl rfl rfl ⟨rfl, rfl, rfl, rfl, rfl⟩ rfl rfl rfl rfl rfl (by kernel_rfl) Try.func5 (by kernel_rfl)
    (of_decide_eq_true (by kernel_rfl)) (by unfold Func.isWrapper; first | (rw [if_pos (by decide +kernel)]; kernel_rfl) | (rw [if_neg (by decide +kernel)]; exact ⟨rfl, rfl⟩))
    (fun os started H enc _ => familyTree.lifted os started H enc)

end Go.Proofs.Ytmigfaogomepkaa

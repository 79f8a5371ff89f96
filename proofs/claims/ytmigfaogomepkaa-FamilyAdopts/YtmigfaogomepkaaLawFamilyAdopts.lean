/- After Adopt, the child is a descendant of the parent; cycles are rejected; all other bonds are unchanged: the statement FamilyAdopts. No condition. -/
import Derived.Test.YtmigfaogomepkaaGroundA
import Derived.Test.YtmigfaogomepkaaKeepGrown
import Derived.Test.YtmigfaogomepkaaKeepRelated
namespace Go.Proofs.Ytmigfaogomepkaa
open Go.ChangeShapes Go.WideShapes Go.ChangeAt Go.RowKit
set_option linter.unusedVariables false

theorem famUnder_to (p : Nat) (F : Nat → Prop) (bs : List Bd) (a b : Int) (U : List Hd) (hU : ∃ d M, AcyBy bs d M ∧ under bs M (a, b) = U) (w : World) (h : FamAt w p F bs) (ok : FOk bs) (hab : okH (a, b)) (hn : bs.length * 32 ≤ 140737488355328) :
    Calls Try.prog 19 #[.pointer (some ⟨p, 0, none⟩), .agg #[.int .i64 a, .int .i64 b]] w (HandsPost w U) := by
  obtain ⟨d, M, ha, rfl⟩ := hU
  exact famUnder_any p F bs d M a b w h ok ha hab hn
theorem FOk.underAt {bs : List Bd} (h : FOk bs) (x : Hd) : ∃ U : List Hd, (∃ d M, AcyBy bs d M ∧ under bs M x = U) ∧ ∀ y, y ∈ U ↔ Und bs y x := by
  obtain ⟨d, M, ha⟩ := h.acy
  exact ⟨_, ⟨d, M, ha, rfl⟩, fun y => ha.in_under⟩
theorem famLoosen_to (p : Nat) (F : Nat → Prop) (bs : List Bd) (a b x : Int) (bs' : List Bd) (w : World) (h : FamAt w p F bs) (hs : SortedB bs) (ha : I64r a) (hb : I64r b) (hx : looseE bs (a, b) = x) (hbs : rmB bs (a, b) = bs') :
    Calls Try.prog 25 #[.pointer (some ⟨p, 0, none⟩), .agg #[.int .i64 a, .int .i64 b]] w fun e w' => e = .returned (.int .i64 x) ∧ FamAt w' p F bs' ∧ Kept F w w' :=
  (famLoosen_any p F bs a b w h hs ha hb).mono fun _ _ ⟨he, h1, h2⟩ => ⟨by rw [he, hx], by rw [← hbs]; exact h1, h2⟩

set_option maxRecDepth 100000 in
set_option maxHeartbeats 16000000 in
theorem familyAdopts_walk (u0 : Value) (z0 : List Opm) (j0 : ∀ x ∈ z0, OpOk x) (a_1 b_1 : Int) (i1 : I64 a_1 ∧ I64 b_1) (a_2 b_2 : Int) (i2 : I64 a_2 ∧ I64 b_2) (w : World) (i0 : Reads elOp w u0 z0) (s0 : z0.length * 128 ≤ 140737488351232) :
    Calls Try.prog 7 #[u0, .agg #[.int .i64 a_1, .int .i64 b_1], .agg #[.int .i64 a_2, .int .i64 b_2]] w fun e w' => e = .returned (.bool true) ∧ Below w.heap.size w w' := by
  have HR0 := Lib.hid i0
  have HJ := Lib.hid j0
  have HS0 := Lib.hid s0
  have HAB : Hid (okH (a_1, b_1)) := Lib.hid i1
  have HCD : Hid (okH (a_2, b_2)) := Lib.hid i2
  have hmd := FOk.made j0
  have HOK := Lib.hid hmd.1
  have HLN := Lib.hid hmd.2
  obtain ⟨ua, uc, hue, -⟩ := i0
  have HX : Hid (Below w.heap.size w ((w.alloc (.cells #[.int .i64 a_1, .int .i64 b_1] 38)).alloc (.cells #[.int .i64 a_2, .int .i64 b_2] 38))) := Lib.hid (nb_alloc (nb_alloc (Below.refl _ _) _) _)
  have HXA : Hid (((w.alloc (.cells #[.int .i64 a_1, .int .i64 b_1] 38)).alloc (.cells #[.int .i64 a_2, .int .i64 b_2] 38)).heap[w.heap.size]? = some (.cells #[.int .i64 a_1, .int .i64 b_1] 38)) := Lib.hid (heap_alloc2_old _ _ _)
  have HXB : Hid (((w.alloc (.cells #[.int .i64 a_1, .int .i64 b_1] 38)).alloc (.cells #[.int .i64 a_2, .int .i64 b_2] 38)).heap[w.heap.size + 1]? = some (.cells #[.int .i64 a_2, .int .i64 b_2] 38)) := Lib.hid (heap_alloc2_new _ _ _)
  subst hue
  clear j0 s0 i1 i2 hmd
  go_enter Try.func7, Try.ntmps7
  go_wp2_with fail
  generalize (w.alloc (.cells #[.int .i64 a_1, .int .i64 b_1] 38)).alloc (.cells #[.int .i64 a_2, .int .i64 b_2] 38) = X at *
  refine (related_any _).mono ?_
  rintro e w1 ⟨rfl, hb1⟩
  have hxl := (Array.getElem?_eq_some_iff.1 HXB.out).1
  have HBO : Hid (∀ Y, Kept (fun k => w1.heap.size ≤ k) w1 Y → Y.heap[w.heap.size]? = some (.cells #[.int .i64 a_1, .int .i64 b_1] 38) ∧ Y.heap[w.heap.size + 1]? = some (.cells #[.int .i64 a_2, .int .i64 b_2] 38)) := Lib.hid (fun Y hY => by
    have hs := hb1.size
    exact ⟨by rw [hY.block _ (by omega) (by omega), hb1.block _ (by omega)]; exact HXA.out, by rw [hY.block _ (by omega) (by omega), hb1.block _ hxl]; exact HXB.out⟩)
  have HCE : Hid (∀ Y, Kept (fun k => w1.heap.size ≤ k) w1 Y → (Y.cell? ⟨w.heap.size, 0, none⟩ = some (.int .i64 a_1) ∧ Y.cell? ⟨w.heap.size, 1, none⟩ = some (.int .i64 b_1) ∧ Y.cell? ⟨w.heap.size + 1, 0, none⟩ = some (.int .i64 a_2) ∧ Y.cell? ⟨w.heap.size + 1, 1, none⟩ = some (.int .i64 b_2))) := Lib.hid (fun Y hY => by
    obtain ⟨h1, h2⟩ := HBO.out Y hY
    refine ⟨?_, ?_, ?_, ?_⟩
    · rw [cell_of_row _ _ _ _ _ _ h1]; rfl
    · rw [cell_of_row _ _ _ _ _ _ h1]; rfl
    · rw [cell_of_row _ _ _ _ _ _ h2]; rfl
    · rw [cell_of_row _ _ _ _ _ _ h2]; rfl)
  have HB1 := Lib.hid (nb_trans HX.out hb1)
  have HW1 : Hid (w.heap.size + 1 < w1.heap.size) := Lib.hid (by have := hb1.size; omega)
  clear hb1 hxl HX HXA HXB
  go_wp2_with fail
  refine (grown_any _ z0 _ (HR0.out.later HB1.out) HJ.out HS0.out).mono ?_
  rintro e w2 ⟨q, F, rfl, hfam, hFb, hb2⟩
  obtain ⟨bs, hbs⟩ : ∃ bs, famL z0 = bs := ⟨_, rfl⟩
  rw [hbs] at hfam HOK HLN
  have HF2 := Lib.hid hfam
  have HNF : Hid (∀ b, F b → w1.heap.size ≤ b) := Lib.hid hFb
  have HK2 : Hid (Kept (fun k => w1.heap.size ≤ k) w1 w2) := Lib.hid (Kept.ofBelow hb2)
  have HN : Hid (bs.length * 32 ≤ 140737488300000) := Lib.hid (by have := HS0.out; have := HLN.out; omega)
  clear hfam hFb hb2 hbs
  go_wp2_with fail
  refine (famBonds_any q F bs _ HF2.out HOK.out.sorted (by have := HN.out; omega)).mono ?_
  rintro e w3 ⟨vb, rfl, ho3, hb3⟩
  have HO3 := Lib.hid ho3
  have HF3 := Lib.hid (HF2.out.later hb3)
  have HK3 : Hid (Kept (fun k => w1.heap.size ≤ k) w1 w3) := Lib.hid (HK2.out.trans (Kept.ofBelow (F := fun _ => False) hb3) (fun _ e => e.elim))
  have HVB : Hid (∀ k, vb.ownBlock = some k → ¬ F k) := Lib.hid (fun k e hF => by have := HF2.out.lt k hF; have := ho3.ge e; omega)
  obtain ⟨U, hU, hUm⟩ := HOK.out.underAt (a_1, b_1)
  have HU := Lib.hid hU
  have HUM := Lib.hid hUm
  obtain ⟨c0, c1, c2, c3⟩ := HCE.out w3 HK3.out
  have hl0 : w.heap.size < w3.heap.size := by have := HW1.out; have := HK3.out.size; omega
  have hl1 : w.heap.size + 1 < w3.heap.size := by have := HW1.out; have := HK3.out.size; omega
  have HL3 : Hid (w1.heap.size ≤ w3.heap.size) := Lib.hid HK3.out.size
  clear ho3 hb3 hU hUm
  by_cases heq : (a_1, b_1) = (a_2, b_2)
  · as_aux_lemma =>
    have HP := Lib.hid (adoptB_yes (bs := bs) (c := (a_1, b_1)) (p := (a_2, b_2)) (.inl heq))
    simp only [Prod.mk.injEq] at heq
    have e1 : (a_1 == a_2) = true := by simpa using heq.1
    have e2 : (b_1 == b_2) = true := by simpa using heq.2
    clear heq
    go_wp2_with fail
    go_quiet (fail)
    go_wp2_with fail
    have HFV := Lib.hid (HF3.out.later (nb_drewN (n := nq) (Below.refl _ _)))
    have HOV := Lib.hid (HO3.out.reads.later (nb_drewN (n := nq) (Below.refl _ _)))
    have HKV : Hid (Kept (fun k => w1.heap.size ≤ k) w1 (w3.drewN nq)) := Lib.hid (HK3.out.trans (Kept.ofBelow (F := fun _ => False) (nb_drewN (n := nq) (Below.refl _ _))) (fun _ e => e.elim))
    refine (famAdopt_to q F bs a_1 b_1 a_2 b_2 8 bs _ HFV.out HOK.out HAB.out HCD.out (by have := HN.out; unfold maxLen; omega) HP.out.2 HP.out.1).mono ?_
    rintro e w5 ⟨rfl, F5, h5, hk5, hm5⟩
    have HF5 := Lib.hid h5
    have HR5 := Lib.hid (HOV.out.kept hk5 HVB.out)
    have HK5 : Hid (Kept (fun k => w1.heap.size ≤ k) w1 w5) := Lib.hid (HKV.out.trans hk5 (fun i e => .inl (HNF.out i e)))
    clear h5 hk5 hm5
    go_wp2_with fail
    refine (famBonds_any q F5 bs _ HF5.out HOK.out.sorted (by have := HN.out; omega)).mono ?_
    rintro e w6 ⟨v6, rfl, ho6, hb6⟩
    have HO6 := Lib.hid ho6.reads
    have HR6 := Lib.hid (HR5.out.later hb6)
    have HK6 : Hid (Kept (fun k => w1.heap.size ≤ k) w1 w6) := Lib.hid (HK5.out.trans (Kept.ofBelow (F := fun _ => False) hb6) (fun _ e => e.elim))
    clear ho6 hb6
    go_wp2_with fail
    refine (eqBond_any _ _ bs bs _ HR6.out HO6.out).mono ?_
    rintro e w7 ⟨rfl, hb7⟩
    rw [decide_eq_true rfl]
    have HEND : Hid (Below w.heap.size w w7) := Lib.hid (nb_trans (HB1.out.trans (HK6.out.below HB1.out.size (fun k e => by have := HW1.out; omega))) hb7)
    clear hb7
    go_wp2
    go_ret
    exact ⟨rfl, HEND.out⟩
  · have HNE := Lib.hid heq
    have heqb : ((a_1 == a_2) && (b_1 == b_2)) = false := by rw [← eqHd]; exact decide_eq_false heq
    by_cases hlo : (a_2, b_2) ∈ U
    · as_aux_lemma =>
      have HP := Lib.hid (adoptB_yes (bs := bs) (c := (a_1, b_1)) (p := (a_2, b_2)) (.inr ((HUM.out _).1 hlo)))
      have HLO := Lib.hid hlo
      clear hlo
      cases h1 : (a_1 == a_2) <;> cases h2 : (b_1 == b_2)
      case true.true => exact absurd (Prod.ext (eq_of_beq h1) (eq_of_beq h2)) heq
      all_goals
        clear heq heqb
        go_wp2_with fail
        go_region_held3 (fun x => (x.cell? ⟨w.heap.size, 0, none⟩ = some (.int .i64 a_1) ∧ x.cell? ⟨w.heap.size, 1, none⟩ = some (.int .i64 b_1) ∧ x.cell? ⟨w.heap.size + 1, 0, none⟩ = some (.int .i64 a_2) ∧ x.cell? ⟨w.heap.size + 1, 1, none⟩ = some (.int .i64 b_2))) (first | go_keep | exact HCE.out _ HKU.out | exact HCE.out _ HKV.out) (first
          | ((go_at_call 19; refine (famUnder_to q F bs a_1 b_1 U HU.out _ (HF3.out.later (Below.refl _ _).drew) HOK.out HAB.out (by have := HN.out; omega)).mono ?_; rintro e x4 ⟨v4, rfl, ho4, hb4⟩; have hb4' := nb_trans (Below.refl _ w3).drew hb4; have HKU : Hid (Kept (fun k => w1.heap.size ≤ k) w1 x4) := Lib.hid (HK3.out.trans (Kept.ofBelow (F := fun _ => False) hb4') (fun _ e => e.elim)); have HO4 := Lib.hid ho4.reads; have HB4 := Lib.hid hb4'; clear ho4 hb4 hb4'))
          | ((go_at_call 23; refine (hasHand_any _ U a_2 b_2 _ HO4.out).mono ?_; rintro e V ⟨rfl, hb5⟩; rw [decide_eq_true HLO.out]; have HFV := Lib.hid (HF3.out.later (nb_trans HB4.out hb5)); have HOV := Lib.hid (HO3.out.reads.later (nb_trans HB4.out hb5)); have HKV : Hid (Kept (fun k => w1.heap.size ≤ k) w1 V) := Lib.hid (HKU.out.trans (Kept.ofBelow (F := fun _ => False) hb5) (fun _ e => e.elim)); clear hb5)))
        obtain ⟨c0, c1, c2, c3⟩ := HCE.out V HKV.out
        have hl0 : w.heap.size < V.heap.size := by have := HW1.out; have := HKV.out.size; omega
        have hl1 : w.heap.size + 1 < V.heap.size := by have := HW1.out; have := HKV.out.size; omega
        go_wp2_with fail
        refine (famAdopt_to q F bs a_1 b_1 a_2 b_2 8 bs _ HFV.out HOK.out HAB.out HCD.out (by have := HN.out; unfold maxLen; omega) HP.out.2 HP.out.1).mono ?_
        rintro e w5 ⟨rfl, F5, h5, hk5, hm5⟩
        have HF5 := Lib.hid h5
        have HR5 := Lib.hid (HOV.out.kept hk5 HVB.out)
        have HK5 : Hid (Kept (fun k => w1.heap.size ≤ k) w1 w5) := Lib.hid (HKV.out.trans hk5 (fun i e => .inl (HNF.out i e)))
        clear h5 hk5 hm5
        go_wp2_with fail
        refine (famBonds_any q F5 bs _ HF5.out HOK.out.sorted (by have := HN.out; omega)).mono ?_
        rintro e w6 ⟨v6, rfl, ho6, hb6⟩
        have HO6 := Lib.hid ho6.reads
        have HR6 := Lib.hid (HR5.out.later hb6)
        have HK6 : Hid (Kept (fun k => w1.heap.size ≤ k) w1 w6) := Lib.hid (HK5.out.trans (Kept.ofBelow (F := fun _ => False) hb6) (fun _ e => e.elim))
        clear ho6 hb6
        go_wp2_with fail
        refine (eqBond_any _ _ bs bs _ HR6.out HO6.out).mono ?_
        rintro e w7 ⟨rfl, hb7⟩
        rw [decide_eq_true rfl]
        have HEND : Hid (Below w.heap.size w w7) := Lib.hid (nb_trans (HB1.out.trans (HK6.out.below HB1.out.size (fun k e => by have := HW1.out; omega))) hb7)
        clear hb7
        go_wp2
        go_ret
        exact ⟨rfl, HEND.out⟩
    · have HLO := Lib.hid hlo
      have HNL : Hid (¬ Loops bs (a_1, b_1) (a_2, b_2)) := Lib.hid (fun h => h.elim HNE.out (fun u => HLO.out ((HUM.out _).2 u)))
      have HP := Lib.hid (adoptB_no HNL.out)
      clear hlo
      cases h1 : (a_1 == a_2) <;> cases h2 : (b_1 == b_2)
      case true.true => exact absurd (Prod.ext (eq_of_beq h1) (eq_of_beq h2)) heq
      all_goals
        as_aux_lemma =>
        clear heq heqb
        go_wp2_with fail
        go_region_held3 (fun x => (x.cell? ⟨w.heap.size, 0, none⟩ = some (.int .i64 a_1) ∧ x.cell? ⟨w.heap.size, 1, none⟩ = some (.int .i64 b_1) ∧ x.cell? ⟨w.heap.size + 1, 0, none⟩ = some (.int .i64 a_2) ∧ x.cell? ⟨w.heap.size + 1, 1, none⟩ = some (.int .i64 b_2))) (first | go_keep | exact HCE.out _ HKU.out | exact HCE.out _ HKV.out) (first
          | ((go_at_call 19; refine (famUnder_to q F bs a_1 b_1 U HU.out _ (HF3.out.later (Below.refl _ _).drew) HOK.out HAB.out (by have := HN.out; omega)).mono ?_; rintro e x4 ⟨v4, rfl, ho4, hb4⟩; have hb4' := nb_trans (Below.refl _ w3).drew hb4; have HKU : Hid (Kept (fun k => w1.heap.size ≤ k) w1 x4) := Lib.hid (HK3.out.trans (Kept.ofBelow (F := fun _ => False) hb4') (fun _ e => e.elim)); have HO4 := Lib.hid ho4.reads; have HB4 := Lib.hid hb4'; clear ho4 hb4 hb4'))
          | ((go_at_call 23; refine (hasHand_any _ U a_2 b_2 _ HO4.out).mono ?_; rintro e V ⟨rfl, hb5⟩; rw [decide_eq_false HLO.out]; have HFV := Lib.hid (HF3.out.later (nb_trans HB4.out hb5)); have HOV := Lib.hid (HO3.out.reads.later (nb_trans HB4.out hb5)); have HKV : Hid (Kept (fun k => w1.heap.size ≤ k) w1 V) := Lib.hid (HKU.out.trans (Kept.ofBelow (F := fun _ => False) hb5) (fun _ e => e.elim)); clear hb5)))
        obtain ⟨c0, c1, c2, c3⟩ := HCE.out V HKV.out
        have hl0 : w.heap.size < V.heap.size := by have := HW1.out; have := HKV.out.size; omega
        have hl1 : w.heap.size + 1 < V.heap.size := by have := HW1.out; have := HKV.out.size; omega
        go_wp2_with fail
        refine (famAdopt_to q F bs a_1 b_1 a_2 b_2 0 _ _ HFV.out HOK.out HAB.out HCD.out (by have := HN.out; unfold maxLen; omega) HP.out.2 rfl).mono ?_
        rintro e w5 ⟨rfl, F5, h5, hk5, hm5⟩
        have HMA := Lib.hid (fun b => mem_adoptB (b := b) HNL.out)
        have HOK5 := Lib.hid (HOK.out.adopt HAB.out HCD.out)
        have HL5 := Lib.hid (adoptB_len bs (a_1, b_1) (a_2, b_2))
        obtain ⟨cs, hcs⟩ : ∃ cs, adoptB bs (a_1, b_1) (a_2, b_2) = cs := ⟨_, rfl⟩
        rw [hcs] at h5 HMA HOK5 HL5
        have HN5 : Hid (cs.length * 32 ≤ 140737488355328) := Lib.hid (by have := HN.out; have := HL5.out; omega)
        have HF5 := Lib.hid h5
        have HR5 := Lib.hid (HOV.out.kept hk5 HVB.out)
        have HK5 : Hid (Kept (fun k => w1.heap.size ≤ k) w1 w5) := Lib.hid (HKV.out.trans hk5 (fun i e => .inl (HNF.out i e)))
        have HNF5 : Hid (∀ b, F5 b → w1.heap.size ≤ b) := Lib.hid (fun b hb => (hm5 b hb).elim (HNF.out b) (fun e => Nat.le_trans HKV.out.size e))
        clear h5 hk5 hm5 hcs c0 c1 c2 c3 hl0 hl1
        go_wp2_with fail
        refine (famBonds_any q F5 cs _ HF5.out HOK5.out.sorted HN5.out).mono ?_
        rintro e w6 ⟨v6, rfl, ho6, hb6⟩
        have HO6 := Lib.hid ho6
        have HR6 := Lib.hid (HR5.out.later hb6)
        have HF6 := Lib.hid (HF5.out.later hb6)
        have HK6 : Hid (Kept (fun k => w1.heap.size ≤ k) w1 w6) := Lib.hid (HK5.out.trans (Kept.ofBelow (F := fun _ => False) hb6) (fun _ e => e.elim))
        clear ho6 hb6
        obtain ⟨c0, c1, c2, c3⟩ := HCE.out w6 HK6.out
        have hl0 : w.heap.size < w6.heap.size := by have := HW1.out; have := HK6.out.size; omega
        have hl1 : w.heap.size + 1 < w6.heap.size := by have := HW1.out; have := HK6.out.size; omega
        obtain ⟨U2, hU2, hUm2⟩ := HOK5.out.underAt (a_2, b_2)
        have HU2 := Lib.hid hU2
        have HIN : Hid ((a_1, b_1) ∈ U2) := Lib.hid ((hUm2 _).2 (.base ((HMA.out _).2 (.inl rfl))))
        clear hU2 hUm2
        go_wp2_with fail
        go_region_held3 (fun x => (x.cell? ⟨w.heap.size, 0, none⟩ = some (.int .i64 a_1) ∧ x.cell? ⟨w.heap.size, 1, none⟩ = some (.int .i64 b_1) ∧ x.cell? ⟨w.heap.size + 1, 0, none⟩ = some (.int .i64 a_2) ∧ x.cell? ⟨w.heap.size + 1, 1, none⟩ = some (.int .i64 b_2))) (first | go_keep | exact HCE.out _ HKU2.out | exact HCE.out _ HK8.out) (first
          | ((go_at_call 19; refine (famUnder_to q F5 cs a_2 b_2 U2 HU2.out _ (HF6.out.later (Below.refl _ _).drew) HOK5.out HCD.out HN5.out).mono ?_; rintro e x7 ⟨v7, rfl, ho7, hb7⟩; have hb7' := nb_trans (Below.refl _ w6).drew hb7; have HKU2 : Hid (Kept (fun k => w1.heap.size ≤ k) w1 x7) := Lib.hid (HK6.out.trans (Kept.ofBelow (F := fun _ => False) hb7') (fun _ e => e.elim)); have HO7 := Lib.hid ho7.reads; have HB7 := Lib.hid hb7'; clear ho7 hb7 hb7'))
          | ((go_at_call 23; refine (hasHand_any _ U2 a_1 b_1 _ HO7.out).mono ?_; rintro e w8 ⟨rfl, hb8⟩; rw [decide_eq_true HIN.out]; have HF8 := Lib.hid (HF6.out.later (nb_trans HB7.out hb8)); have HR8 := Lib.hid (HR6.out.later (nb_trans HB7.out hb8)); have HO8 := Lib.hid (HO6.out.reads.later (nb_trans HB7.out hb8)); have HK8 : Hid (Kept (fun k => w1.heap.size ≤ k) w1 w8) := Lib.hid (HKU2.out.trans (Kept.ofBelow (F := fun _ => False) hb8) (fun _ e => e.elim)); clear hb8)))
        clear c0 c1 c2 c3
        obtain ⟨hm, hop⟩ := HR8.out.open
        unfold maxLen at hm
        obtain ⟨n, hn⟩ : ∃ n, bs.length = n := ⟨_, rfl⟩
        have HLB := Lib.hid hn
        rw [hn] at hm hop
        clear hn
        rcases hop with ⟨ad, cap, rfl, hz⟩ | ⟨bl, off, cap, rfl, hbl, hlc, hcm, hc⟩
        all_goals
          go_wp2
          go_loopw [58] (fun i wr => ∃ k : Nat, k ≤ n ∧ i = .int .i64 k ∧ Hid (Below w8.heap.size w8 wr)) (fun i _ => n - (intOf i).toNat)
          case atStart => exact ⟨0, by omega, rfl, Below.refl _ _⟩
          case round =>
            obtain ⟨k, hk, rfl, hB⟩ := hrel
            have HKW : Hid (Kept (fun k => w1.heap.size ≤ k) w1 wr) := Lib.hid (HK8.out.trans (Kept.ofBelow (F := fun _ => False) hB.out) (fun _ e => e.elim))
            obtain ⟨c0, c1, c2, c3⟩ := HCE.out wr HKW.out
            have hl0 : w.heap.size < wr.heap.size := by have := HW1.out; have := HKW.out.size; omega
            have hl1 : w.heap.size + 1 < wr.heap.size := by have := HW1.out; have := HKW.out.size; omega
            by_cases hltk : k < n
            · first
                | omega
                | (have hcr : ∀ jj, jj < 4 → wr.cell? ⟨bl, off + k * 4 + jj, none⟩ = (elBond.enc (bs.getD k bdZ))[jj]? := fun jj hjj => by rw [hB.out.cell (p := ⟨bl, _, none⟩) hbl]; exact hc k hltk jj hjj
                   have hkl : k < bs.length := by rw [HLB.out]; exact hltk
                   have HYM := Lib.hid (memD (d := bdZ) hkl)
                   have hbw : bl < wr.heap.size := Nat.lt_of_lt_of_le hbl hB.out.size
                   obtain ⟨y, hy⟩ : ∃ y, bs.getD k bdZ = y := ⟨_, rfl⟩
                   rw [hy] at hcr HYM
                   obtain ⟨⟨y1, y2⟩, y3, y4⟩ := y
                   have d0 : wr.cell? ⟨bl, off + k * 4, none⟩ = some (.int .i64 y1) := hcr 0 (by decide)
                   have d1 : wr.cell? ⟨bl, off + k * 4 + 1, none⟩ = some (.int .i64 y2) := hcr 1 (by decide)
                   have d2 : wr.cell? ⟨bl, off + k * 4 + 2, none⟩ = some (.int .i64 y3) := hcr 2 (by decide)
                   have d3 : wr.cell? ⟨bl, off + k * 4 + 3, none⟩ = some (.int .i64 y4) := hcr 3 (by decide)
                   have HMB : Hid ((y1, y2) ≠ (a_1, b_1) → ((y1, y2), (y3, y4)) ∈ cs) := Lib.hid (fun h => (HMA.out _).2 (.inr ⟨HYM.out, h⟩))
                   have HBA := Lib.hid (nb_alloc hB.out (.cells #[.int .i64 y1, .int .i64 y2, .int .i64 y3, .int .i64 y4] 44))
                   clear hcr hc hy c2 c3
                   cases g1 : (y1 == a_1) <;> cases g2 : (y2 == b_1)
                   case true.true =>
                     go_wp2
                     go_roundw
                     case rel => exact ⟨k + 1, by omega, by go_num, HBA⟩
                     case measure => simp [intOf]; omega
                   all_goals
                     have HIM : Hid (((y1, y2), (y3, y4)) ∈ cs) := Lib.hid (HMB.out (fun e => by
                       simp only [Prod.mk.injEq] at e
                       obtain ⟨rfl, rfl⟩ := e
                       first | (simp at g1; done) | (simp at g2; done)))
                     go_wp2_with fail
                     refine (hasBond_any _ cs y1 y2 y3 y4 _ (HO8.out.later HBA.out)).mono ?_
                     rintro e w9 ⟨rfl, hb9⟩
                     rw [decide_eq_true HIM.out]
                     have HB9 := Lib.hid (nb_trans HBA.out hb9)
                     clear hb9 d0 d1 d2 d3 c0 c1
                     go_wp2
                     go_roundw
                     case rel => exact ⟨k + 1, by omega, by go_num, HB9⟩
                     case measure => simp [intOf]; omega)
            · obtain rfl : k = n := by omega
              have HFW := Lib.hid (HF8.out.later hB.out)
              have HC0 : Hid ((a_1, b_1) ∉ (rmB cs (a_1, b_1)).map (·.1)) := Lib.hid (fun h => by
                obtain ⟨x, hx, e⟩ := List.mem_map.1 h
                exact (mem_rmB.1 hx).2 e)
              have HL1 : Hid (looseE cs (a_1, b_1) = 0) := Lib.hid (by rw [looseE, hasP_iff.2 ⟨_, (HMA.out _).2 (.inl rfl)⟩]; rfl)
              have hnp : hasP (rmB cs (a_1, b_1)) (a_1, b_1) = false := hasP_no (fun p hp => (mem_rmB.1 hp).2 rfl)
              have HL2 : Hid (looseE (rmB cs (a_1, b_1)) (a_1, b_1) = 5 ∧ rmB (rmB cs (a_1, b_1)) (a_1, b_1) = rmB cs (a_1, b_1)) := Lib.hid ⟨by rw [looseE, hnp]; rfl, rmB_none hnp⟩
              have HOK9 := Lib.hid (HOK5.out.rm (a_1, b_1))
              have HN9 : Hid ((rmB cs (a_1, b_1)).length * 32 ≤ 140737488355328) := Lib.hid (by have := rmB_len cs (a_1, b_1); have := HN5.out; omega)
              obtain ⟨U3, hU3, hUm3⟩ := HOK9.out.underAt (a_2, b_2)
              have HU3 := Lib.hid hU3
              have HNI : Hid ((a_1, b_1) ∉ U3) := Lib.hid (fun h => by
                obtain ⟨z, hz, _⟩ := rel_und ((hUm3 _).1 h)
                exact (mem_rmB.1 hz).2 rfl)
              obtain ⟨ds, hds⟩ : ∃ ds, rmB cs (a_1, b_1) = ds := ⟨_, rfl⟩
              have HDS := Lib.hid hds
              rw [hds] at HL2 HOK9 HN9 HU3
              clear hnp hU3 hUm3 hds
              go_wp2_with fail
              go_region_held3 (fun x => (x.cell? ⟨w.heap.size, 0, none⟩ = some (.int .i64 a_1) ∧ x.cell? ⟨w.heap.size, 1, none⟩ = some (.int .i64 b_1) ∧ x.cell? ⟨w.heap.size + 1, 0, none⟩ = some (.int .i64 a_2) ∧ x.cell? ⟨w.heap.size + 1, 1, none⟩ = some (.int .i64 b_2))) (first | go_keep | exact HCE.out _ HKa.out | exact HCE.out _ HKb.out | exact HCE.out _ HKc.out | exact HCE.out _ HKd.out) (first
                | ((go_at_call 25; refine (famLoosen_to q F5 cs a_1 b_1 0 ds _ (HFW.out.later (Below.refl _ _).drew) HOK5.out.sorted HAB.out.1 HAB.out.2 HL1.out HDS.out).mono ?_; clear HFW; rintro e xa ⟨rfl, ha9, hka⟩; have HFa := Lib.hid ha9; have HKa : Hid (Kept (fun k => w1.heap.size ≤ k) w1 xa) := Lib.hid ((HKW.out.trans (Kept.drew (fun _ => False) _) (fun _ e => e.elim)).trans hka (fun i e => .inl (HNF5.out i e))); clear ha9 hka))
                | ((go_at_call 25; refine (famLoosen_to q F5 ds a_1 b_1 5 ds _ HFa.out HOK9.out.sorted HAB.out.1 HAB.out.2 HL2.out.1 HL2.out.2).mono ?_; clear HFa; rintro e xb ⟨rfl, ha9, hka⟩; have HFb := Lib.hid ha9; have HKb : Hid (Kept (fun k => w1.heap.size ≤ k) w1 xb) := Lib.hid (HKa.out.trans hka (fun i e => .inl (HNF5.out i e))); clear ha9 hka))
                | ((go_at_call 19; refine (famUnder_to q F5 ds a_2 b_2 U3 HU3.out _ HFb.out HOK9.out HCD.out HN9.out).mono ?_; rintro e xc ⟨vc, rfl, hoc, hbc⟩; have HKc : Hid (Kept (fun k => w1.heap.size ≤ k) w1 xc) := Lib.hid (HKb.out.trans (Kept.ofBelow (F := fun _ => False) hbc) (fun _ e => e.elim)); have HOc := Lib.hid hoc.reads; clear hoc hbc))
                | ((go_at_call 23; refine (hasHand_any _ U3 a_1 b_1 _ HOc.out).mono ?_; rintro e xd ⟨rfl, hbd⟩; rw [decide_eq_false HNI.out]; have HKd : Hid (Kept (fun k => w1.heap.size ≤ k) w1 xd) := Lib.hid (HKc.out.trans (Kept.ofBelow (F := fun _ => False) hbd) (fun _ e => e.elim)); clear hbd)))
              have HEND : Hid (Below w.heap.size w xd) := Lib.hid (HB1.out.trans (HKd.out.below HB1.out.size (fun k e => by have := HW1.out; omega)))
              go_wp2
              go_ret
              exact ⟨rfl, HEND.out⟩

namespace familyAdopts
theorem own : ownKnob Try.prog.godebug = none := by kernel_rfl
theorem laidOut : laidOutB Try.prog = true := by kernel_rfl

set_option maxRecDepth 100000 in
set_option maxHeartbeats 4000000 in
theorem lifted (os : Os) (started : os.Started) (H : Type) (enc : TypeId × Value → H) :
    ReturnsInHanded {} Try.checked os 7 .any (Rows.familyAdoptsSpec.pre6 enc Try.prog Try.f7 Rows.familyAdoptsRow.domain false) (Rows.familyAdoptsSpec.post enc Try.prog Try.f7 false true false false) := by
  refine returnsInHanded_of_change_sized (C := Try.checked) own started (by kernel_rfl) Try.func7
    (ChangeSpec.witness6 (enc := enc) (C := Try.checked) false ⟨#[], #[.slice none 0 0, .agg #[.int .i64 0, .int .i64 0], .agg #[.int .i64 0, .int .i64 0]], []⟩ 8 (by kernel_rfl) (by kernel_rfl) (by kernel_rfl) (by kernel_rfl)) ?_
  intro W base args ds gs before hval0 hW hcnd hsz _
  have hval : ∀ (j : Nat) t v, Try.f7.params[j]? = some t → args[j]? = some v → Value.okWide Try.prog W .any base t v := hval0
  have hW' := hW
  obtain ⟨p, q, hA0, hV, rfl, hfz, hnd⟩ := hW
  have hA : DataW.TrodAll enc Try.prog W 0 (fun _ => true) true Try.f7.params.toList args.toList ds p := hA0
  rw [Try.params7] at hA hval
  obtain ⟨v0, vs0, d0, ds0, p0, q0, hargs, rfl, rfl, h0, r0⟩ := trodAll_cons hA
  obtain ⟨v1, vs1, d1, ds1, p1, q1, rfl, rfl, rfl, h1, r1⟩ := trodAll_cons r0
  obtain ⟨v2, vs2, d2, ds2, p2, q2, rfl, rfl, rfl, h2, r2⟩ := trodAll_cons r1
  obtain ⟨rfl, rfl, rfl⟩ := trodAll_nil r2
  obtain rfl : args = #[v0, v1, v2] := by cases args; simp_all
  obtain ⟨rfl, rfl⟩ := trodVars_none hV
  have k0' := h0
  have lt0 : ∀ x ∈ p0, x.block < W.heap.size := by obtain ⟨m, hm⟩ := h0; exact DataW.trod_lt m _ _ _ hm
  have k1' := h1
  have lt1 : ∀ x ∈ p1, x.block < W.heap.size := by obtain ⟨m, hm⟩ := h1; exact DataW.trod_lt m _ _ _ hm
  have k2' := h2
  have lt2 : ∀ x ∈ p2, x.block < W.heap.size := by obtain ⟨m, hm⟩ := h2; exact DataW.trod_lt m _ _ _ hm
  obtain ⟨z0, i0, j0⟩ : ∃ zs, Reads elOp W v0 zs ∧ ∀ x ∈ zs, OpOk x := by
    obtain ⟨a0, len0, cap0, rfl⟩ := okWide_slice Try.underlying22 (hval 0 22 v0 rfl rfl)
    exact Reads_ofP elOp OpOk Try.underlying22 (by kernel_rfl) op_dec h0
  obtain ⟨a_1, b_1, rfl, i1⟩ : ∃ a_1 b_1 : Int, v1 = .agg #[.int .i64 a_1, .int .i64 b_1] ∧ (I64 a_1 ∧ I64 b_1) := by
    obtain ⟨zs, hl, rfl, hz⟩ := open_flat 3 2 Try.underlying38 (by kernel_rfl) (by kernel_rfl) (hval 1 38 v1 rfl rfl) h1
    obtain ⟨a_1, b_1, rfl⟩ := list2 hl
    exact ⟨a_1, b_1, rfl, hz a_1 (by simp), hz b_1 (by simp)⟩
  obtain ⟨a_2, b_2, rfl, i2⟩ : ∃ a_2 b_2 : Int, v2 = .agg #[.int .i64 a_2, .int .i64 b_2] ∧ (I64 a_2 ∧ I64 b_2) := by
    obtain ⟨zs, hl, rfl, hz⟩ := open_flat 3 2 Try.underlying38 (by kernel_rfl) (by kernel_rfl) (hval 2 38 v2 rfl rfl) h2
    obtain ⟨a_2, b_2, rfl⟩ := list2 hl
    exact ⟨a_2, b_2, rfl, hz a_2 (by simp), hz b_2 (by simp)⟩
  rw [Try.params7] at hsz
  have s0 : z0.length * 128 ≤ 140737488351232 := by
    obtain ⟨aa, cc, ee, _⟩ := i0
    have hh := k0'
    rw [ee] at hh
    exact trod_len Try.underlying22 (show Try.prog.bytesOf 40 = 128 by kernel_rfl) hh (fun el sp hd => sized_slice hsz (j := 0) (t := 22) rfl (by rw [hd]; rfl) Try.underlying22)
  clear hA0 hval0
  refine (familyAdopts_walk v0 z0 j0 a_1 b_1 i1 a_2 b_2 i2 W i0 s0).mono fun e W' ⟨he, bel⟩ => ?_
  subst he
  exact ⟨_, rfl, _, _, _, [], _, [], hW', trodAll_mk1 (shut_bool Try.underlying4 _), (trodAll_cons_mk (Below.trod laidOut (by kernel_rfl) (of_decide_eq_true (by kernel_rfl)) k0' bel lt0) (trodAll_cons_mk (Below.trod laidOut (by kernel_rfl) (of_decide_eq_true (by kernel_rfl)) k1' bel lt1) (trodAll_cons_mk (Below.trod laidOut (by kernel_rfl) (of_decide_eq_true (by kernel_rfl)) k2' bel lt2) trodAll_mk0))), rfl, bel.frame _, fun h => by cases h⟩
end familyAdopts

theorem familyAdopts_proved : Rows.FamilyAdoptsSaid :=
  OpenClaim.holds_of_wide 7 Try.f7 rfl rfl rfl rfl rfl rfl rfl ⟨rfl, rfl, rfl, rfl, rfl⟩ rfl rfl rfl rfl rfl (by kernel_rfl) Try.func7 (by kernel_rfl)
    (of_decide_eq_true (by kernel_rfl)) (by unfold Func.isWrapper; first | (rw [if_pos (by decide +kernel)]; kernel_rfl) | (rw [if_neg (by decide +kernel)]; exact ⟨rfl, rfl⟩))
    (fun os started H enc _ => familyAdopts.lifted os started H enc)

end Go.Proofs.Ytmigfaogomepkaa

/- The contract of Apply of package diff. -/
import Derived.Test.YtnmlapoiilckhaaDoorDiffRows
import Derived.Test.YtnmlapoiilckhaaDoorDiffLaws
namespace Go.Proofs.YtnmlapoiilckhaaDoor
set_option maxRecDepth 8000
open Go.RowKit Go.Maps Go.ChangeMaps Go.Shelf

theorem stepF_at {l : List Ro} {M : Hd → Be} (h : ∀ x, atB l x = M x) (c : Ch) : stepF M c = stepE l c := by unfold stepF stepE; rw [h]
theorem nextF_at {l : List Ro} {M : Hd → Be} (h : ∀ x, atB l x = M x) (hu : Ups l) (hs : Some' l) {c : Ch} (h0 : stepE l c = 0) (x : Hd) : atB (putH l c.1 c.2.2) x = nextF M c x := by
  have e : nextF M c = fun y => if y = c.1 then c.2.2 else M y := if_pos (by rw [stepF_at h]; exact h0)
  rw [e, atB_putH hu hs, h]
/-- where a loop over changes stands: the first k are done -/
structure AppI (l : List Ro) (c : List Ch) (k : Nat) (m : List Ro) : Prop where
  ups : Ups m
  some_ : Some' m
  run : runL l c = runL m (c.drop k)
theorem AppI.start {l : List Ro} (c : List Ch) (h : valid l = true) : AppI l c 0 l := ⟨valid_ups h, valid_some h, rfl⟩
theorem dropC {c : List Ch} {k : Nat} (h : k < c.length) : c.drop k = c.getD k chZ :: c.drop (k + 1) := by
  rw [List.drop_eq_getElem_cons h, List.getD_eq_getElem?_getD, List.getElem?_eq_getElem h]; rfl
theorem AppI.next {l m : List Ro} {c : List Ch} {k : Nat} (h : AppI l c k m) (hk : k < c.length) (h0 : stepE m (c.getD k chZ) = 0) : AppI l c (k + 1) (putH m (c.getD k chZ).1 (c.getD k chZ).2.2) :=
  ⟨putH_ups h.ups _ _, putH_some h.some_ _ _, by rw [h.run, dropC hk, run_cons h0]⟩
theorem AppI.stop {l m : List Ro} {c : List Ch} {k : Nat} (h : AppI l c k m) (hk : k < c.length) (h0 : stepE m (c.getD k chZ) ≠ 0) (hv : valid l = true) (hc : c.length ≤ 120) : appE l c = stepE m (c.getD k chZ) ∧ appR l c = [] := by
  have e : appE l c = stepE m (c.getD k chZ) := by
    rw [appE, if_pos hv, if_pos hc, h.run, dropC hk, run_stop h0, if_neg h0]
  exact ⟨e, by rw [appR, if_neg (by rw [e]; exact h0)]⟩
theorem AppI.done {l m : List Ro} {c : List Ch} {k : Nat} (h : AppI l c k m) (hk : c.length ≤ k) (hv : valid l = true) (hc : c.length ≤ 120) : appE l c = (if valid m = true then 0 else 4) ∧ appR l c = if valid m = true then m else [] := by
  have hr : runL l c = (0, m) := by rw [h.run, List.drop_of_length_le hk, runL]
  have e : appE l c = (if valid m = true then 0 else 4) := by rw [appE, if_pos hv, if_pos hc, hr, if_pos rfl]
  refine ⟨e, ?_⟩
  rw [appR, e, hr]
  split <;> simp
def AppPost (w : World) (l : List Ro) (c : List Ch) (e : Ending) (w' : World) : Prop := ∃ x, e = .returned (.tuple #[x, .int .i64 (appE l c)]) ∧ OwnsF elRo w' w.heap.size 33 x (appR l c) ∧ Below w.heap.size w w'
theorem AppPost.no {w w' : World} {l : List Ro} {c : List Ch} {z : Int} (h : appE l c = z) (h0 : z ≠ 0) (hb : Below w.heap.size w w') : AppPost w l c (.returned (.tuple #[.slice none 0 0, .int .i64 z])) w' := by
  refine ⟨_, by rw [h], ?_, hb⟩
  rw [appR, if_neg (by rw [h]; exact h0)]
  exact OwnsF.nil _ _ _ _
theorem changeY_any (b n : Nat) (M : Hd → Be) (y : Ch) (w : World) (hM : MapF w b n M) (hn : n < maxLen) (hx : kHand.ok y.1) (hv : DVars w) :
    Calls Tryd.prog 28 #[.map (some b), chV y] w fun e w' => e = .returned (.int .i64 (stepF M y)) ∧ MapF w' b (n + 1) (nextF M y) ∧ Kept (fun q => q = b) w w' := by
  obtain ⟨⟨s, g⟩, ⟨m, a0, a1, a2, a3, a4, a5, a6, a7⟩, q, b0, b1, b2, b3, b4, b5, b6, b7⟩ := y
  exact change_any b n M s g m a0 a1 a2 a3 a4 a5 a6 a7 q b0 b1 b2 b3 b4 b5 b6 b7 w hM hn hx hv
set_option maxHeartbeats 8000000 in
theorem apply_any (u v : Value) (l : List Ro) (c : List Ch) (w : World) (hl : Reads elRo w u l) (hc : Reads elCh w v c) (hi : ∀ x ∈ c, I64 x.1.1 ∧ I64 x.1.2) (hv : DVars w) : Calls Tryd.prog 12 #[u, v] w (AppPost w l c) := by
  have HL := Lib.hid hl
  have HV := Lib.hid hv
  have HI := Lib.hid hi
  obtain ⟨ua, ul, uc, hue⟩ : ∃ a k c, u = .slice a k c := by obtain ⟨a, c, e, _⟩ := hl; exact ⟨_, _, _, e⟩
  obtain ⟨va, vc, rfl, hlc, hm, hcc⟩ := hc
  unfold maxLen at hm
  obtain ⟨n, hn⟩ : ∃ n, c.length = n := ⟨_, rfl⟩
  have HN := Lib.hid hn
  rw [hn] at hlc hcc ⊢
  have HC := Lib.hid hcc
  clear hl hv hi hn hcc
  subst hue
  go_enter Tryd.func12, Tryd.ntmps12
  cases hva : valid l
  · as_aux_lemma =>
    have HP := Lib.hid (fun W => dvalid_any (.slice ua ul uc) l W)
    rw [hva] at HP
    have HE : Hid (appE l c = 4) := Lib.hid (by rw [appE, hva]; rfl)
    clear hva
    go_wp2_with (go_at_call 17; refine (HP.out _ HL.out).mono ?_; rintro e w1 ⟨rfl, hb1⟩)
    go_ret2
    exact AppPost.no HE.out (by decide) hb1
  · have HP := Lib.hid (fun W => dvalid_any (.slice ua ul uc) l W)
    rw [hva] at HP
    have HVA := Lib.hid hva
    clear hva
    by_cases h120 : n ≤ 120
    · have HVL := Lib.hid (valid_len HVA.out)
      go_wp2_with fail
      refine (HP.out _ HL.out).mono ?_
      rintro e w1 ⟨rfl, hb1⟩
      have HB1 := Lib.hid hb1
      clear hb1 HP
      go_wp2_with fail
      refine (store_any _ l _ (HL.out.later HB1.out) HVA.out).mono ?_
      rintro e w2 ⟨rfl, hm2, hb2⟩
      have HB2 := Lib.hid (nb_trans HB1.out hb2)
      have HM2 := Lib.hid hm2
      have HSB : Hid (w.heap.size ≤ w1.heap.size) := Lib.hid HB1.out.size
      clear hm2 hb2
      generalize w1.heap.size = p at *
      go_wp2
      go_loopw [21] (fun i wr => ∃ (k : Nat) (ml : List Ro), k ≤ n ∧ i = .int .i64 k ∧ Hid (AppI l c k ml) ∧ Hid (MapF wr p (60 + k) (atB ml)) ∧ Hid (Below w.heap.size w wr)) (fun i _ => n - (intOf i).toNat)
      case atStart => exact ⟨0, l, by omega, rfl, Lib.hid (AppI.start c HVA.out), HM2, HB2⟩
      case round =>
        obtain ⟨k, ml, hk, rfl, hI, hM, hB⟩ := hrel
        by_cases hlt : k < n
        · obtain ⟨bb, off, rfl, hbb, hck⟩ := HC.out k hlt
          have hkl : k < c.length := by rw [HN.out]; exact hlt
          have hcr : ∀ j, j < 20 → wr.cell? ⟨bb, off + k * 20 + j, none⟩ = (elCh.enc (c.getD k chZ))[j]? := fun j hj => by rw [hB.out.cell (p := ⟨bb, _, none⟩) hbb]; exact hck j hj
          have hnx := fun h0 => hI.out.next hkl h0
          have hst := fun h0 => hI.out.stop hkl h0 HVA.out (by rw [HN.out]; exact h120)
          have hnf := fun h0 x => nextF_at (fun x => rfl) hI.out.ups hI.out.some_ (c := c.getD k chZ) h0 x
          have hsf := stepF_at (l := ml) (M := atB ml) (fun x => rfl) (c.getD k chZ)
          have hok := HI.out _ (memD (d := chZ) hkl)
          obtain ⟨y, hy⟩ : ∃ y, c.getD k chZ = y := ⟨_, rfl⟩
          rw [hy] at hcr hnx hst hnf hsf hok
          have hkok : kHand.ok y.1 := hok
          have hbw : bb < wr.heap.size := Nat.lt_of_lt_of_le hbb hB.out.size
          have hld := ld_ch (c := y) hcr
          have hst2 := st_new y wr
          have hld2 := ld_new y wr
          have HXA := Lib.hid (nb_alloc (Below.refl wr.heap.size wr) (.cells (elCh.enc y).toArray 36))
          have HCG := Lib.hid (changeY_any p (60 + k) (atB ml) y (wr.alloc (.cells (elCh.enc y).toArray 36)) (hM.out.later HXA.out) (by unfold maxLen; omega) hkok ((HV.out.later hB.out).later HXA.out))
          rw [hsf] at HCG
          have HNX := Lib.hid hnx
          have HST := Lib.hid hst
          have HNF := Lib.hid hnf
          obtain ⟨Y, hYe⟩ : ∃ Y, chV y = Y := ⟨_, rfl⟩
          obtain ⟨CS, hCS⟩ : ∃ CS, (elCh.enc y).toArray = CS := ⟨_, rfl⟩
          rw [hCS] at HXA HCG hst2 hld2
          rw [hYe] at HCG hld hst2 hld2
          clear hck hcr hnx hst hnf hsf hok hkok hy hkl hYe hCS
          by_cases h0 : stepE ml y = 0
          · as_aux_lemma =>
            have HN0 := Lib.hid (HNX.out h0)
            have HF0 := Lib.hid (HNF.out h0)
            rw [h0] at HCG
            clear h0 HNX HST HNF
            go_wp2_with (first | refine wpList_ldY rfl 36 _ rfl _ rfl Y hld ?_ | refine wpList_stY rfl 36 _ _ rfl _ rfl Y rfl hst2 ?_ | refine wpList_ldY rfl 36 _ rfl _ rfl Y hld2 ?_ | fail)
            refine HCG.out.mono ?_
            rintro e w5 ⟨rfl, hm5, hk5⟩
            have HMN := Lib.hid (hm5.congr (fun x => (HF0.out x).symm))
            have HBN : Hid (Below w.heap.size w w5) := Lib.hid ((nb_trans hB.out HXA.out).trans (hk5.below (nb_trans hB.out HXA.out).size (fun i e => by have := HSB.out; omega)))
            clear hm5 hk5 hld hst2 hld2 HCG
            go_wp2
            go_roundw
            case rel => exact ⟨k + 1, _, by omega, by go_num, HN0, HMN, HBN⟩
            case measure => simp [intOf]; omega
          · as_aux_lemma =>
            obtain ⟨z, hz⟩ : ∃ z, stepE ml y = z := ⟨_, rfl⟩
            have HS0 := Lib.hid (HST.out h0)
            rw [hz] at HCG HS0 h0
            have hz0 : (z != 0) = true := by simpa using h0
            have HZ0 := Lib.hid h0
            clear h0 HNX HST HNF hz
            go_wp2_with (first | refine wpList_ldY rfl 36 _ rfl _ rfl Y hld ?_ | refine wpList_stY rfl 36 _ _ rfl _ rfl Y rfl hst2 ?_ | refine wpList_ldY rfl 36 _ rfl _ rfl Y hld2 ?_ | fail)
            refine HCG.out.mono ?_
            rintro e w5 ⟨rfl, -, hk5⟩
            have HBN : Hid (Below w.heap.size w w5) := Lib.hid ((nb_trans hB.out HXA.out).trans (hk5.below (nb_trans hB.out HXA.out).size (fun i e => by have := HSB.out; omega)))
            clear hk5 hld hst2 hld2 HCG
            go_wp2
            go_ret2
            exact AppPost.no HS0.out.1 HZ0.out HBN.out
        · as_aux_lemma =>
          obtain rfl : k = n := by omega
          have HD := Lib.hid (hI.out.done (by rw [HN.out]; exact Nat.le_refl _) HVA.out (by rw [HN.out]; exact h120))
          go_wp2_with fail
          refine (rows_any p _ _ ml _ hM.out (by omega) hI.out.ups hI.out.some_ (fun x => rfl)).mono ?_
          rintro e w5 ⟨vr, rfl, ho5, hb5⟩
          have HB5 := Lib.hid (nb_trans hB.out hb5)
          have HO5 := Lib.hid ho5
          obtain ⟨ra, rl, rc, rfl⟩ : ∃ a k c, vr = .slice a k c := by obtain ⟨a, c, e, _⟩ := ho5.reads; exact ⟨_, _, _, e⟩
          clear ho5 hb5
          have HPV := Lib.hid (dvalid_any (.slice ra rl rc) ml w5 HO5.out.reads)
          have HSW : Hid (w.heap.size ≤ wr.heap.size) := Lib.hid hB.out.size
          cases hvm : valid ml
          · rw [hvm] at HPV HD
            go_wp2_with fail
            refine HPV.out.mono ?_
            rintro e w6 ⟨rfl, hb6⟩
            have HB6 := Lib.hid (nb_trans HB5.out hb6)
            clear hb6 HPV
            go_wp2
            go_ret2
            exact AppPost.no HD.out.1 (by decide) HB6.out
          · rw [hvm] at HPV HD
            go_wp2_with fail
            refine HPV.out.mono ?_
            rintro e w6 ⟨rfl, hb6⟩
            have HB6 := Lib.hid (nb_trans HB5.out hb6)
            have HO6 := Lib.hid (HO5.out.later hb6)
            clear hb6 HPV
            go_wp2
            go_ret2
            exact ⟨_, by rw [HD.out.1]; rfl, by rw [HD.out.2]; exact HO6.out.weaken HSW.out, HB6.out⟩
    · as_aux_lemma =>
      have HE : Hid (appE l c = 2) := Lib.hid (by rw [appE, if_pos HVA.out, if_neg (by rw [HN.out]; exact h120)])
      go_wp2_with fail
      refine (HP.out _ HL.out).mono ?_
      rintro e w1 ⟨rfl, hb1⟩
      have HB1 := Lib.hid hb1
      clear hb1 HP
      go_wp2
      go_ret2
      exact AppPost.no HE.out (by decide) HB1.out
end Go.Proofs.YtnmlapoiilckhaaDoor

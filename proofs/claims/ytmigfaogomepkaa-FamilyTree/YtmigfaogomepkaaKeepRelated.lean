/- The contract of related of package vivariumkeep: three handles, two bonds. -/
import Derived.Test.YtmigfaogomepkaaFamUnder
import Derived.Test.YtmigfaogomepkaaFamAdopt
import Derived.Deep.RegionHeld3
namespace Go.Proofs.Ytmigfaogomepkaa
set_option maxRecDepth 8000
open Go.RowKit

theorem famAdopt_to (p : Nat) (F : Nat → Prop) (bs : List Bd) (a b c d x : Int) (bs' : List Bd) (w : World) (h : FamAt w p F bs) (ok : FOk bs) (hab : okH (a, b)) (hcd : okH (c, d)) (hlen : bs.length < maxLen) (hx : adoptE bs (a, b) (c, d) = x) (hb : adoptB bs (a, b) (c, d) = bs') :
    Calls Try.prog 15 #[.pointer (some ⟨p, 0, none⟩), .agg #[.int .i64 a, .int .i64 b], .agg #[.int .i64 c, .int .i64 d]] w fun e w' => e = .returned (.int .i64 x) ∧ ∃ F', FamAt w' p F' bs' ∧ Kept F w w' ∧ Moves w F F' :=
  (famAdopt_any p F bs a b c d w h ok hab hcd hlen).mono fun _ _ ⟨he, hr⟩ => ⟨by rw [he, hx], by rw [← hb]; exact hr⟩

abbrev rel1 : List Bd := [((2, 0), (1, 0))]
abbrev rel2 : List Bd := [((2, 0), (1, 0)), ((3, 0), (2, 0))]
theorem rel_und {bs : List Bd} {x y : Hd} (u : Und bs x y) : ∃ z, (x, z) ∈ bs ∧ (z = y ∨ Und bs z y) := by
  cases u with
  | base h => exact ⟨_, h, .inl rfl⟩
  | step h u => exact ⟨_, h, .inr u⟩
theorem rel_a : adoptE [] (2, 0) (1, 0) = 0 ∧ adoptB [] (2, 0) (1, 0) = rel1 := by
  have hl : ¬ Loops [] (2, 0) (1, 0) := fun h => by
    rcases h with h | h
    · simp at h
    · obtain ⟨z, hz, _⟩ := rel_und h; simp at hz
  exact ⟨(adoptB_no hl).2, (adoptB_no hl).1.trans rfl⟩
theorem rel_b : adoptE rel1 (3, 0) (2, 0) = 0 ∧ adoptB rel1 (3, 0) (2, 0) = rel2 := by
  have hl : ¬ Loops rel1 (3, 0) (2, 0) := fun h => by
    rcases h with h | h
    · simp at h
    · obtain ⟨z, hz, h2⟩ := rel_und h
      simp [rel1] at hz
      subst hz
      rcases h2 with h2 | h2
      · simp at h2
      · obtain ⟨z, hz, _⟩ := rel_und h2; simp [rel1] at hz
  exact ⟨(adoptB_no hl).2, (adoptB_no hl).1.trans (by decide)⟩
theorem rel_c : adoptE rel2 (1, 0) (3, 0) = 8 ∧ adoptB rel2 (1, 0) (3, 0) = rel2 := by
  have hl : Loops rel2 (1, 0) (3, 0) := .inr (.step (y := (2, 0)) (by simp [rel2]) (.base (by simp [rel2])))
  exact ⟨(adoptB_yes hl).2, (adoptB_yes hl).1⟩
theorem rel_acy : AcyBy rel2 (fun h => (3 - h.1).toNat) 2 := ⟨by decide, by decide⟩
theorem rel_under : under rel2 2 (1, 0) = [(2, 0), (3, 0)] := by decide
theorem rel_ok : FOk rel1 ∧ FOk rel2 := by
  have k : ∀ n : Int, 0 ≤ n → n ≤ 3 → okH (n, 0) := fun n h1 h2 => ⟨⟨by show _ ≤ n; omega, by show n ≤ _; omega⟩, ⟨by show (-9223372036854775808 : Int) ≤ 0; decide, by show (0 : Int) ≤ 9223372036854775807; decide⟩⟩
  have h1 : FOk rel1 := by rw [← rel_a.2]; exact FOk.nil.adopt (k 2 (by omega) (by omega)) (k 1 (by omega) (by omega))
  exact ⟨h1, by rw [← rel_b.2]; exact h1.adopt (k 3 (by omega) (by omega)) (k 2 (by omega) (by omega))⟩
theorem okH_n (n : Int) (h1 : 0 ≤ n) (h2 : n ≤ 3) : okH (n, 0) := ⟨⟨by show _ ≤ n; omega, by show n ≤ _; omega⟩, ⟨by show (-9223372036854775808 : Int) ≤ 0; decide, by show (0 : Int) ≤ 9223372036854775807; decide⟩⟩

theorem reads_two (x : World) (a b c d : Int) : Reads elHand (x.alloc (.cells #[.int .i64 a, .int .i64 b, .int .i64 c, .int .i64 d] 38)) (.slice (some ⟨x.heap.size, 0, none⟩) 2 2) [(a, b), (c, d)] := by
  refine ⟨_, 2, rfl, by simp, by simp [maxLen], fun k hk => ⟨_, _, rfl, by simp, fun j hj => ?_⟩⟩
  simp at hk
  have hj' : j < 2 := hj
  rw [cell_of_row _ _ _ _ _ _ (heap_alloc_new x _)]
  rcases (show k = 0 ∨ k = 1 by omega) with rfl | rfl <;> rcases (show j = 0 ∨ j = 1 by omega) with rfl | rfl <;> rfl
set_option maxHeartbeats 8000000 in
theorem related_any (w : World) : Calls Try.prog 21 #[] w fun e w' => e = .returned (.bool true) ∧ Below w.heap.size w w' := by
  go_enter Try.func21, Try.ntmps21
  go_wp2_with fail
  refine (famNew_any _).mono ?_
  rintro e w1 ⟨rfl, hw1⟩
  have hf1 : FamAt w1 w.heap.size (fun b => b = w.heap.size) [] := by rw [← hw1]; exact FamAt.new w
  have hb1 : Below w.heap.size w w1 := by rw [← hw1]; exact nb_alloc (Below.refl _ _) _
  have hs1 : w1.heap.size = w.heap.size + 1 := by rw [← hw1]; simp
  clear hw1
  have HS1 := Lib.hid hs1
  clear hs1
  go_wp2_with fail
  have hs1 := HS1.out
  obtain ⟨X, hXe⟩ : ∃ X, ((w1.alloc (.cells #[.int .i64 1, .int .i64 0] 38)).alloc (.cells #[.int .i64 2, .int .i64 0] 38)).alloc (.cells #[.int .i64 3, .int .i64 0] 38) = X := ⟨_, rfl⟩
  have hX : Below w1.heap.size w1 X := by rw [← hXe]; exact nb_alloc (nb_alloc (nb_alloc (Below.refl _ _) _) _) _
  have hsz : X.heap.size = w1.heap.size + 3 := by rw [← hXe]; simp
  have hxa : X.heap[w1.heap.size]? = some (.cells #[.int .i64 1, .int .i64 0] 38) := by rw [← hXe]; exact (Below.heap_alloc _ _ _ (by simp; omega)).trans (heap_alloc2_old _ _ _)
  have hxb : X.heap[w1.heap.size + 1]? = some (.cells #[.int .i64 2, .int .i64 0] 38) := by rw [← hXe]; exact (Below.heap_alloc _ _ _ (by simp)).trans (heap_alloc2_new _ _ _)
  have hxc : X.heap[w1.heap.size + 1 + 1]? = some (.cells #[.int .i64 3, .int .i64 0] 38) := by
    have := heap_alloc_new ((w1.alloc (.cells #[.int .i64 1, .int .i64 0] 38)).alloc (.cells #[.int .i64 2, .int .i64 0] 38)) (.cells #[.int .i64 3, .int .i64 0] 38)
    rw [hXe, show ((w1.alloc (.cells #[.int .i64 1, .int .i64 0] 38)).alloc (.cells #[.int .i64 2, .int .i64 0] 38)).heap.size = w1.heap.size + 1 + 1 by simp] at this
    exact this
  have HSX : Hid (∀ Y, Kept (fun b => b = w.heap.size) X Y → (Y.cell? ⟨w1.heap.size, 0, none⟩ = some (.int .i64 1) ∧ Y.cell? ⟨w1.heap.size, 1, none⟩ = some (.int .i64 0) ∧ Y.cell? ⟨w1.heap.size + 1, 0, none⟩ = some (.int .i64 2) ∧ Y.cell? ⟨w1.heap.size + 1, 1, none⟩ = some (.int .i64 0) ∧ Y.cell? ⟨w1.heap.size + 1 + 1, 0, none⟩ = some (.int .i64 3) ∧ Y.cell? ⟨w1.heap.size + 1 + 1, 1, none⟩ = some (.int .i64 0))) := Lib.hid (fun Y hY => by
    have ha : Y.heap[w1.heap.size]? = _ := (hY.block _ (by omega) (by omega)).trans hxa
    have hb : Y.heap[w1.heap.size + 1]? = _ := (hY.block _ (by omega) (by omega)).trans hxb
    have hc : Y.heap[w1.heap.size + 1 + 1]? = _ := (hY.block _ (by omega) (by omega)).trans hxc
    refine ⟨?_, ?_, ?_, ?_, ?_, ?_⟩
    · rw [cell_of_row _ _ _ _ _ _ ha]; rfl
    · rw [cell_of_row _ _ _ _ _ _ ha]; rfl
    · rw [cell_of_row _ _ _ _ _ _ hb]; rfl
    · rw [cell_of_row _ _ _ _ _ _ hb]; rfl
    · rw [cell_of_row _ _ _ _ _ _ hc]; rfl
    · rw [cell_of_row _ _ _ _ _ _ hc]; rfl)
  have HW0 := Lib.hid (hf1.later hX)
  have HBX := Lib.hid (nb_trans hb1 hX)
  have HXD : Hid (Kept (fun b => b = w.heap.size) X X.drew) := Lib.hid (Kept.drew _ _)
  obtain ⟨ka0, ka1, kb0, kb1, kc0, kc1⟩ := HSX.out X (Kept.refl _ _)
  have hla := (Array.getElem?_eq_some_iff.1 hxa).1
  have hlb := (Array.getElem?_eq_some_iff.1 hxb).1
  have hlc := (Array.getElem?_eq_some_iff.1 hxc).1
  rw [hXe]
  clear hf1 hb1 hX hxa hxb hxc hXe hs1
  go_region_held3 (fun x => (x.cell? ⟨w1.heap.size, 0, none⟩ = some (.int .i64 1) ∧ x.cell? ⟨w1.heap.size, 1, none⟩ = some (.int .i64 0) ∧ x.cell? ⟨w1.heap.size + 1, 0, none⟩ = some (.int .i64 2) ∧ x.cell? ⟨w1.heap.size + 1, 1, none⟩ = some (.int .i64 0) ∧ x.cell? ⟨w1.heap.size + 1 + 1, 0, none⟩ = some (.int .i64 3) ∧ x.cell? ⟨w1.heap.size + 1 + 1, 1, none⟩ = some (.int .i64 0))) (first | go_keep | exact HSX.out _ HK1.out | exact HSX.out _ HK2.out | exact HSX.out _ HK3.out | exact HSX.out _ HK4.out | exact HSX.out _ HK5.out) (first
    | ((go_at_call 15; refine (famAdopt_to w.heap.size _ [] 2 0 1 0 0 rel1 _ (HW0.out.later (Below.refl _ _).drew) FOk.nil (okH_n 2 (by omega) (by omega)) (okH_n 1 (by omega) (by omega)) (by simp [maxLen]) rel_a.1 rel_a.2).mono ?_; clear HW0; rintro e x1 ⟨rfl, F1, h1, hk1, hm1⟩; have HW1 := Lib.hid h1; have HK1 : Hid (Kept (fun b => b = w.heap.size) X x1) := Lib.hid (HXD.out.trans hk1 (fun _ e => .inl e)); have HM1 : Hid (Moves X (fun b => b = w.heap.size) F1) := Lib.hid hm1; clear h1 hk1 hm1))
    | ((go_at_call 15; refine (famAdopt_to w.heap.size F1 rel1 3 0 2 0 0 rel2 _ HW1.out rel_ok.1 (okH_n 3 (by omega) (by omega)) (okH_n 2 (by omega) (by omega)) (by simp [maxLen, rel1]) rel_b.1 rel_b.2).mono ?_; clear HW1; rintro e x2 ⟨rfl, F2, h1, hk1, hm1⟩; have HW2 := Lib.hid h1; have HK2 : Hid (Kept (fun b => b = w.heap.size) X x2) := Lib.hid (HK1.out.next HM1.out hk1); have HM2 : Hid (Moves X (fun b => b = w.heap.size) F2) := Lib.hid (HM1.out.trans hm1 HK1.out.size); clear h1 hk1 hm1))
    | ((go_at_call 15; refine (famAdopt_to w.heap.size F2 rel2 1 0 3 0 8 rel2 _ HW2.out rel_ok.2 (okH_n 1 (by omega) (by omega)) (okH_n 3 (by omega) (by omega)) (by simp [maxLen, rel2]) rel_c.1 rel_c.2).mono ?_; clear HW2; rintro e x3 ⟨rfl, F3, h1, hk1, hm1⟩; have HW3 := Lib.hid h1; have HK3 : Hid (Kept (fun b => b = w.heap.size) X x3) := Lib.hid (HK2.out.next HM2.out hk1); clear h1 hk1 hm1))
    | ((go_at_call 19; refine (famUnder_any w.heap.size F3 rel2 (fun h => (3 - h.1).toNat) 2 1 0 x3 HW3.out rel_ok.2 rel_acy (okH_n 1 (by omega) (by omega)) (by simp [rel2])).mono ?_; clear HW3; rintro e x4 ⟨v4, rfl, ho4, hb4⟩; rw [rel_under] at ho4; have HK4 : Hid (Kept (fun b => b = w.heap.size) X x4) := Lib.hid (HK3.out.trans (Kept.ofBelow (F := fun _ => False) hb4) (fun _ e => e.elim)); have HOA := Lib.hid (ho4.reads.later (nb_alloc (Below.refl _ _) (.cells #[.int .i64 2, .int .i64 0, .int .i64 3, .int .i64 0] 38))); have HRA := Lib.hid (reads_two x4 2 0 3 0); clear ho4 hb4))
    | ((go_at_call 19; refine (famUnder_any w.heap.size F3 rel2 (fun h => (3 - h.1).toNat) 2 1 0 _ (HW3.out.later (nb_alloc (Below.refl _ _) _)) rel_ok.2 rel_acy (okH_n 1 (by omega) (by omega)) (by simp [rel2])).mono ?_; clear HW3; rintro e x4 ⟨v4, rfl, ho4, hb4⟩; rw [rel_under] at ho4; have HK4 : Hid (Kept (fun b => b = w.heap.size) X x4) := Lib.hid (HK3.out.trans (Kept.ofBelow (F := fun _ => False) (nb_trans (nb_alloc (Below.refl _ _) _) hb4)) (fun _ e => e.elim)); have HOB := Lib.hid ho4.reads; have HRB := Lib.hid ((reads_two x3 2 0 3 0).later hb4); clear ho4 hb4))
    | ((go_at_call 16; refine (eqHand_any _ _ [(2, 0), (3, 0)] [(2, 0), (3, 0)] _ HOA.out HRA.out).mono ?_; rintro e x5 ⟨rfl, hb5⟩; rw [decide_eq_true rfl]; have HK5 : Hid (Kept (fun b => b = w.heap.size) X x5) := Lib.hid (HK4.out.trans (Kept.ofBelow (F := fun _ => False) (nb_trans (nb_alloc (Below.refl _ _) _) hb5)) (fun _ e => e.elim)); clear hb5))
    | ((go_at_call 16; refine (eqHand_any _ _ [(2, 0), (3, 0)] [(2, 0), (3, 0)] _ HOB.out HRB.out).mono ?_; rintro e x5 ⟨rfl, hb5⟩; rw [decide_eq_true rfl]; have HK5 : Hid (Kept (fun b => b = w.heap.size) X x5) := Lib.hid (HK4.out.trans (Kept.ofBelow (F := fun _ => False) hb5) (fun _ e => e.elim)); clear hb5)))
  all_goals
    have HEND : Hid (Below w.heap.size w x5) := Lib.hid (HBX.out.trans (HK5.out.below HBX.out.size (fun k e => by omega)))
    go_wp2
    go_ret
    exact ⟨rfl, HEND.out⟩
end Go.Proofs.Ytmigfaogomepkaa

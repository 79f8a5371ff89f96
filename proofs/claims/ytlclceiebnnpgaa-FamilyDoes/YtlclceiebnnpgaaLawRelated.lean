/- An operation on a family and on the reference's bonds: the contract of related of package vivariumlaw. -/
import Derived.Test.YtlclceiebnnpgaaRefAdopt
import Derived.Test.YtlclceiebnnpgaaKeepGrown
namespace Go.Proofs.Ytlclceiebnnpgaa
set_option maxRecDepth 8000
open Go.RowKit

def RelPost (w : World) (p q : Nat) (F G : Nat → Prop) (bs' : List Bd) (e : Ending) (w' : World) : Prop :=
  e = .returned (.bool true) ∧ ∃ F' G', FamAt w' p F' bs' ∧ BonAt w' q G' bs' ∧ (∀ b, F' b → ¬ G' b) ∧ Kept (fun b => F b ∨ G b) w w' ∧ Moves w F F' ∧ Moves w G G'
theorem RelPost.mk2 {w X x1 x2 : World} {p q : Nat} {F G F1 G2 : Nat → Prop} {bs' : List Bd} (hX : Below w.heap.size w X)
    (h1 : FamAt x1 p F1 bs') (hk1 : Kept F X x1) (hm1 : Moves X F F1) (h2 : BonAt x2 q G2 bs') (hk2 : Kept G x1 x2) (hm2 : Moves x1 G G2) (hG : ∀ b, G b → b < w.heap.size) (hap : ∀ b, F b → ¬ G b) : RelPost w p q F G bs' (.returned (.bool true)) x2 := by
  have s1 := hX.size
  have s2 := hk1.size
  have hap1 : ∀ b, F1 b → ¬ G b := fun b hb hg => (hm1 b hb).elim (fun h => hap b h hg) (fun h => by have := hG b hg; omega)
  refine ⟨rfl, F1, G2, h1.kept hk2 hap1, h2, fun b hb hg => ?_, ?_, fun b hb => (hm1 b hb).imp id (fun h => by omega), fun b hb => (hm2 b hb).imp id (fun h => by omega)⟩
  · rcases hm2 b hg with h | h
    · exact hap1 b hb h
    · have := h1.lt b hb; omega
  · exact ((Kept.ofBelow hX).trans hk1 (fun b hb => .inl (.inl hb))).trans hk2 (fun b hb => .inl (.inr hb))
theorem famAdopt_by (p : Nat) (F : Nat → Prop) (bs : List Bd) (a b c d x : Int) (bs' : List Bd) (w : World) (h : FamAt w p F bs) (ok : FOk bs) (hab : okH (a, b)) (hcd : okH (c, d)) (hlen : bs.length < maxLen) (hx : adoptE bs (a, b) (c, d) = x) (hb : adoptB bs (a, b) (c, d) = bs') :
    Calls Try.prog 14 #[.pointer (some ⟨p, 0, none⟩), .agg #[.int .i64 a, .int .i64 b], .agg #[.int .i64 c, .int .i64 d]] w fun e w' => e = .returned (.int .i64 x) ∧ ∃ F', FamAt w' p F' bs' ∧ Kept F w w' ∧ Moves w F F' :=
  (famAdopt_any p F bs a b c d w h ok hab hcd hlen).mono fun _ _ ⟨he, hr⟩ => ⟨by rw [he, hx], by rw [← hb]; exact hr⟩
theorem refAdopt_by (q : Nat) (G : Nat → Prop) (bs : List Bd) (a b c d x : Int) (bs' : List Bd) (w : World) (h : BonAt w q G bs) (ok : FOk bs) (hn : bs.length * 32 ≤ 140737488300000) (hx : adoptE bs (a, b) (c, d) = x) (hb : adoptB bs (a, b) (c, d) = bs') :
    Calls Try.prog 25 #[.pointer (some ⟨q, 0, none⟩), .agg #[.int .i64 a, .int .i64 b], .agg #[.int .i64 c, .int .i64 d]] w (BonPost w q G (.int .i64 x) bs') := by
  rw [← hx, ← hb]; exact refAdopt_any q G bs a b c d w h ok hn
theorem famLoosen_by (p : Nat) (F : Nat → Prop) (bs : List Bd) (a b x : Int) (bs' : List Bd) (w : World) (h : FamAt w p F bs) (hs : SortedB bs) (ha : I64r a) (hb : I64r b) (hx : looseE bs (a, b) = x) (hbs : rmB bs (a, b) = bs') :
    Calls Try.prog 24 #[.pointer (some ⟨p, 0, none⟩), .agg #[.int .i64 a, .int .i64 b]] w fun e w' => e = .returned (.int .i64 x) ∧ FamAt w' p F bs' ∧ Kept F w w' :=
  (famLoosen_any p F bs a b w h hs ha hb).mono fun _ _ ⟨he, h1, h2⟩ => ⟨by rw [he, hx], by rw [← hbs]; exact h1, h2⟩

set_option maxHeartbeats 8000000 in
theorem lawRelated_any (p q : Nat) (F G : Nat → Prop) (bs bs' : List Bd) (o : Opm) (w : World) (hW : FamAt w p F bs) (hZ : BonAt w q G bs) (hap : ∀ b, F b → ¬ G b) (ok : FOk bs) (hn : bs.length * 32 ≤ 140737488300000) (hop : OpOk o) (hst : stepB bs o = bs') :
    Calls Try.prog 9 #[.pointer (some ⟨p, 0, none⟩), .pointer (some ⟨q, 0, none⟩), (.agg #[.int .i64 o.d, .int .i64 o.m, .int .i64 (o.f 0), .int .i64 (o.f 1), .int .i64 (o.f 2), .int .i64 (o.f 3), .int .i64 (o.f 4), .int .i64 (o.f 5), .int .i64 (o.f 6), .int .i64 (o.f 7), .int .i64 o.a, .int .i64 o.b, .int .i64 o.ta, .int .i64 o.tb, .int .i64 o.k, .int .i64 o.n])] w (RelPost w p q F G bs') := by
  have hX : Below w.heap.size w (w.alloc (.cells #[.int .i64 o.d, .int .i64 o.m, .int .i64 (o.f 0), .int .i64 (o.f 1), .int .i64 (o.f 2), .int .i64 (o.f 3), .int .i64 (o.f 4), .int .i64 (o.f 5), .int .i64 (o.f 6), .int .i64 (o.f 7), .int .i64 o.a, .int .i64 o.b, .int .i64 o.ta, .int .i64 o.tb, .int .i64 o.k, .int .i64 o.n] 40)) := nb_alloc (Below.refl _ _) _
  have hxb : (w.alloc (.cells #[.int .i64 o.d, .int .i64 o.m, .int .i64 (o.f 0), .int .i64 (o.f 1), .int .i64 (o.f 2), .int .i64 (o.f 3), .int .i64 (o.f 4), .int .i64 (o.f 5), .int .i64 (o.f 6), .int .i64 (o.f 7), .int .i64 o.a, .int .i64 o.b, .int .i64 o.ta, .int .i64 o.tb, .int .i64 o.k, .int .i64 o.n] 40)).heap[w.heap.size]? = some (.cells #[.int .i64 o.d, .int .i64 o.m, .int .i64 (o.f 0), .int .i64 (o.f 1), .int .i64 (o.f 2), .int .i64 (o.f 3), .int .i64 (o.f 4), .int .i64 (o.f 5), .int .i64 (o.f 6), .int .i64 (o.f 7), .int .i64 o.a, .int .i64 o.b, .int .i64 o.ta, .int .i64 o.tb, .int .i64 o.k, .int .i64 o.n] 40) := heap_alloc_new _ _
  have HX := Lib.hid hX
  have HXB := Lib.hid hxb
  have HWX := Lib.hid (hW.later hX)
  have HZX := Lib.hid (hZ.later hX)
  have HLG := Lib.hid hZ.lt
  have HAP := Lib.hid hap
  have HOK := Lib.hid ok
  have HN := Lib.hid hn
  have HMX : Hid (bs.length < maxLen) := Lib.hid (by unfold maxLen; omega)
  have HOP : Hid (I64r o.a ∧ I64r o.b ∧ I64r o.ta ∧ I64r o.tb) := Lib.hid hop
  have HST := Lib.hid hst
  have HNB : Hid (¬ F w.heap.size ∧ ¬ G w.heap.size) := Lib.hid ⟨fun f => by have := hW.lt _ f; omega, fun f => by have := hZ.lt _ f; omega⟩
  have H0 : Hid (FamAt w p F bs ∧ BonAt w q G bs) := Lib.hid ⟨hW, hZ⟩
  have c0 : (w.alloc (.cells #[.int .i64 o.d, .int .i64 o.m, .int .i64 (o.f 0), .int .i64 (o.f 1), .int .i64 (o.f 2), .int .i64 (o.f 3), .int .i64 (o.f 4), .int .i64 (o.f 5), .int .i64 (o.f 6), .int .i64 (o.f 7), .int .i64 o.a, .int .i64 o.b, .int .i64 o.ta, .int .i64 o.tb, .int .i64 o.k, .int .i64 o.n] 40)).cell? ⟨w.heap.size, 0, none⟩ = some (.int .i64 o.d) := by rw [cell_of_row _ _ _ _ _ _ hxb]; rfl
  have c10 : (w.alloc (.cells #[.int .i64 o.d, .int .i64 o.m, .int .i64 (o.f 0), .int .i64 (o.f 1), .int .i64 (o.f 2), .int .i64 (o.f 3), .int .i64 (o.f 4), .int .i64 (o.f 5), .int .i64 (o.f 6), .int .i64 (o.f 7), .int .i64 o.a, .int .i64 o.b, .int .i64 o.ta, .int .i64 o.tb, .int .i64 o.k, .int .i64 o.n] 40)).cell? ⟨w.heap.size, 10, none⟩ = some (.int .i64 o.a) := by rw [cell_of_row _ _ _ _ _ _ hxb]; rfl
  have c11 : (w.alloc (.cells #[.int .i64 o.d, .int .i64 o.m, .int .i64 (o.f 0), .int .i64 (o.f 1), .int .i64 (o.f 2), .int .i64 (o.f 3), .int .i64 (o.f 4), .int .i64 (o.f 5), .int .i64 (o.f 6), .int .i64 (o.f 7), .int .i64 o.a, .int .i64 o.b, .int .i64 o.ta, .int .i64 o.tb, .int .i64 o.k, .int .i64 o.n] 40)).cell? ⟨w.heap.size, 11, none⟩ = some (.int .i64 o.b) := by rw [cell_of_row _ _ _ _ _ _ hxb]; rfl
  have c12 : (w.alloc (.cells #[.int .i64 o.d, .int .i64 o.m, .int .i64 (o.f 0), .int .i64 (o.f 1), .int .i64 (o.f 2), .int .i64 (o.f 3), .int .i64 (o.f 4), .int .i64 (o.f 5), .int .i64 (o.f 6), .int .i64 (o.f 7), .int .i64 o.a, .int .i64 o.b, .int .i64 o.ta, .int .i64 o.tb, .int .i64 o.k, .int .i64 o.n] 40)).cell? ⟨w.heap.size, 12, none⟩ = some (.int .i64 o.ta) := by rw [cell_of_row _ _ _ _ _ _ hxb]; rfl
  have c13 : (w.alloc (.cells #[.int .i64 o.d, .int .i64 o.m, .int .i64 (o.f 0), .int .i64 (o.f 1), .int .i64 (o.f 2), .int .i64 (o.f 3), .int .i64 (o.f 4), .int .i64 (o.f 5), .int .i64 (o.f 6), .int .i64 (o.f 7), .int .i64 o.a, .int .i64 o.b, .int .i64 o.ta, .int .i64 o.tb, .int .i64 o.k, .int .i64 o.n] 40)).cell? ⟨w.heap.size, 13, none⟩ = some (.int .i64 o.tb) := by rw [cell_of_row _ _ _ _ _ _ hxb]; rfl
  have hxl := (Array.getElem?_eq_some_iff.1 hxb).1
  clear hX hxb hW hZ hap ok hop hst hn
  go_enter Try.func9, Try.ntmps9
  by_cases h5 : o.d = 5
  · have hd5 : (o.d == 5) = true := by simpa using h5
    obtain ⟨x, hx⟩ : ∃ x, adoptE bs (o.a, o.b) (o.ta, o.tb) = x := ⟨_, rfl⟩
    have HXE := Lib.hid hx
    have HBE : Hid (adoptB bs (o.a, o.b) (o.ta, o.tb) = bs') := Lib.hid ((stepB_5 h5).symm.trans HST.out)
    have hne : (x == x) = true := by simp
    clear h5 hx
    go_wp2_with fail
    generalize w.alloc (.cells #[.int .i64 o.d, .int .i64 o.m, .int .i64 (o.f 0), .int .i64 (o.f 1), .int .i64 (o.f 2), .int .i64 (o.f 3), .int .i64 (o.f 4), .int .i64 (o.f 5), .int .i64 (o.f 6), .int .i64 (o.f 7), .int .i64 o.a, .int .i64 o.b, .int .i64 o.ta, .int .i64 o.tb, .int .i64 o.k, .int .i64 o.n] 40) = X at *
    have HC0 : Hid (X.cell? ⟨w.heap.size, 10, none⟩ = some (.int .i64 o.a) ∧ X.cell? ⟨w.heap.size, 11, none⟩ = some (.int .i64 o.b) ∧ X.cell? ⟨w.heap.size, 12, none⟩ = some (.int .i64 o.ta) ∧ X.cell? ⟨w.heap.size, 13, none⟩ = some (.int .i64 o.tb)) := Lib.hid ⟨c10, c11, c12, c13⟩
    go_region_held3 (fun x => (x.cell? ⟨w.heap.size, 10, none⟩ = some (.int .i64 o.a) ∧ x.cell? ⟨w.heap.size, 11, none⟩ = some (.int .i64 o.b) ∧ x.cell? ⟨w.heap.size, 12, none⟩ = some (.int .i64 o.ta) ∧ x.cell? ⟨w.heap.size, 13, none⟩ = some (.int .i64 o.tb))) (first | go_keep | exact HKA.out | exact HKB.out) (first
      | ((go_at_call 14; refine (famAdopt_by p F bs o.a o.b o.ta o.tb x bs' _ (HWX.out.later (Below.refl _ _).drew) HOK.out ⟨HOP.out.1, HOP.out.2.1⟩ HOP.out.2.2 HMX.out HXE.out HBE.out).mono ?_; rintro e x1 ⟨rfl, F1, h1, hk1, hm1⟩; have HW1 := Lib.hid h1; have HK1 := Lib.hid hk1; have HM1 := Lib.hid hm1; have HKA : Hid (x1.cell? ⟨w.heap.size, 10, none⟩ = some (.int .i64 o.a) ∧ x1.cell? ⟨w.heap.size, 11, none⟩ = some (.int .i64 o.b) ∧ x1.cell? ⟨w.heap.size, 12, none⟩ = some (.int .i64 o.ta) ∧ x1.cell? ⟨w.heap.size, 13, none⟩ = some (.int .i64 o.tb)) := Lib.hid ⟨hk1.cellS HC0.out.1 HNB.out.1, hk1.cellS HC0.out.2.1 HNB.out.1, hk1.cellS HC0.out.2.2.1 HNB.out.1, hk1.cellS HC0.out.2.2.2 HNB.out.1⟩; clear h1 hk1 hm1))
      | ((go_at_call 25; refine (refAdopt_by q G bs o.a o.b o.ta o.tb x bs' _ ((HZX.out.later (Below.refl _ _).drew).kept HK1.out (fun b hg hf => HAP.out b hf hg)) HOK.out HN.out HXE.out HBE.out).mono ?_; rintro e x2 ⟨rfl, G2, h2, hk2, hm2⟩; have HZ2 := Lib.hid h2; have HK2 := Lib.hid hk2; have HM2 := Lib.hid hm2; have HKB : Hid (x2.cell? ⟨w.heap.size, 10, none⟩ = some (.int .i64 o.a) ∧ x2.cell? ⟨w.heap.size, 11, none⟩ = some (.int .i64 o.b) ∧ x2.cell? ⟨w.heap.size, 12, none⟩ = some (.int .i64 o.ta) ∧ x2.cell? ⟨w.heap.size, 13, none⟩ = some (.int .i64 o.tb)) := Lib.hid ⟨hk2.cellS HKA.out.1 HNB.out.2, hk2.cellS HKA.out.2.1 HNB.out.2, hk2.cellS HKA.out.2.2.1 HNB.out.2, hk2.cellS HKA.out.2.2.2 HNB.out.2⟩; clear h2 hk2 hm2)))
    have HEND : Hid (RelPost w p q F G bs' (.returned (.bool true)) x2) := Lib.hid (RelPost.mk2 HX.out.drew HW1.out HK1.out HM1.out HZ2.out HK2.out HM2.out HLG.out HAP.out)
    go_wp2
    go_ret
    exact HEND.out
  have hd5 : (o.d == 5) = false := by simpa using h5
  have HD5 := Lib.hid h5
  clear h5
  by_cases h6 : o.d = 6
  · have hd6 : (o.d == 6) = true := by simpa using h6
    obtain ⟨x, hx⟩ : ∃ x, looseE bs (o.a, o.b) = x := ⟨_, rfl⟩
    have HXE := Lib.hid hx
    have HBE : Hid (rmB bs (o.a, o.b) = bs') := Lib.hid ((stepB_6 h6).symm.trans HST.out)
    have HNN : Hid (bs.length * 32 ≤ 140737488355328) := Lib.hid (by have := HN.out; omega)
    have hne : (x == x) = true := by simp
    clear h6 hx
    go_wp2_with fail
    generalize w.alloc (.cells #[.int .i64 o.d, .int .i64 o.m, .int .i64 (o.f 0), .int .i64 (o.f 1), .int .i64 (o.f 2), .int .i64 (o.f 3), .int .i64 (o.f 4), .int .i64 (o.f 5), .int .i64 (o.f 6), .int .i64 (o.f 7), .int .i64 o.a, .int .i64 o.b, .int .i64 o.ta, .int .i64 o.tb, .int .i64 o.k, .int .i64 o.n] 40) = X at *
    have HC0 : Hid (X.cell? ⟨w.heap.size, 10, none⟩ = some (.int .i64 o.a) ∧ X.cell? ⟨w.heap.size, 11, none⟩ = some (.int .i64 o.b)) := Lib.hid ⟨c10, c11⟩
    go_region_held3 (fun x => (x.cell? ⟨w.heap.size, 10, none⟩ = some (.int .i64 o.a) ∧ x.cell? ⟨w.heap.size, 11, none⟩ = some (.int .i64 o.b))) (first | go_keep | exact HKA.out | exact HKB.out) (first
      | ((go_at_call 24; refine (famLoosen_by p F bs o.a o.b x bs' _ (HWX.out.later (Below.refl _ _).drew) HOK.out.sorted HOP.out.1 HOP.out.2.1 HXE.out HBE.out).mono ?_; rintro e x1 ⟨rfl, h1, hk1⟩; have HW1 := Lib.hid h1; have HK1 := Lib.hid hk1; have HM1 : Hid (Moves X.drew F F) := Lib.hid (Moves.refl _ _); have HKA : Hid (x1.cell? ⟨w.heap.size, 10, none⟩ = some (.int .i64 o.a) ∧ x1.cell? ⟨w.heap.size, 11, none⟩ = some (.int .i64 o.b)) := Lib.hid ⟨hk1.cellS HC0.out.1 HNB.out.1, hk1.cellS HC0.out.2 HNB.out.1⟩; clear h1 hk1))
      | ((go_at_call 26; refine (refLoosen_any q G bs o.a o.b x bs' _ ((HZX.out.later (Below.refl _ _).drew).kept HK1.out (fun b hg hf => HAP.out b hf hg)) HNN.out HXE.out HBE.out).mono ?_; rintro e x2 ⟨rfl, G2, h2, hk2, hm2⟩; have HZ2 := Lib.hid h2; have HK2 := Lib.hid hk2; have HM2 := Lib.hid hm2; have HKB : Hid (x2.cell? ⟨w.heap.size, 10, none⟩ = some (.int .i64 o.a) ∧ x2.cell? ⟨w.heap.size, 11, none⟩ = some (.int .i64 o.b)) := Lib.hid ⟨hk2.cellS HKA.out.1 HNB.out.2, hk2.cellS HKA.out.2 HNB.out.2⟩; clear h2 hk2 hm2)))
    have HEND : Hid (RelPost w p q F G bs' (.returned (.bool true)) x2) := Lib.hid (RelPost.mk2 HX.out.drew HW1.out HK1.out HM1.out HZ2.out HK2.out HM2.out HLG.out HAP.out)
    go_wp2
    go_ret
    exact HEND.out
  have hd6 : (o.d == 6) = false := by simpa using h6
  have HD6 := Lib.hid h6
  clear h6
  by_cases h2 : o.d = 2
  · have hd2 : (o.d == 2) = true := by simpa using h2
    have HBE : Hid (goneB bs (o.a, o.b) = bs') := Lib.hid ((stepB_2 h2).symm.trans HST.out)
    have HNN : Hid (bs.length * 32 ≤ 140737488355328) := Lib.hid (by have := HN.out; omega)
    clear h2
    go_wp2_with fail
    generalize w.alloc (.cells #[.int .i64 o.d, .int .i64 o.m, .int .i64 (o.f 0), .int .i64 (o.f 1), .int .i64 (o.f 2), .int .i64 (o.f 3), .int .i64 (o.f 4), .int .i64 (o.f 5), .int .i64 (o.f 6), .int .i64 (o.f 7), .int .i64 o.a, .int .i64 o.b, .int .i64 o.ta, .int .i64 o.tb, .int .i64 o.k, .int .i64 o.n] 40) = X at *
    refine (famGone_any p F bs o.a o.b _ HWX.out HOK.out HNN.out).mono ?_
    rintro e x1 ⟨rfl, h1, hk1⟩
    rw [HBE.out] at h1
    have HW1 := Lib.hid h1
    have HK1 := Lib.hid hk1
    have k10 : x1.cell? ⟨w.heap.size, 10, none⟩ = some (.int .i64 o.a) := hk1.cellS c10 HNB.out.1
    have k11 : x1.cell? ⟨w.heap.size, 11, none⟩ = some (.int .i64 o.b) := hk1.cellS c11 HNB.out.1
    have hl1 : w.heap.size < x1.heap.size := Nat.lt_of_lt_of_le hxl hk1.size
    clear h1 hk1
    go_wp2_with fail
    refine (refGone_any q G bs o.a o.b _ (HZX.out.kept HK1.out (fun b hg hf => HAP.out b hf hg)) HNN.out).mono ?_
    rintro e x2 ⟨rfl, G2, h2, hk2, hm2⟩
    rw [HBE.out] at h2
    have HEND : Hid (RelPost w p q F G bs' (.returned (.bool true)) x2) := Lib.hid (RelPost.mk2 HX.out HW1.out HK1.out (Moves.refl _ _) h2 hk2 hm2 HLG.out HAP.out)
    clear h2 hk2 hm2
    go_wp2
    go_ret
    exact HEND.out
  have hd2 : (o.d == 2) = false := by simpa using h2
  have HBE : Hid (bs = bs') := Lib.hid ((stepB_0 HD5.out HD6.out h2).symm.trans HST.out)
  clear h2
  have HEND : Hid (RelPost w p q F G bs' (.returned (.bool true)) (w.alloc (.cells #[.int .i64 o.d, .int .i64 o.m, .int .i64 (o.f 0), .int .i64 (o.f 1), .int .i64 (o.f 2), .int .i64 (o.f 3), .int .i64 (o.f 4), .int .i64 (o.f 5), .int .i64 (o.f 6), .int .i64 (o.f 7), .int .i64 o.a, .int .i64 o.b, .int .i64 o.ta, .int .i64 o.tb, .int .i64 o.k, .int .i64 o.n] 40))) := Lib.hid (by
    rw [← HBE.out]
    exact ⟨rfl, F, G, HWX.out, HZX.out, HAP.out, Kept.ofBelow HX.out, Moves.refl _ _, Moves.refl _ _⟩)
  go_wp2
  go_ret
  exact HEND.out
/-- A family and the reference's bonds, both of the call's own, apart, with the same bonds. -/
structure BothF (B : World) (wr : World) (p q : Nat) (F G : Nat → Prop) (bs : List Bd) : Prop where
  fam : FamAt wr p F bs
  bon : BonAt wr q G bs
  ap : ∀ b, F b → ¬ G b
  fb : ∀ b, F b → B.heap.size ≤ b
  gb : ∀ b, G b → B.heap.size ≤ b
  below : Below B.heap.size B wr
theorem BothF.later {B wr x : World} {p q : Nat} {F G : Nat → Prop} {bs : List Bd} (h : BothF B wr p q F G bs) (hb : Below wr.heap.size wr x) : BothF B x p q F G bs :=
  ⟨h.fam.later hb, h.bon.later hb, h.ap, h.fb, h.gb, nb_trans h.below hb⟩
theorem BothF.rel {B wr x : World} {p q : Nat} {F G : Nat → Prop} {bs bs' : List Bd} {e : Ending} (h : BothF B wr p q F G bs) (hr : RelPost wr p q F G bs' e x) : e = .returned (.bool true) ∧ ∃ F' G', BothF B x p q F' G' bs' ∧ Kept (fun b => F b ∨ G b) wr x := by
  obtain ⟨he, F5, G5, h5, z5, ap5, k5, m5, n5⟩ := hr
  exact ⟨he, F5, G5, ⟨h5, z5, ap5, m5.above h.below.size h.fb, n5.above h.below.size h.gb, h.below.trans (k5.below h.below.size (fun b' hb' => hb'.elim (h.fb b') (h.gb b')))⟩, k5⟩
theorem BothF.start {w w1 : World} (hw1 : w.alloc (.cells #[.map none] 63) = w1) : BothF w (w1.alloc (.cells #[.slice none 0 0, .slice none 0 0, .slice none 0 0, .slice none 0 0] 33)) w.heap.size w1.heap.size (fun b => b = w.heap.size) (fun b => b = w1.heap.size) [] := by
  have hs : w1.heap.size = w.heap.size + 1 := by rw [← hw1]; simp
  have hb1 : Below w.heap.size w w1 := by rw [← hw1]; exact nb_alloc (Below.refl _ _) _
  have hf : FamAt w1 w.heap.size (fun b => b = w.heap.size) [] := by rw [← hw1]; exact FamAt.new w
  exact ⟨hf.later (nb_alloc (Below.refl _ _) _), BonAt.new w1, fun b e e2 => by omega, fun b e => by omega, fun b e => by omega, nb_alloc hb1 _⟩
end Go.Proofs.Ytlclceiebnnpgaa

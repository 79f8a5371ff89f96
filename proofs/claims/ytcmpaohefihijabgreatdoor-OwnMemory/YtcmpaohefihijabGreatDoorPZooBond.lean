/- Adopt, Loosen and addBond of package zoo. -/
import Derived.Test.YtcmpaohefihijabGreatDoorPZooLive
import Derived.Test.YtcmpaohefihijabGreatDoorPZooTell
import Derived.Test.YtcmpaohefihijabGreatDoorGroundD
namespace Go.Proofs.YtcmpaohefihijabGreatDoor
set_option maxRecDepth 8000
set_option maxRecDepth 8000
open Go.RowKit

theorem reads1 {w : World} {g : Nat} {T : TypeId} {a b : Int} (h : w.heap[g]? = some (.cells #[.int .i64 a, .int .i64 b] T (0, 0))) : Reads elHand w (.slice (some ⟨g, 0, none⟩) 1 1) [(a, b)] := by
  refine ⟨_, _, rfl, Nat.le_refl _, by decide, fun k hk => ⟨g, 0, rfl, (Array.getElem?_eq_some_iff.1 h).1, fun j hj => ?_⟩⟩
  obtain rfl : k = 0 := by simpa using hk
  rw [cell_of_row _ _ _ _ _ _ h]
  match j, hj with
  | 0, _ => rfl
  | 1, _ => rfl
theorem reads2 {w : World} {g : Nat} {T : TypeId} {a b c d : Int} (h : w.heap[g]? = some (.cells #[.int .i64 a, .int .i64 b, .int .i64 c, .int .i64 d] T (0, 0))) : Reads elHand w (.slice (some ⟨g, 0, none⟩) 2 2) [(a, b), (c, d)] := by
  refine ⟨_, _, rfl, Nat.le_refl _, by decide, fun k hk => ⟨g, 0, rfl, (Array.getElem?_eq_some_iff.1 h).1, fun j hj => ?_⟩⟩
  rw [cell_of_row _ _ _ _ _ _ h]
  match k, hk, j, hj with
  | 0, _, 0, _ => rfl
  | 0, _, 1, _ => rfl
  | 1, _, 0, _ => rfl
  | 1, _, 1, _ => rfl

set_option maxHeartbeats 2000000 in
theorem zooAdopt_any (p : Nat) (F : Nat → Prop) (s s' : Zs) (a b c d x : Int) (w : World) (h : PzAt w p F s) (ok : ZOk s)
    (hx : (if liveH s.l (a, b) && liveH s.l (c, d) then adoptE s.bs (a, b) (c, d) else 7) = x) (hs' : (if liveH s.l (a, b) && liveH s.l (c, d) then ⟨s.l, s.rows, adoptB s.bs (a, b) (c, d)⟩ else s) = s') :
    Calls Tryz.prog 39 #[.pointer (some ⟨p, 0, none⟩), .agg #[.int .i64 a, .int .i64 b], .agg #[.int .i64 c, .int .i64 d]] w (PzPost w p F (.int .i64 x) s') := by
  have HZ := Lib.hid h
  have HOK := Lib.hid ok
  have hplw := h.lt p h.at_
  have HB0 : Hid (Below w.heap.size w (((w.alloc (.cells #[.int .i64 a, .int .i64 b] 34)).alloc (.cells #[.int .i64 c, .int .i64 d] 34)).alloc (.cells #[.int .i64 a, .int .i64 b, .int .i64 c, .int .i64 d] 34)) ∧ (((w.alloc (.cells #[.int .i64 a, .int .i64 b] 34)).alloc (.cells #[.int .i64 c, .int .i64 d] 34)).alloc (.cells #[.int .i64 a, .int .i64 b, .int .i64 c, .int .i64 d] 34)).heap[w.heap.size]? = some (.cells #[.int .i64 a, .int .i64 b] 34) ∧ (((w.alloc (.cells #[.int .i64 a, .int .i64 b] 34)).alloc (.cells #[.int .i64 c, .int .i64 d] 34)).alloc (.cells #[.int .i64 a, .int .i64 b, .int .i64 c, .int .i64 d] 34)).heap[w.heap.size + 1]? = some (.cells #[.int .i64 c, .int .i64 d] 34) ∧ (((w.alloc (.cells #[.int .i64 a, .int .i64 b] 34)).alloc (.cells #[.int .i64 c, .int .i64 d] 34)).alloc (.cells #[.int .i64 a, .int .i64 b, .int .i64 c, .int .i64 d] 34)).heap[w.heap.size + 1 + 1]? = some (.cells #[.int .i64 a, .int .i64 b, .int .i64 c, .int .i64 d] 34)) := Lib.hid ⟨nb_alloc (nb_alloc (nb_alloc (Below.refl _ _) _) _) _, (Below.heap_alloc _ _ _ (by simp; omega)).trans (heap_alloc2_old _ _ _), (Below.heap_alloc _ _ _ (by simp)).trans (heap_alloc2_new _ _ _), by have := heap_alloc_new ((w.alloc (.cells #[.int .i64 a, .int .i64 b] 34)).alloc (.cells #[.int .i64 c, .int .i64 d] 34)) (.cells #[.int .i64 a, .int .i64 b, .int .i64 c, .int .i64 d] 34); simpa using this⟩
  clear h ok
  obtain ⟨g, hg⟩ : ∃ g, (liveH s.l (a, b) && liveH s.l (c, d)) = g := ⟨_, rfl⟩
  have HG : Hid (allLive s.l [(a, b), (c, d)] = g) := Lib.hid (by rw [← hg]; simp [allLive])
  rw [hg] at hx hs'
  have HP := Lib.hid hg
  clear hg
  go_enter Tryz.func39, Tryz.ntmps39
  go_wp2_with fail
  generalize (((w.alloc (.cells #[.int .i64 a, .int .i64 b] 34)).alloc (.cells #[.int .i64 c, .int .i64 d] 34)).alloc (.cells #[.int .i64 a, .int .i64 b, .int .i64 c, .int .i64 d] 34)) = X at *
  refine (checkLive_any p F s _ [(a, b), (c, d)] g _ (HZ.out.later HB0.out.1) (reads2 HB0.out.2.2.2) HG.out).mono ?_
  rintro e w1 ⟨rfl, hb1⟩
  have HB1 : Hid (Below w.heap.size w w1) := Lib.hid (nb_trans HB0.out.1 hb1)
  have hq0 : w1.heap[w.heap.size]? = some (.cells #[.int .i64 a, .int .i64 b] 34) := (hb1.block _ (Array.getElem?_eq_some_iff.1 HB0.out.2.1).1).trans HB0.out.2.1
  have hq1 : w1.heap[w.heap.size + 1]? = some (.cells #[.int .i64 c, .int .i64 d] 34) := (hb1.block _ (Array.getElem?_eq_some_iff.1 HB0.out.2.2.1).1).trans HB0.out.2.2.1
  clear hb1 HB0
  cases g
  · have HE : Hid (PzPost w p F (.int .i64 x) s' (.returned (.int .i64 7)) w1) := Lib.hid (by rw [← hs', ← hx]; exact PzPost.same HZ.out HB1.out)
    rw [show chkE false = 7 from rfl]
    clear hx hs' hq0 hq1
    go_wp2
    go_ret
    exact HE.out
  · have HPX : Hid (adoptE s.bs (a, b) (c, d) = x ∧ (⟨s.l, s.rows, adoptB s.bs (a, b) (c, d)⟩ : Zs) = s') := Lib.hid ⟨hx, hs'⟩
    have HAB : Hid (okH (a, b) ∧ okH (c, d)) := Lib.hid (by have := HP.out; rw [Bool.and_eq_true] at this; exact ⟨HOK.out.okH this.1, HOK.out.okH this.2⟩)
    rw [show chkE true = 0 from rfl]
    obtain ⟨k0, k1⟩ := hCells (a := a) (b := b) hq0
    obtain ⟨m0, m1⟩ := hCells (a := c) (b := d) hq1
    have hl0 := (Array.getElem?_eq_some_iff.1 hq0).1
    have hl1 := (Array.getElem?_eq_some_iff.1 hq1).1
    have hpl : p < w1.heap.size := Nat.lt_of_lt_of_le hplw HB1.out.size
    clear hx hs' hq0 hq1
    go_wp2_with fail
    go_still_tail 5, (by kernel_rfl)
    change wpList _ _ _ _ _ w1.drew
    clear k0 k1 m0 m1
    go_wp2_with fail
    refine (pzAdopt p F s a b c d _ (HZ.out.later HB1.out.drew) HOK.out HAB.out.1 HAB.out.2).mono ?_
    rintro e w2 hp
    have HE : Hid (PzPost w p F (.int .i64 (adoptE s.bs (a, b) (c, d))) ⟨s.l, s.rows, adoptB s.bs (a, b) (c, d)⟩ e w2) := Lib.hid (hp.from HB1.out.drew)
    obtain ⟨rfl, -⟩ := hp
    go_wp2
    go_ret
    rw [← HPX.out.1, ← HPX.out.2]
    exact HE.out

set_option maxHeartbeats 2000000 in
theorem zooLoosen_any (p : Nat) (F : Nat → Prop) (s s' : Zs) (a b x : Int) (w : World) (h : PzAt w p F s) (ok : ZOk s)
    (hx : (if liveH s.l (a, b) then looseE s.bs (a, b) else 7) = x) (hs' : (if liveH s.l (a, b) then ⟨s.l, s.rows, rmB s.bs (a, b)⟩ else s) = s') :
    Calls Tryz.prog 40 #[.pointer (some ⟨p, 0, none⟩), .agg #[.int .i64 a, .int .i64 b]] w (PzPost w p F (.int .i64 x) s') := by
  have HZ := Lib.hid h
  have HOK := Lib.hid ok
  have hplw := h.lt p h.at_
  have HB0 : Hid (Below w.heap.size w ((w.alloc (.cells #[.int .i64 a, .int .i64 b] 34)).alloc (.cells #[.int .i64 a, .int .i64 b] 34)) ∧ ((w.alloc (.cells #[.int .i64 a, .int .i64 b] 34)).alloc (.cells #[.int .i64 a, .int .i64 b] 34)).heap[w.heap.size]? = some (.cells #[.int .i64 a, .int .i64 b] 34) ∧ ((w.alloc (.cells #[.int .i64 a, .int .i64 b] 34)).alloc (.cells #[.int .i64 a, .int .i64 b] 34)).heap[w.heap.size + 1]? = some (.cells #[.int .i64 a, .int .i64 b] 34)) := Lib.hid ⟨nb_alloc (nb_alloc (Below.refl _ _) _) _, heap_alloc2_old _ _ _, heap_alloc2_new _ _ _⟩
  clear h ok
  obtain ⟨g, hg⟩ : ∃ g, liveH s.l (a, b) = g := ⟨_, rfl⟩
  have HG : Hid (allLive s.l [(a, b)] = g) := Lib.hid (by rw [← hg]; simp [allLive])
  rw [hg] at hx hs'
  have HP := Lib.hid hg
  clear hg
  go_enter Tryz.func40, Tryz.ntmps40
  go_wp2_with fail
  generalize ((w.alloc (.cells #[.int .i64 a, .int .i64 b] 34)).alloc (.cells #[.int .i64 a, .int .i64 b] 34)) = X at *
  refine (checkLive_any p F s _ [(a, b)] g _ (HZ.out.later HB0.out.1) (reads1 HB0.out.2.2) HG.out).mono ?_
  rintro e w1 ⟨rfl, hb1⟩
  have HB1 : Hid (Below w.heap.size w w1) := Lib.hid (nb_trans HB0.out.1 hb1)
  have hq0 : w1.heap[w.heap.size]? = some (.cells #[.int .i64 a, .int .i64 b] 34) := (hb1.block _ (Array.getElem?_eq_some_iff.1 HB0.out.2.1).1).trans HB0.out.2.1
  clear hb1 HB0
  cases g
  · have HE : Hid (PzPost w p F (.int .i64 x) s' (.returned (.int .i64 7)) w1) := Lib.hid (by rw [← hs', ← hx]; exact PzPost.same HZ.out HB1.out)
    rw [show chkE false = 7 from rfl]
    clear hx hs' hq0
    go_wp2
    go_ret
    exact HE.out
  · have HPX : Hid (looseE s.bs (a, b) = x ∧ (⟨s.l, s.rows, rmB s.bs (a, b)⟩ : Zs) = s') := Lib.hid ⟨hx, hs'⟩
    have HAB : Hid (okH (a, b)) := Lib.hid (HOK.out.okH HP.out)
    rw [show chkE true = 0 from rfl]
    obtain ⟨k0, k1⟩ := hCells (a := a) (b := b) hq0
    have hl0 := (Array.getElem?_eq_some_iff.1 hq0).1
    have hpl : p < w1.heap.size := Nat.lt_of_lt_of_le hplw HB1.out.size
    clear hx hs' hq0
    go_wp2_with fail
    go_still_tail 4, (by kernel_rfl)
    change wpList _ _ _ _ _ w1.drew
    clear k0 k1
    go_wp2_with fail
    refine (pzLoosen p F s a b _ (HZ.out.later HB1.out.drew) HOK.out HAB.out.1 HAB.out.2).mono ?_
    rintro e w2 hp
    have HE : Hid (PzPost w p F (.int .i64 (looseE s.bs (a, b))) ⟨s.l, s.rows, rmB s.bs (a, b)⟩ e w2) := Lib.hid (hp.from HB1.out.drew)
    obtain ⟨rfl, -⟩ := hp
    go_wp2
    go_ret
    rw [← HPX.out.1, ← HPX.out.2]
    exact HE.out

/-- what a bond of a state answers, and leaves -/
noncomputable def bndE (s : Zs) (c d : Hd) : Int := if liveH s.l c && liveH s.l d then (if hasP s.bs c then 6 else adoptE s.bs c d) else 7
noncomputable def bndZ (s : Zs) (c d : Hd) : Zs := if (liveH s.l c && liveH s.l d) && !hasP s.bs c then ⟨s.l, s.rows, adoptB s.bs c d⟩ else s
set_option maxHeartbeats 2000000 in
theorem zooAddBond_any (p : Nat) (F : Nat → Prop) (s : Zs) (a b c d : Int) (w : World) (h : PzAt w p F s) (ok : ZOk s) :
    Calls Tryz.prog 47 #[.pointer (some ⟨p, 0, none⟩), .agg #[.int .i64 a, .int .i64 b, .int .i64 c, .int .i64 d]] w (PzPost w p F (.int .i64 (bndE s (a, b) (c, d))) (bndZ s (a, b) (c, d))) := by
  have HZ := Lib.hid h
  have HOK := Lib.hid ok
  have hplw := h.lt p h.at_
  have HB0 : Hid (Below w.heap.size w ((w.alloc (.cells #[.int .i64 a, .int .i64 b, .int .i64 c, .int .i64 d] 41)).alloc (.cells #[.int .i64 a, .int .i64 b, .int .i64 c, .int .i64 d] 34)) ∧ ((w.alloc (.cells #[.int .i64 a, .int .i64 b, .int .i64 c, .int .i64 d] 41)).alloc (.cells #[.int .i64 a, .int .i64 b, .int .i64 c, .int .i64 d] 34)).heap[w.heap.size]? = some (.cells #[.int .i64 a, .int .i64 b, .int .i64 c, .int .i64 d] 41) ∧ ((w.alloc (.cells #[.int .i64 a, .int .i64 b, .int .i64 c, .int .i64 d] 41)).alloc (.cells #[.int .i64 a, .int .i64 b, .int .i64 c, .int .i64 d] 34)).heap[w.heap.size + 1]? = some (.cells #[.int .i64 a, .int .i64 b, .int .i64 c, .int .i64 d] 34)) := Lib.hid ⟨nb_alloc (nb_alloc (Below.refl _ _) _) _, heap_alloc2_old _ _ _, heap_alloc2_new _ _ _⟩
  clear h ok
  obtain ⟨x, hx⟩ : ∃ x, bndE s (a, b) (c, d) = x := ⟨_, rfl⟩
  obtain ⟨s', hs'⟩ : ∃ x, bndZ s (a, b) (c, d) = x := ⟨_, rfl⟩
  rw [hx, hs']
  unfold bndE at hx
  unfold bndZ at hs'
  obtain ⟨g, hg⟩ : ∃ g, (liveH s.l (a, b) && liveH s.l (c, d)) = g := ⟨_, rfl⟩
  have HG : Hid (allLive s.l [(a, b), (c, d)] = g) := Lib.hid (by rw [← hg]; simp [allLive])
  rw [hg] at hx hs'
  have HP := Lib.hid hg
  clear hg
  go_enter Tryz.func47, Tryz.ntmps47
  go_wp2_with fail
  generalize ((w.alloc (.cells #[.int .i64 a, .int .i64 b, .int .i64 c, .int .i64 d] 41)).alloc (.cells #[.int .i64 a, .int .i64 b, .int .i64 c, .int .i64 d] 34)) = X at *
  refine (checkLive_any p F s _ [(a, b), (c, d)] g _ (HZ.out.later HB0.out.1) (reads2 HB0.out.2.2) HG.out).mono ?_
  rintro e w1 ⟨rfl, hb1⟩
  have HB1 : Hid (Below w.heap.size w w1) := Lib.hid (nb_trans HB0.out.1 hb1)
  have hq0 : w1.heap[w.heap.size]? = some (.cells #[.int .i64 a, .int .i64 b, .int .i64 c, .int .i64 d] 41) := (hb1.block _ (Array.getElem?_eq_some_iff.1 HB0.out.2.1).1).trans HB0.out.2.1
  clear hb1 HB0
  cases g
  · have HE : Hid (PzPost w p F (.int .i64 x) s' (.returned (.int .i64 7)) w1) := Lib.hid (by rw [← hs', ← hx]; exact PzPost.same HZ.out HB1.out)
    rw [show chkE false = 7 from rfl]
    clear hx hs' hq0
    go_wp2
    go_ret
    exact HE.out
  · have HAB : Hid (okH (a, b) ∧ okH (c, d)) := Lib.hid (by have := HP.out; rw [Bool.and_eq_true] at this; exact ⟨HOK.out.okH this.1, HOK.out.okH this.2⟩)
    rw [show chkE true = 0 from rfl]
    rw [if_pos rfl] at hx
    rw [Bool.true_and] at hs'
    have k0 : w1.cell? ⟨w.heap.size, 0, none⟩ = some (.int .i64 a) := by rw [cell_of_row _ _ _ _ _ _ hq0]; rfl
    have k1 : w1.cell? ⟨w.heap.size, 1, none⟩ = some (.int .i64 b) := by rw [cell_of_row _ _ _ _ _ _ hq0]; rfl
    have hl0 := (Array.getElem?_eq_some_iff.1 hq0).1
    have hpl : p < w1.heap.size := Nat.lt_of_lt_of_le hplw HB1.out.size
    have HQ0 := Lib.hid hq0
    obtain ⟨gp, hgp⟩ : ∃ g, hasP s.bs (a, b) = g := ⟨_, rfl⟩
    obtain ⟨⟨q1, q2⟩, hqp⟩ : ∃ q, parB s.bs (a, b) = q := ⟨_, rfl⟩
    rw [hgp] at hx hs'
    have HX := Lib.hid hx
    have HS := Lib.hid hs'
    have HPQ : Hid (parB s.bs (a, b) = (q1, q2) ∧ hasP s.bs (a, b) = gp) := Lib.hid ⟨hqp, hgp⟩
    clear hx hs' hq0 hqp hgp
    go_wp2_with fail
    refine (zooParent_any p F s a b q1 q2 gp _ (HZ.out.later HB1.out) HOK.out HAB.out.1.1 HAB.out.1.2 HPQ.out.1 HPQ.out.2).mono ?_
    rintro e w2 ⟨rfl, hb2⟩
    have HB2 : Hid (Below w.heap.size w (w2.alloc (.cells #[.int .i64 q1, .int .i64 q2] 34))) := Lib.hid (nb_alloc (nb_trans HB1.out hb2) _)
    have HQ2 : Hid ((w2.alloc (.cells #[.int .i64 q1, .int .i64 q2] 34)).heap[w.heap.size]? = some (.cells #[.int .i64 a, .int .i64 b, .int .i64 c, .int .i64 d] 41)) := Lib.hid ((Below.heap_alloc _ _ _ (Nat.lt_of_lt_of_le hl0 hb2.size)).trans ((hb2.block _ hl0).trans HQ0.out))
    clear hb2 k0 k1
    cases gp
    · have hpl2 : p < (w2.alloc (.cells #[.int .i64 q1, .int .i64 q2] 34)).heap.size := Nat.lt_of_lt_of_le hplw HB2.out.size
      go_wp2_with fail
      generalize w2.alloc (.cells #[.int .i64 q1, .int .i64 q2] 34) = Y at *
      have hq2 := HQ2.out
      have k0 : Y.cell? ⟨w.heap.size, 0, none⟩ = some (.int .i64 a) := by rw [cell_of_row _ _ _ _ _ _ hq2]; rfl
      have k1 : Y.cell? ⟨w.heap.size, 1, none⟩ = some (.int .i64 b) := by rw [cell_of_row _ _ _ _ _ _ hq2]; rfl
      have k2 : Y.cell? ⟨w.heap.size, 2, none⟩ = some (.int .i64 c) := by rw [cell_of_row _ _ _ _ _ _ hq2]; rfl
      have k3 : Y.cell? ⟨w.heap.size, 3, none⟩ = some (.int .i64 d) := by rw [cell_of_row _ _ _ _ _ _ hq2]; rfl
      have hl2 := (Array.getElem?_eq_some_iff.1 hq2).1
      clear hq2
      go_still_tail 7, (by kernel_rfl)
      change wpList _ _ _ _ _ Y.drew
      clear k0 k1 k2 k3
      go_wp2_with fail
      refine (pzAdopt p F s a b c d _ (HZ.out.later HB2.out.drew) HOK.out HAB.out.1 HAB.out.2).mono ?_
      rintro e w3 hp
      have HE : Hid (PzPost w p F (.int .i64 x) s' e w3) := Lib.hid (by have := hp.from HB2.out.drew; rw [← HX.out, ← HS.out]; exact this)
      obtain ⟨rfl, -⟩ := hp
      go_wp2
      go_ret
      exact HE.out
    · have HE : Hid (PzPost w p F (.int .i64 x) s' (.returned (.int .i64 6)) (w2.alloc (.cells #[.int .i64 q1, .int .i64 q2] 34))) := Lib.hid (by rw [← HX.out, ← HS.out]; exact PzPost.same HZ.out HB2.out)
      go_wp2
      go_ret
      exact HE.out
end Go.Proofs.YtcmpaohefihijabGreatDoor

/- The contracts of Rows and Kill of the reference's zoo. -/
import Derived.Test.YtlclceiebnnpgaaGreatRefWithout
import Derived.Test.YtlclceiebnnpgaaGreatWorldRowsOf
import Derived.StillTailTactics
namespace Go.Proofs.YtlclceiebnnpgaaGreat
set_option maxRecDepth 8000
open Go.RowKit

def ZKillPost (w : World) (q : Nat) (G : Nat → Prop) (l : List (Int × Bool)) (rows : List Rw) (vB : Value) (a b : Int) (e : Ending) (w' : World) : Prop :=
  e = .returned (.int .i64 (killE rows a b)) ∧ ∃ G', ZooAt w' q G' (freeL l a b) (killR rows a b) vB ∧ Kept G w w' ∧ Moves w G G'
set_option maxHeartbeats 4000000 in
theorem refKill_any (q : Nat) (G : Nat → Prop) (l : List (Int × Bool)) (rows : List Rw) (vB : Value) (a b : Int) (w : World) (h : ZooAt w q G l rows vB) (ok : WOk l rows) :
    Calls Tryz.prog 21 #[.pointer (some ⟨q, 0, none⟩), .agg #[.int .i64 a, .int .i64 b]] w (ZKillPost w q G l rows vB a b) := by
  have hX : Below w.heap.size w (w.alloc (.cells #[.int .i64 a, .int .i64 b] 28)) := nb_alloc (Below.refl _ _) _
  have HX := Lib.hid hX
  have HXB : Hid ((w.alloc (.cells #[.int .i64 a, .int .i64 b] 28)).heap[w.heap.size]? = some (.cells #[.int .i64 a, .int .i64 b] 28)) := Lib.hid (heap_alloc_new _ _)
  have H0 := Lib.hid h
  have HZ := Lib.hid (h.later hX)
  have HOK := Lib.hid ok
  have HLT := Lib.hid h.lt
  clear h hX ok
  go_enter Tryz.func21, Tryz.ntmps21
  go_wp2_with fail
  generalize (w.alloc (.cells #[.int .i64 a, .int .i64 b] 28)) = X at *
  refine (refAtI_any q G l rows vB a b _ HZ.out).mono ?_
  rintro e w1 ⟨rfl, hb1⟩
  have HBW := Lib.hid (nb_trans HX.out hb1)
  have HXB1 : Hid (w1.heap[w.heap.size]? = some (.cells #[.int .i64 a, .int .i64 b] 28)) := Lib.hid (by rw [hb1.block _ (Array.getElem?_eq_some_iff.1 HXB.out).1]; exact HXB.out)
  obtain ⟨c, vL, hz1⟩ := HZ.out.later hb1
  have HZ1 := Lib.hid hz1
  have hq2 := hz1.slots.cell2.1
  have hql := hz1.lt q hz1.at_.1
  clear hb1 hz1
  cases hh : hasH rows a b
  · have HE : Hid (killE rows a b = 7 ∧ freeL l a b = l ∧ killR rows a b = rows) := Lib.hid ⟨by rw [killE, hh]; rfl, by rw [freeL, ← HOK.out.has, hh]; rfl, by
      rw [killR, List.filter_eq_self]
      intro r hr
      cases hi : isH a b r
      · rfl
      · have := hasH_iff.2 ⟨r, hr, isH_iff.1 hi⟩
        rw [hh] at this; cases this⟩
    rw [atI_no hh]
    clear hh hq2
    go_wp2
    go_ret
    exact ⟨by rw [HE.out.1]; rfl, G, by rw [HE.out.2.1, HE.out.2.2]; exact H0.out.later HBW.out, Kept.ofBelow HBW.out, Moves.refl _ _⟩
  · have HE : Hid (killE rows a b = 0 ∧ freeE l a b = 0) := Lib.hid ⟨by rw [killE, hh]; rfl, by rw [freeE, ← HOK.out.has, hh]; rfl⟩
    rw [atI_yes hh]
    have htn : ¬ ((atN rows a b : Nat) : Int) < 0 := by omega
    generalize atN rows a b = t at *
    clear hh
    go_wp2_with fail
    refine (withoutKill_any vL rows w.heap.size a b _ HZ1.out.own.reads HOK.out.len60 HXB1.out).mono ?_
    rintro e w2 ⟨v2, rfl, ho2, hb2⟩
    obtain ⟨av, n2, cv, rfl⟩ : ∃ av n2 cv, v2 = .slice av n2 cv := by
      obtain ⟨a1, c1, e1, -⟩ := ho2.reads
      exact ⟨_, _, _, e1⟩
    have hz2 := HZ1.out.later hb2
    have cq2 := hz2.slots.cell2.1
    have fq2 := hz2.slots.cell2.2.2 2
    have hql2 := hz2.lt q hz2.at_.1
    have hnq : ¬ w.heap.size = q := by have := HLT.out q H0.out.at_; omega
    have hks : Kept (fun b => b = q) w2 (w2.setCell ⟨q, 2, none⟩ (.slice av n2 cv)) := Kept.setCell (F := fun b => b = q) _ (p := ⟨q, 2, none⟩) rfl _
    have hk1 : Kept (fun b => b = q) w1 (w2.setCell ⟨q, 2, none⟩ (.slice av n2 cv)) := (Kept.ofBelow hb2).trans hks (fun _ h => .inl h)
    obtain ⟨G3, hz3, hK3, hM3⟩ := HZ1.out.setL (v' := .slice av n2 cv) (rows' := killR rows a b) hk1 (fun vg vl hq => by rw [heap_setCell_same _ _ _ _ _ _ ((hb2.block q hql).trans hq)]; rfl) (ho2.kept hks (fun k e e2 => by have := ho2.ge e; have := HZ1.out.lt q HZ1.out.at_.1; omega))
    have HZ3 := Lib.hid hz3
    have HK3 := Lib.hid hK3
    have HM3 := Lib.hid hM3
    have hx3 : (w2.setCell ⟨q, 2, none⟩ (.slice av n2 cv)).heap[w.heap.size]? = some (.cells #[.int .i64 a, .int .i64 b] 28) := by
      rw [hk1.block _ (Array.getElem?_eq_some_iff.1 HXB1.out).1 hnq]; exact HXB1.out
    have hx3l := (Array.getElem?_eq_some_iff.1 hx3).1
    have kx0 : (w2.setCell ⟨q, 2, none⟩ (.slice av n2 cv)).cell? ⟨w.heap.size, 0, none⟩ = some (.int .i64 a) := by rw [cell_of_row _ _ _ _ _ _ hx3]; rfl
    have kx1 : (w2.setCell ⟨q, 2, none⟩ (.slice av n2 cv)).cell? ⟨w.heap.size, 1, none⟩ = some (.int .i64 b) := by rw [cell_of_row _ _ _ _ _ _ hx3]; rfl
    have hql3 : q < (w2.setCell ⟨q, 2, none⟩ (.slice av n2 cv)).heap.size := hz3.lt q hz3.at_
    clear ho2 hb2 hz2 hks hk1 hz3 hK3 hM3 hq2 hx3
    go_wp2_with fail
    generalize w2.setCell ⟨q, 2, none⟩ (.slice av n2 cv) = W at *
    clear cq2 fq2
    go_still_tail 4, (by kernel_rfl)
    change wpList _ _ _ _ _ W.drew
    obtain ⟨c4, vL4, hz4⟩ := HZ3.out.later (Below.refl _ _).drew
    have HZ4 := Lib.hid hz4
    clear hz4
    go_wp2_with fail
    refine (refFree_any q _ _ _ l a b _ HZ4.out.slots HOK.out.slots).mono ?_
    rintro e w5 ⟨rfl, hr5, hk5⟩
    rw [HE.out.2]
    have HEND : Hid (ZKillPost w q G l rows vB a b (.returned (.int .i64 0)) w5) := Lib.hid (by
      obtain ⟨G5, hz5, hK5, hM5⟩ := HZ4.out.slotStep hr5 hk5 (Moves.refl _ _)
      have hs1 := HBW.out.size
      have hs3 := HK3.out.size
      refine ⟨by rw [HE.out.1], G5, hz5, ((Kept.ofBelow HBW.out).trans HK3.out (fun _ h => .inl h)).trans ((Kept.ofBelow (F := G3) (Below.refl _ _).drew).trans hK5 (fun _ h => .inl h)) (fun b hb => ?_), fun b hb => ?_⟩
      · exact (HM3.out b hb).imp id (fun h => by omega)
      · rcases hM5 b hb with h | h
        · exact (HM3.out b h).imp id (fun h => by omega)
        · exact .inr (by have : W.drew.heap.size = W.heap.size := rfl; omega))
    clear hr5 hk5
    go_wp2
    go_ret
    exact HEND.out
end Go.Proofs.YtlclceiebnnpgaaGreat

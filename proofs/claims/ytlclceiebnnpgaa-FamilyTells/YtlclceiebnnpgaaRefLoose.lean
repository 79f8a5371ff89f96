/- The contracts of the reference's Loosen and Gone. -/
import Derived.Test.YtlclceiebnnpgaaRefWithoutB
namespace Go.Proofs.Ytlclceiebnnpgaa
set_option maxRecDepth 8000
open Go.RowKit

def BonPost (w : World) (q : Nat) (G : Nat → Prop) (x : Value) (bs' : List Bd) (e : Ending) (w' : World) : Prop := e = .returned x ∧ ∃ G', BonAt w' q G' bs' ∧ Kept G w w' ∧ Moves w G G'
theorem BonPost.same {w w' : World} {q : Nat} {G : Nat → Prop} {x : Value} {bs : List Bd} (h : BonAt w q G bs) (hb : Below w.heap.size w w') : BonPost w q G x bs (.returned x) w' := ⟨rfl, G, h.later hb, Kept.ofBelow hb, Moves.refl _ _⟩

set_option maxHeartbeats 4000000 in
theorem refGone_any (q : Nat) (G : Nat → Prop) (bs : List Bd) (a b : Int) (w : World) (h : BonAt w q G bs) (hn : bs.length * 32 ≤ 140737488355328) :
    Calls Try.prog 28 #[.pointer (some ⟨q, 0, none⟩), .agg #[.int .i64 a, .int .i64 b]] w (BonPost w q G (.tuple #[]) (goneB bs (a, b))) := by
  obtain ⟨v0, v1, v2, vB, h⟩ := h
  have HX : Hid (Below w.heap.size w (w.alloc (.cells #[.int .i64 a, .int .i64 b] 38))) := Lib.hid (nb_alloc (Below.refl _ _) _)
  have HXB : Hid ((w.alloc (.cells #[.int .i64 a, .int .i64 b] 38)).heap[w.heap.size]? = some (.cells #[.int .i64 a, .int .i64 b] 38)) := Lib.hid (heap_alloc_new _ _)
  have H0 := Lib.hid h
  have HW := Lib.hid (h.later HX.out)
  have HN := Lib.hid hn
  obtain ⟨cq, fq, hql⟩ := HW.out.cell
  clear h hn
  go_enter Try.func28, Try.ntmps28
  go_wp2_with fail
  generalize w.alloc (.cells #[.int .i64 a, .int .i64 b] 38) = X at *
  refine (withoutGone_any _ bs w.heap.size a b _ HW.out.own.reads HN.out HXB.out).mono ?_
  rintro e w2 ⟨v', rfl, ho2, hb2⟩
  have hbw := nb_trans HX.out hb2
  change OwnsF elBond w2 X.heap.size 44 v' (goneB bs (a, b)) at ho2
  obtain ⟨ys, hys⟩ : ∃ ys, goneB bs (a, b) = ys := ⟨_, rfl⟩
  rw [hys] at ho2
  obtain ⟨G', h1, h2, h3⟩ := H0.out.set hbw (ho2.weaken HX.out.size)
  have HEND : Hid (BonPost w q G (.tuple #[]) (goneB bs (a, b)) (.returned (.tuple #[])) (w2.setCell ⟨q, 3, none⟩ v')) := Lib.hid (by rw [hys]; exact ⟨rfl, G', h1, h2, h3⟩)
  clear hys
  obtain ⟨c2, f2, hql2⟩ := (HW.out.later hb2).cell
  obtain ⟨va, vc, rfl, -⟩ := ho2.reads
  clear ho2 hb2 hbw h1 h2 h3 cq fq
  go_wp2
  go_end0
  exact HEND.out

set_option maxHeartbeats 4000000 in
theorem refLoosen_any (q : Nat) (G : Nat → Prop) (bs : List Bd) (a b x : Int) (bs' : List Bd) (w : World) (h : BonAt w q G bs) (hn : bs.length * 32 ≤ 140737488355328) (hx : looseE bs (a, b) = x) (hbs : rmB bs (a, b) = bs') :
    Calls Try.prog 26 #[.pointer (some ⟨q, 0, none⟩), .agg #[.int .i64 a, .int .i64 b]] w (BonPost w q G (.int .i64 x) bs') := by
  obtain ⟨v0, v1, v2, vB, h⟩ := h
  have HX : Hid (Below w.heap.size w (w.alloc (.cells #[.int .i64 a, .int .i64 b] 38))) := Lib.hid (nb_alloc (Below.refl _ _) _)
  have HXB : Hid ((w.alloc (.cells #[.int .i64 a, .int .i64 b] 38)).heap[w.heap.size]? = some (.cells #[.int .i64 a, .int .i64 b] 38)) := Lib.hid (heap_alloc_new _ _)
  have H0 := Lib.hid h
  have HW := Lib.hid (h.later HX.out)
  have HN := Lib.hid hn
  have HXE := Lib.hid hx
  have HBS := Lib.hid hbs
  obtain ⟨pp, hpp⟩ : ∃ pp, parB bs (a, b) = pp := ⟨_, rfl⟩
  obtain ⟨p1, p2⟩ := pp
  have HPP := Lib.hid hpp
  clear h hn hx hbs hpp
  have hxb := HXB.out
  have hxbl := (Array.getElem?_eq_some_iff.1 hxb).1
  cases hg : hasP bs (a, b)
  all_goals
    have HG := Lib.hid hg
    clear hg
    go_enter Try.func26, Try.ntmps26
    go_wp2_with fail
    generalize w.alloc (.cells #[.int .i64 a, .int .i64 b] 38) = X at *
    refine (refParent_any q G bs a b p1 p2 _ _ ⟨_, _, _, _, HW.out⟩ HPP.out HG.out).mono ?_
    rintro e w2 ⟨rfl, hb2⟩
    have hbA := nb_alloc hb2 (.cells #[.int .i64 p1, .int .i64 p2] 38)
    have HBA := Lib.hid hbA
    have HBW := Lib.hid (nb_trans HX.out hbA)
    have HXA : Hid ((w2.alloc (.cells #[.int .i64 p1, .int .i64 p2] 38)).heap[w.heap.size]? = some (.cells #[.int .i64 a, .int .i64 b] 38)) := Lib.hid (by rw [hbA.block _ hxbl]; exact HXB.out)
    obtain ⟨cq, fq, hql⟩ := (HW.out.later hb2).cell
    clear hb2 hbA
  · have hx5 : x = 5 := by rw [← HXE.out, looseE, HG.out]; rfl
    have hbe : bs' = bs := by rw [← HBS.out]; exact rmB_none HG.out
    subst hx5
    subst hbe
    have HEND : Hid (BonPost w q G (.int .i64 5) bs' (.returned (.int .i64 5)) (w2.alloc (.cells #[.int .i64 p1, .int .i64 p2] 38))) := Lib.hid (BonPost.same ⟨_, _, _, _, H0.out⟩ HBW.out)
    go_wp2
    go_ret
    exact HEND.out
  · have hx5 : x = 0 := by rw [← HXE.out, looseE, HG.out]; rfl
    subst hx5
    have hqA : q < w2.heap.size + 1 := by omega
    go_wp2_with fail
    generalize w2.alloc (.cells #[.int .i64 p1, .int .i64 p2] 38) = A at *
    refine (withoutLoosen_any _ bs w.heap.size a b _ (HW.out.later HBA.out).own.reads HN.out HXA.out).mono ?_
    rintro e w3 ⟨v', rfl, ho3, hb3⟩
    have hbw := nb_trans HBW.out hb3
    obtain ⟨G', h1, h2, h3⟩ := H0.out.set hbw (ho3.weaken HBW.out.size)
    have HEND : Hid (BonPost w q G (.int .i64 0) bs' (.returned (.int .i64 0)) (w3.setCell ⟨q, 3, none⟩ v')) := Lib.hid ⟨rfl, G', by rw [← HBS.out]; exact h1, h2, h3⟩
    obtain ⟨c2, f2, hql2⟩ := (HW.out.later (nb_trans HBA.out hb3)).cell
    obtain ⟨va, vc, rfl, -⟩ := ho3.reads
    clear ho3 hb3 hbw h1 h2 h3 cq fq
    go_wp2
    go_ret
    exact HEND.out
end Go.Proofs.Ytlclceiebnnpgaa

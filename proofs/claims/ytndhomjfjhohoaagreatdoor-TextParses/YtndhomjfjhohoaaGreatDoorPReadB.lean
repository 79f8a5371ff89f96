
/- text.readBond, text.readBeast. -/
import Derived.Test.YtndhomjfjhohoaaGreatDoorPNums
import Derived.Test.YtndhomjfjhohoaaGreatDoorGroundH
import Derived.Test.YtndhomjfjhohoaaGreatDoorGroundC
import Derived.Test.YtndhomjfjhohoaaGreatDoorGroundE
namespace Go.Proofs.YtndhomjfjhohoaaGreatDoor
set_option maxRecDepth 8000
set_option maxRecDepth 8000
open Go.RowKit

theorem nb_setW {w x : World} (h : Below w.heap.size w x) (b i : Nat) (v : Value) (hb : w.heap.size ≤ b) : Below w.heap.size w (x.setCell ⟨b, i, none⟩ v) := h.setCell (p := ⟨b, i, none⟩) hb v
def RBPost (w : World) (ws : List (List UInt8)) (e : Ending) (w' : World) : Prop :=
  ∃ b : Bd, (e = .returned (.tuple #[.agg #[.int .i64 b.1.1, .int .i64 b.1.2, .int .i64 b.2.1, .int .i64 b.2.2], .bool (rdBond ws).isSome])) ∧ (∀ x, rdBond ws = some x → b = x) ∧ Below w.heap.size w w'
theorem RBPost.no {w w' : World} {ws : List (List UInt8)} (h : rdBond ws = none) (hb : Below w.heap.size w w') : RBPost w ws (.returned (.tuple #[.agg #[.int .i64 0, .int .i64 0, .int .i64 0, .int .i64 0], .bool false])) w' :=
  ⟨((0, 0), (0, 0)), by rw [h]; rfl, fun x hx => (by rw [h] at hx; cases hx), hb⟩
theorem RBPost.yes {w w' : World} {ws : List (List UInt8)} {b : Bd} (h : rdBond ws = some b) (hb : Below w.heap.size w w') : RBPost w ws (.returned (.tuple #[.agg #[.int .i64 b.1.1, .int .i64 b.1.2, .int .i64 b.2.1, .int .i64 b.2.2], .bool true])) w' :=
  ⟨b, by rw [h]; rfl, fun x hx => (by rw [h] at hx; cases hx; rfl), hb⟩
set_option maxHeartbeats 2000000 in
theorem readBond_any (v : Value) (ws : List (List UInt8)) (w : World) (h : Reads elStr w v ws) (hl : ws.length ≤ 100000) (hb : ∀ x ∈ ws, x.length ≤ 1000000) (hv : VarsIs w) :
    Calls Tryz.prog 109 #[v] w (RBPost w ws) := by
  have hX : Below w.heap.size w (w.alloc (.cells #[.int .i64 0, .int .i64 0, .int .i64 0, .int .i64 0] 58)) := nb_alloc (Below.refl _ _) _
  have hxb : (w.alloc (.cells #[.int .i64 0, .int .i64 0, .int .i64 0, .int .i64 0] 58)).heap[w.heap.size]? = some (.cells #[.int .i64 0, .int .i64 0, .int .i64 0, .int .i64 0] 58) := heap_alloc_new _ _
  have HX := Lib.hid hX
  have HXB := Lib.hid hxb
  have HN := Lib.hid (readNumbers_any v ws _ (h.later hX) hl hb (hv.later hX))
  obtain ⟨a, c, rfl, -⟩ := h
  clear hX hxb hb hv
  go_enter Tryz.func109, Tryz.ntmps109
  go_wp2_with (go_at_call 107; refine HN.out.mono ?_; rintro e w1 ⟨u, rfl, ho, hb1⟩; refine Hid.out ?_)
  refine Lib.hid ?_
  have hq := (hb1.block _ (Array.getElem?_eq_some_iff.1 HXB.out).1).trans HXB.out
  have hql := (Array.getElem?_eq_some_iff.1 hq).1
  have HB1 := Lib.hid (nb_trans HX.out hb1)
  have k0 : w1.cell? ⟨w.heap.size, 0, none⟩ = some (.int .i64 0) := by rw [cell_of_row _ _ _ _ _ _ hq]; rfl
  have k1 : w1.cell? ⟨w.heap.size, 1, none⟩ = some (.int .i64 0) := by rw [cell_of_row _ _ _ _ _ _ hq]; rfl
  have k2 : w1.cell? ⟨w.heap.size, 2, none⟩ = some (.int .i64 0) := by rw [cell_of_row _ _ _ _ _ _ hq]; rfl
  have k3 : w1.cell? ⟨w.heap.size, 3, none⟩ = some (.int .i64 0) := by rw [cell_of_row _ _ _ _ _ _ hq]; rfl
  have fz : ∀ j, w1.frozen? ⟨w.heap.size, j, none⟩ = false := fun j => frozen_of_row _ _ _ _ _ hq
  clear hb1 hq HN
  cases hns : numsA ws with
  | none =>
    have HE : Hid (rdBond ws = none) := Lib.hid (by rw [rdBond, hns]; rfl)
    rw [hns] at ho
    clear hns ho
    simp only [Option.isSome_none]
    go_wp2
    refine bodyPost_ret (v := .tuple #[.agg #[.int .i64 0, .int .i64 0, .int .i64 0, .int .i64 0], .bool false]) (by simp [results, Tryz.results109, go_sem, k0, k1, k2, k3]) rfl (RBPost.no HE.out ?_)
    iterate 4 (refine nb_setW ?_ _ _ _ (Nat.le_refl _))
    exact HB1.out
  | some l =>
    rw [hns, Option.getD_some] at ho
    simp only [Option.isSome_some]
    obtain ⟨ua, uc, hue, -⟩ := ho.reads
    subst hue
    by_cases h4 : l.length = 4
    · match l, h4 with
      | [z0, z1, z2, z3], _ =>
        have HE : Hid (rdBond ws = some ((z0, z1), (z2, z3))) := Lib.hid (by rw [rdBond, hns]; rfl)
        rcases ho.owns.form with ⟨e, -⟩ | ⟨g, cap, cur, e, hh, hg, hn, hcap, hsz⟩
        · cases e
        · cases e
          have ho' : OwnsF elInt w1 (w.alloc (.cells #[.int .i64 0, .int .i64 0, .int .i64 0, .int .i64 0] 58)).heap.size 3 (.slice (some ⟨g, 0, none⟩) 4 uc) [z0, z1, z2, z3] := ho
          obtain ⟨c0, -, hgl⟩ := ho'.open1 rfl (k := 0) (by simp)
          obtain ⟨c1, -, -⟩ := ho'.open1 rfl (k := 1) (by simp)
          obtain ⟨c2, -, -⟩ := ho'.open1 rfl (k := 2) (by simp)
          obtain ⟨c3, -, -⟩ := ho'.open1 rfl (k := 3) (by simp)
          replace c0 : w1.cell? ⟨g, 0, none⟩ = some (.int .i64 z0) := c0
          replace c1 : w1.cell? ⟨g, 1, none⟩ = some (.int .i64 z1) := c1
          replace c2 : w1.cell? ⟨g, 2, none⟩ = some (.int .i64 z2) := c2
          replace c3 : w1.cell? ⟨g, 3, none⟩ = some (.int .i64 z3) := c3
          simp only [List.length_cons, List.length_nil, Nat.reduceAdd]
          clear ho ho' hns hh hsz
          go_wp2_with fail
          go_still_tail 15, (by kernel_rfl)
          change wpList _ _ _ _ _ w1.drew
          clear c0 c1 c2 c3
          go_wp2
          refine bodyPost_ret (v := .tuple #[.agg #[.int .i64 z0, .int .i64 z1, .int .i64 z2, .int .i64 z3], .bool true]) (by simp [results, Tryz.results109, go_sem, k0, k1, k2, k3]) rfl (RBPost.yes HE.out ?_)
          refine Below.drew ?_
          iterate 4 (refine nb_setW ?_ _ _ _ (Nat.le_refl _))
          exact HB1.out
    · have HE : Hid (rdBond ws = none) := Lib.hid (by
        rw [rdBond, hns, Option.bind_some]
        match l, h4 with
        | [], _ => rfl
        | [_], _ => rfl
        | [_, _], _ => rfl
        | [_, _, _], _ => rfl
        | [_, _, _, _], h4 => exact absurd rfl h4
        | _ :: _ :: _ :: _ :: _ :: _, _ => rfl)
      have hne : (((l.length : Nat) : Int) != 4) = true := by simp; omega
      generalize l.length = ll at *
      clear ho hns
      go_wp2
      refine bodyPost_ret (v := .tuple #[.agg #[.int .i64 0, .int .i64 0, .int .i64 0, .int .i64 0], .bool false]) (by simp [results, Tryz.results109, go_sem, k0, k1, k2, k3]) rfl (RBPost.no HE.out ?_)
      iterate 4 (refine nb_setW ?_ _ _ _ (Nat.le_refl _))
      exact HB1.out
end Go.Proofs.YtndhomjfjhohoaaGreatDoor

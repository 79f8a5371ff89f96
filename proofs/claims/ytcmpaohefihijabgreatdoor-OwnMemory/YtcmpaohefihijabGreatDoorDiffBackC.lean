/- slices.Backward over changes. -/
import Derived.RangeFuncNested
import Derived.RangeFuncBound
import Derived.RangeFuncCalls
import Derived.RangeFuncLeaves
import Derived.Shelf.Abstract
import Derived.Shelf.RegionOpen
import Derived.WalkKit
import Derived.OwnWalkIn
import Derived.TacticsInMore
import Derived.LoopNIn
import Derived.LoopIn
import Derived.BigRegionIn
import Derived.Test.YtcmpaohefihijabGreatDoorDiffLaws
namespace Go.Proofs.YtcmpaohefihijabGreatDoor
set_option maxRecDepth 100000
open Go.RowKit Go.Shelf
attribute [local go_sem] Oper.semAt_some

/-- A change with its index. -/
abbrev IxC := Nat × Ch
def chsOf (l : List IxC) : List Ch := l.map (fun x => x.2)
/-- A round keeps these blocks. -/
def KpB (S : Nat → Prop) (W W' : World) : Prop := W.heap.size ≤ W'.heap.size ∧ ∀ k, S k → W'.heap[k]? = W.heap[k]?
theorem KpB.trans {S : Nat → Prop} {A B C : World} (h : KpB S A B) (k : KpB S B C) : KpB S A C := ⟨Nat.le_trans h.1 k.1, fun i hi => (k.2 i hi).trans (h.2 i hi)⟩
theorem KpB.put {S : Nat → Prop} {w : World} (hS : ∀ k, S k → k < w.heap.size) (W : World) (l : Nat) (o o' : Obj) (hl : w.heap.size ≤ l) (ho : W.heap[l]? = some o) (_ : o.isCells = false) (_ : o.isWalk = false) : KpB S W (W.putObj l o') := by
  have hlt := (Array.getElem?_eq_some_iff.1 ho).1
  refine ⟨(grownBy_putObj' W l o').size, fun k hk => (grownBy_putObj' W l o').block k (by have := hS k hk; omega) (fun e => ?_)⟩
  simp only [Option.some.injEq] at e
  have := hS k hk
  omega
theorem KpB.refl (S : Nat → Prop) (W : World) : KpB S W W := ⟨Nat.le_refl _, fun _ _ => rfl⟩
set_option maxHeartbeats 4000000 in
theorem cback1_in (n : Nat) (hn : 1 ≤ n) (l Bs n1 : Nat) (S : Nat → Prop) (v : Value) (ys : List Ch) (J Jx : List IxC → World → Prop)
    (hY : ∀ pre x W, J pre W → pre.length < ys.length → YieldAt Fence.wide (n - 1) Tryz.prog l #[.int .i64 (x.1 : Int), chV x.2] W fun e W' =>
      (e = .returned (.bool true) ∧ J (pre ++ [x]) W' ∧ KpB S W W') ∨ (e = .returned (.bool false) ∧ Jx (pre ++ [x]) W'))
    (_ : AbidesFrom n1 J) (W : World) (hBs : W.heap[Bs]? = some (.cells #[v] 23)) (hS : S Bs) (hSv : 0 < ys.length → ∀ k, v.ownBlock = some k → S k) (hr : Reads elCh W v ys) (h0 : J [] W) :
    CallsIn Fence.wide n Tryz.prog 45 #[.func (.yield l) #[] #[], .pointer (some ⟨Bs, 0, none⟩)] W fun e W' => (∃ v, e = .returned v) ∧
      ((∃ zs, chsOf zs = ys.reverse ∧ J zs W') ∨ (∃ pre, True ∧ Jx pre W')) := by
  obtain ⟨hm, hop⟩ := hr.open
  obtain ⟨N, hN⟩ : ∃ N, ys.length = N := ⟨_, rfl⟩
  have HN := Lib.hid hN
  unfold maxLen at hm
  rw [hN] at hm hop hY
  have hBl := (Array.getElem?_eq_some_iff.1 hBs).1
  have HKB : Hid (∀ Y, KpB S W Y → Y.heap[Bs]? = some (.cells #[v] 23)) := Lib.hid (fun Y hY => by rw [hY.2 Bs hS]; exact hBs)
  have cb : W.cell? ⟨Bs, 0, none⟩ = some v := by rw [cell_of_row _ _ _ _ _ _ hBs]; rfl
  clear hN hr
  rcases hop with ⟨ad, cap, rfl, hz⟩ | ⟨bl, off, cap, rfl, hbl, hlc, hcm, hc⟩
  all_goals
    refine callsIn_of_wp Tryz.func45 rfl trivial ?_ rfl
    simp only [Tryz.ntmps45, List.size_toArray, List.length_cons, List.length_nil, Nat.reduceAdd, Nat.reduceSub, Array.replicate_succ, Array.replicate_zero, List.push_toArray, List.append_toArray, List.nil_append, List.cons_append]
    gi_wp2
    clear cb
    gi_loopw [3] (fun i wr => ∃ (k : Nat) (pre : List IxC), k ≤ N ∧ i = .int .i64 ((k : Int) - 1) ∧ Hid (chsOf pre = (ys.drop k).reverse) ∧ Hid (J pre wr) ∧ Hid (KpB S W wr)) (fun i _ => (intOf i + 1).toNat)
    case atStart => exact ⟨N, [], Nat.le_refl _, by go_num, Lib.hid (by rw [List.drop_of_length_le (by rw [HN.out]; exact Nat.le_refl _)]; rfl), Lib.hid h0, Lib.hid (KpB.refl _ _)⟩
    case round =>
      obtain ⟨k, pre, hk, rfl, hp, hJ, hK⟩ := hrel
      by_cases hk0 : k = 0
      · subst hk0
        have HE : Hid (chsOf pre = ys.reverse) := Lib.hid (by rw [hp.out]; rfl)
        gi_wp2
        go_end0
        exact ⟨⟨_, rfl⟩, .inl ⟨pre, HE.out, hJ.out⟩⟩
      · first
          | omega
          | (have hb1 := HKB.out wr hK.out
             have hb1l := (Array.getElem?_eq_some_iff.1 hb1).1
             have cb : wr.cell? ⟨Bs, 0, none⟩ = some (.slice (some ⟨bl, off, none⟩) N cap) := by rw [cell_of_row _ _ _ _ _ _ hb1]; rfl
             obtain ⟨j, rfl⟩ : ∃ j, k = j + 1 := ⟨k - 1, by omega⟩
             have hbw : bl < wr.heap.size := Nat.lt_of_lt_of_le hbl hK.out.1
             have hcr : ∀ jj, jj < 20 → wr.cell? ⟨bl, off + j * 20 + jj, none⟩ = (elCh.enc (ys.getD j chZ))[jj]? := fun jj hjj => by rw [World.cell?_of_block (hK.out.2 bl (hSv (by have := HN.out; omega) bl rfl))]; exact hc j (by omega) jj hjj
             have hjl : j < ys.length := by rw [HN.out]; omega
             have HDR : Hid ((ys.drop j).reverse = (ys.drop (j + 1)).reverse ++ [ys.getD j chZ]) := Lib.hid (by rw [List.drop_eq_getElem_cons hjl, List.reverse_cons, List.getD_eq_getElem?_getD, List.getElem?_eq_getElem hjl]; rfl)
             have hpl : pre.length < N := by
               have := congrArg List.length hp.out
               simp only [chsOf, List.length_map, List.length_reverse, List.length_drop] at this
               rw [this, HN.out]; omega
             obtain ⟨y, hy⟩ : ∃ y, ys.getD j chZ = y := ⟨_, rfl⟩
             rw [hy] at hcr HDR
             have hld := ld_ch (c := y) hcr
             obtain ⟨Y, hYe⟩ : ∃ Y, chV y = Y := ⟨_, rfl⟩
             have hY2 := hY pre (j, y) wr hJ.out hpl
             dsimp only at hY2
             rw [hYe] at hld hY2
             obtain ⟨fn, tmps, assign, body, hy', hRd⟩ := hY2
             have ej : (((j + 1 : Nat) : Int) - 1) = (j : Int) := by omega
             have hj0 : (0 : Int) ≤ (j : Int) := by omega
             have hjN : (j : Int) < (N : Int) := by omega
             rw [ej]
             clear hcr hy hb1 hYe
             gi_wp2_with (refine wpListIn_ldY rfl 44 _ rfl _ rfl Y hld ?_)
             refine hRd.mono ?_
             rintro e W3 (⟨rfl, hJ3, hk3⟩ | ⟨rfl, hJx3⟩)
             · clear cb hld
               gi_wp2
               go_roundw
               case rel => exact ⟨j, _, by omega, by go_num, Lib.hid (by rw [chsOf, List.map_append]; show chsOf pre ++ _ = _; rw [hp.out, HDR.out]; rfl), Lib.hid hJ3, Lib.hid (hK.out.trans hk3)⟩
               case measure => simp [intOf]; try omega
             · gi_wp2
               refine bodyPost_ret (results_none rfl _ _ _) rfl ?_
               exact ⟨⟨_, rfl⟩, .inr ⟨_, trivial, hJx3⟩⟩)

set_option maxHeartbeats 1000000 in
theorem cback_in (n : Nat) (v : Value) (w : World) (h1 : ∃ a k c, v = .slice a k c) :
    CallsIn Fence.wide n Tryz.prog 20 #[v] w fun e w' => e = .returned (.func (.func 45) #[] #[.pointer (some ⟨w.heap.size, 0, none⟩)]) ∧ w' = w.alloc (.cells #[v] 23) := by
  obtain ⟨a, k, c, rfl⟩ := h1
  refine callsIn_of_wp Tryz.func20 rfl trivial ?_ rfl
  simp only [Tryz.ntmps20, List.size_toArray, List.length_cons, List.length_nil, Nat.reduceAdd, Nat.reduceSub, Array.replicate_succ, Array.replicate_zero, List.push_toArray, List.append_toArray, List.nil_append, List.cons_append]
  gi_wp2
  go_ret
  exact ⟨rfl, rfl⟩
theorem cback_stops (n : Nat) (hn : 1 ≤ n) (Bs : Nat) (S : Nat → Prop) (v : Value) (ys : List Ch) (w : World) (hBs : w.heap[Bs]? = some (.cells #[v] 23)) (hS : S Bs) (hSv : 0 < ys.length → ∀ k, v.ownBlock = some k → S k) (hr : Reads elCh w v ys) :
    SeqStopsK Fence.wide n Tryz.prog 45 #[.pointer (some ⟨Bs, 0, none⟩)] (fun x : IxC => #[Value.int .i64 (x.1 : Int), chV x.2]) (KpB S) (fun zs => chsOf zs = ys.reverse) (fun _ => True) ys.length w := fun l J Jx W hW hJ _ hY h0 =>
  cback1_in n hn l Bs _ S v ys J Jx hY hJ W (by rw [hW.block _ (Array.getElem?_eq_some_iff.1 hBs).1]; exact hBs) hS hSv (hr.later hW) h0
end Go.Proofs.YtcmpaohefihijabGreatDoor

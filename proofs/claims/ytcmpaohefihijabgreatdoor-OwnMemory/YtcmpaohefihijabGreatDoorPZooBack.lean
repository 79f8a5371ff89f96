/- slices.Backward over handles. -/
import Derived.Test.YtcmpaohefihijabGreatDoorGroundH
namespace Go.Proofs.YtcmpaohefihijabGreatDoor
set_option maxRecDepth 100000
open Go.RowKit Go.Shelf
attribute [local go_sem] Oper.semAt_some

/-- A handle that fits, with its index. -/
abbrev IxH := { x : Nat × Hd // okH x.2 }
def handsOf (l : List IxH) : List Hd := l.map (fun x => x.1.2)
set_option maxHeartbeats 4000000 in
theorem hback1_in (n : Nat) (hn : 1 ≤ n) (l Bs n1 : Nat) (S : Nat → Prop) (v : Value) (ys : List Hd) (J Jx : List IxH → World → Prop)
    (hY : ∀ pre x W, J pre W → pre.length < ys.length → YieldAt Fence.wide (n - 1) Tryz.prog l #[.int .i64 (x.1.1 : Int), .agg #[.int .i64 x.1.2.1, .int .i64 x.1.2.2]] W fun e W' =>
      (e = .returned (.bool true) ∧ J (pre ++ [x]) W' ∧ KpS S W W') ∨ (e = .returned (.bool false) ∧ Jx (pre ++ [x]) W'))
    (_ : AbidesFrom n1 J) (W : World) (hBs : W.heap[Bs]? = some (.cells #[v] 86)) (hS : S Bs) (hSv : ∀ k, v.ownBlock = some k → S k) (hr : Reads elHand W v ys) (hok : ∀ b ∈ ys, okH b) (h0 : J [] W) :
    CallsIn Fence.wide n Tryz.prog 94 #[.func (.yield l) #[] #[], .pointer (some ⟨Bs, 0, none⟩)] W fun e W' => (∃ v, e = .returned v) ∧
      ((∃ zs, handsOf zs = ys.reverse ∧ J zs W') ∨ (∃ pre, True ∧ Jx pre W')) := by
  obtain ⟨hm, hop⟩ := hr.open
  obtain ⟨N, hN⟩ : ∃ N, ys.length = N := ⟨_, rfl⟩
  have HN := Lib.hid hN
  unfold maxLen at hm
  rw [hN] at hm hop hY
  have hBl := (Array.getElem?_eq_some_iff.1 hBs).1
  have HOKY := Lib.hid hok
  have HKB : Hid (∀ Y, KpS S W Y → Y.heap[Bs]? = some (.cells #[v] 86)) := Lib.hid (fun Y hY => by rw [hY.2 Bs hS]; exact hBs)
  have cb : W.cell? ⟨Bs, 0, none⟩ = some v := by rw [cell_of_row _ _ _ _ _ _ hBs]; rfl
  clear hN hr hok
  rcases hop with ⟨ad, cap, rfl, hz⟩ | ⟨bl, off, cap, rfl, hbl, hlc, hcm, hc⟩
  all_goals
    refine callsIn_of_wp Tryz.func94 rfl trivial ?_ rfl
    simp only [Tryz.ntmps94, List.size_toArray, List.length_cons, List.length_nil, Nat.reduceAdd, Nat.reduceSub, Array.replicate_succ, Array.replicate_zero, List.push_toArray, List.append_toArray, List.nil_append, List.cons_append]
    gi_wp2
    clear cb
    gi_loopw [3] (fun i wr => ∃ (k : Nat) (pre : List IxH), k ≤ N ∧ i = .int .i64 ((k : Int) - 1) ∧ Hid (handsOf pre = (ys.drop k).reverse) ∧ Hid (J pre wr) ∧ Hid (KpS S W wr)) (fun i _ => (intOf i + 1).toNat)
    case atStart => exact ⟨N, [], Nat.le_refl _, by go_num, Lib.hid (by rw [List.drop_of_length_le (by rw [HN.out]; exact Nat.le_refl _)]; rfl), Lib.hid h0, Lib.hid (KpS.refl _ _)⟩
    case round =>
      obtain ⟨k, pre, hk, rfl, hp, hJ, hK⟩ := hrel
      by_cases hk0 : k = 0
      · subst hk0
        have HE : Hid (handsOf pre = ys.reverse) := Lib.hid (by rw [hp.out]; rfl)
        gi_wp2
        go_end0
        exact ⟨⟨_, rfl⟩, .inl ⟨pre, HE.out, hJ.out⟩⟩
      · first
          | omega
          | (have hb1 := HKB.out wr hK.out
             have hb1l := (Array.getElem?_eq_some_iff.1 hb1).1
             have cb : wr.cell? ⟨Bs, 0, none⟩ = some (.slice (some ⟨bl, off, none⟩) N cap) := by rw [cell_of_row _ _ _ _ _ _ hb1]; rfl
             obtain ⟨j, rfl⟩ : ∃ j, k = j + 1 := ⟨k - 1, by omega⟩
             have hbw : bl < wr.heap.size := Nat.lt_of_lt_of_le hbl hK.out.1
             have hcr : ∀ jj, jj < 2 → wr.cell? ⟨bl, off + j * 2 + jj, none⟩ = (elHand.enc (ys.getD j (0, 0)))[jj]? := fun jj hjj => by rw [World.cell?_of_block (hK.out.2 bl (hSv bl rfl))]; exact hc j (by omega) jj hjj
             have hjl : j < ys.length := by rw [HN.out]; omega
             have hym : ys.getD j (0, 0) ∈ ys := memD hjl
             have hyo := HOKY.out _ hym
             have HDR : Hid ((ys.drop j).reverse = (ys.drop (j + 1)).reverse ++ [ys.getD j (0, 0)]) := Lib.hid (by rw [List.drop_eq_getElem_cons hjl, List.reverse_cons, List.getD_eq_getElem?_getD, List.getElem?_eq_getElem hjl]; rfl)
             have hpl : pre.length < N := by
               have := congrArg List.length hp.out
               simp only [handsOf, List.length_map, List.length_reverse, List.length_drop] at this
               rw [this, HN.out]; omega
             obtain ⟨y, hy⟩ : ∃ y, ys.getD j (0, 0) = y := ⟨_, rfl⟩
             rw [hy] at hcr hyo HDR
             obtain ⟨y1, y2⟩ := y
             have c0 : wr.cell? ⟨bl, off + j * 2, none⟩ = some (.int .i64 y1) := hcr 0 (by decide)
             have c1 : wr.cell? ⟨bl, off + j * 2 + 1, none⟩ = some (.int .i64 y2) := hcr 1 (by decide)
             obtain ⟨fn, tmps, assign, body, hy', hRd⟩ := hY pre ⟨(j, (y1, y2)), hyo⟩ wr hJ.out hpl
             dsimp only at hy'
             have ej : (((j + 1 : Nat) : Int) - 1) = (j : Int) := by omega
             have hj0 : (0 : Int) ≤ (j : Int) := by omega
             have hjN : (j : Int) < (N : Int) := by omega
             rw [ej]
             clear hcr hym hy hb1
             gi_wp2
             refine hRd.mono ?_
             rintro e W3 (⟨rfl, hJ3, hk3⟩ | ⟨rfl, hJx3⟩)
             · clear c0 c1 cb
               gi_wp2
               go_roundw
               case rel => exact ⟨j, _, by omega, by go_num, Lib.hid (by rw [handsOf, List.map_append]; show handsOf pre ++ _ = _; rw [hp.out, HDR.out]; rfl), Lib.hid hJ3, Lib.hid (hK.out.trans hk3)⟩
               case measure => simp [intOf]; try omega
             · gi_wp2
               refine bodyPost_ret (results_none rfl _ _ _) rfl ?_
               exact ⟨⟨_, rfl⟩, .inr ⟨_, trivial, hJx3⟩⟩)

set_option maxHeartbeats 1000000 in
theorem hback_in (n : Nat) (v : Value) (w : World) (h1 : ∃ a k c, v = .slice a k c) :
    CallsIn Fence.wide n Tryz.prog 58 #[v] w fun e w' => e = .returned (.func (.func 94) #[] #[.pointer (some ⟨w.heap.size, 0, none⟩)]) ∧ w' = w.alloc (.cells #[v] 86) := by
  obtain ⟨a, k, c, rfl⟩ := h1
  refine callsIn_of_wp Tryz.func58 rfl trivial ?_ rfl
  simp only [Tryz.ntmps58, List.size_toArray, List.length_cons, List.length_nil, Nat.reduceAdd, Nat.reduceSub, Array.replicate_succ, Array.replicate_zero, List.push_toArray, List.append_toArray, List.nil_append, List.cons_append]
  gi_wp2
  go_ret
  exact ⟨rfl, rfl⟩
theorem hback_stops (n : Nat) (hn : 1 ≤ n) (Bs : Nat) (S : Nat → Prop) (v : Value) (ys : List Hd) (w : World) (hBs : w.heap[Bs]? = some (.cells #[v] 86)) (hS : S Bs) (hSv : ∀ k, v.ownBlock = some k → S k) (hr : Reads elHand w v ys) (hok : ∀ b ∈ ys, okH b) :
    SeqStopsK Fence.wide n Tryz.prog 94 #[.pointer (some ⟨Bs, 0, none⟩)] (fun x : IxH => #[Value.int .i64 (x.1.1 : Int), .agg #[.int .i64 x.1.2.1, .int .i64 x.1.2.2]]) (KpS S) (fun zs => handsOf zs = ys.reverse) (fun _ => True) ys.length w := fun l J Jx W hW hJ _ hY h0 =>
  hback1_in n hn l Bs _ S v ys J Jx hY hJ W (by rw [hW.block _ (Array.getElem?_eq_some_iff.1 hBs).1]; exact hBs) hS hSv (hr.later hW) hok h0
end Go.Proofs.YtcmpaohefihijabGreatDoor

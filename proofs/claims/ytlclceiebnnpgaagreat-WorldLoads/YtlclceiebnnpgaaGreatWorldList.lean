/- The contracts of appendRows and Rows of package world. -/
import Derived.Test.YtlclceiebnnpgaaGreatWorldKit
import Derived.Test.YtlclceiebnnpgaaGreatSortRows
namespace Go.Proofs.YtlclceiebnnpgaaGreat
set_option maxRecDepth 8000
open Go.RowKit

set_option maxHeartbeats 2000000 in
theorem appendRows_any (B : Nat) (v : Value) (xs : List Rw) (q : Nat) (G : Nat → Prop) (k : Int) (rows : List Rw) (w : World) (hB : B ≤ w.heap.size) (ho : OwnsF elRow w B 45 v xs) (ht : TableAt w q G k rows) (hG : ∀ b, G b → b < B) (ok : TabOk k rows) (hl : xs.length + rows.length ≤ 1000000) :
    Calls Tryz.prog 28 #[v, .pointer (some ⟨q, 0, none⟩)] w fun e w' => ∃ v', e = .returned v' ∧ OwnsF elRow w' B 45 v' (xs ++ rows) ∧ Below B w w' := by
  obtain ⟨i0, hi0, hz0, hz1, hz2⟩ := info_parts infoRow
  have HT := Lib.hid ht
  have HO := Lib.hid ho
  have HG := Lib.hid hG
  have HOK := Lib.hid ok
  have HLL := Lib.hid hl
  obtain ⟨n, hn⟩ : ∃ n, rows.length = n := ⟨_, rfl⟩
  have HN := Lib.hid hn
  have hn6 : n ≤ 1000000 := by omega
  clear ht ho hG ok hl hn
  go_enter Tryz.func28, Tryz.ntmps28
  go_wp2_with fail
  refine (tabHandles_any q G k rows _ HT.out (by rw [HN.out]; omega)).mono ?_
  rintro e w1 ⟨vh, rfl, hoh, hb1⟩
  obtain ⟨ah, caph, rfl, -⟩ := hoh.reads
  rw [hsOf_len, HN.out]
  have HB1 := Lib.hid hb1
  have hs1 := hb1.size
  clear hoh hb1
  go_wp2
  go_loopw [0, 11] (fun u i wr => ∃ t : Nat, t ≤ n ∧ i = .int .i64 t ∧ Hid (OwnsF elRow wr B 45 u (xs ++ rows.take t)) ∧ Hid (Below B w wr)) (fun _ i _ => n - (intOf i).toNat)
  case atStart => exact ⟨0, by omega, rfl, by rw [List.take_zero, List.append_nil]; exact HO.out.later HB1.out, HB1.out.mono hB⟩
  case round =>
    obtain ⟨t, htn, rfl, hO, hBw⟩ := hrel
    by_cases hlt : t < n
    · obtain ⟨r, hr⟩ : ∃ r, rows.getD t rowZ = r := ⟨_, rfl⟩
      have htl : t < rows.length := by rw [HN.out]; exact hlt
      obtain ⟨r1, r2⟩ := rowR_in htl
      rw [hr] at r1
      have HTK : Hid (xs ++ rows.take (t + 1) = (xs ++ rows.take t) ++ [r]) := Lib.hid (by
        rw [List.take_add_one, List.getElem?_eq_getElem htl, List.append_assoc, ← hr, List.getD_eq_getElem?_getD, List.getElem?_eq_getElem htl]; rfl)
      have HLEN : Hid ((xs ++ rows.take t).length ≤ 1000000) := Lib.hid (by have := HLL.out; rw [List.length_append, List.length_take, HN.out]; rw [HN.out] at this; omega)
      have hTw : TableAt wr q G k rows := HT.out.kept (H := fun b => B ≤ b) ⟨hBw.out.os, hBw.out.tape, hBw.out.output, hBw.out.size, fun b hb hf => hBw.out.block b (by omega)⟩ (fun b hb e => by have := HG.out b hb; omega)
      obtain ⟨ys, hys⟩ : ∃ ys, xs ++ rows.take t = ys := ⟨_, rfl⟩
      rw [hys] at hO HTK HLEN
      clear hys
      have HTW := Lib.hid hTw
      have HR1 := Lib.hid r1
      have HR2 := Lib.hid r2
      have hwr : B ≤ wr.heap.size := Nat.le_trans hB hBw.out.size
      clear hr r1 r2 hTw
      go_wp2_with fail
      refine (tabRow_any q G k rows t r 0 _ HTW.out HOK.out HR1.out HR2.out).mono ?_
      rintro e w3 ⟨rfl, hb3⟩
      have HO3 := Lib.hid (hO.out.later hb3)
      have HB3 := Lib.hid (hBw.out.trans (hb3.mono hwr))
      have hw3 : B ≤ w3.heap.size := Nat.le_trans hwr hb3.size
      clear hb3
      go_wp2_with (first | (at_builtin; refine wpList_append_own _ rfl _ _ 23 rfl B 45 i0 _ 11 88 Tryz.underlying23 hi0 hz0 hz1 hz2 rfl (by decide) _ _ _ rfl (World.ownsRow.alloc (World.ownsRow.alloc HO3.out _) _) ⟨w3.heap.size + 1, 0, none⟩ 1 1 (elRow.enc r) rfl rfl (by exact World.news_of_block (heap_alloc2_new w3 _ _)) (elRow.one r) (by have := HLEN.out; unfold maxLen; omega) (by have := HLEN.out; omega) (by simp; omega) ?_))
      intro v' w4 hown hgr _
      have HO4 : Hid (OwnsF elRow w4 B 45 v' (ys ++ [r])) := Lib.hid (OwnsF.snoc (x := r) hown)
      have HB4 : Hid (Below B w w4) := Lib.hid (((HB3.out.alloc hw3 _).alloc (by simp; omega) _).grown hgr (by simp; omega) (fun jj hjj => HO3.out.ge hjj))
      clear hown hgr
      go_wp2
      go_roundw
      case rel => exact ⟨t + 1, by omega, by go_num, by rw [HTK.out]; exact HO4, HB4⟩
      case measure => simp [intOf]; omega
    · obtain rfl : t = n := by omega
      have HALL : Hid (xs ++ rows.take t = xs ++ rows) := Lib.hid (by rw [List.take_of_length_le (by rw [HN.out]; exact Nat.le_refl _)])
      go_wp2
      go_ret
      exact ⟨_, rfl, by rw [← HALL.out]; exact hO.out, hBw.out⟩
end Go.Proofs.YtlclceiebnnpgaaGreat

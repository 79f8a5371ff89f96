/- checkLive and remove of package zoo. -/
import Derived.Test.YtcmpaohefihijabGreatDoorPZooOps
import Derived.Test.YtcmpaohefihijabGreatDoorGroundA
namespace Go.Proofs.YtcmpaohefihijabGreatDoor
set_option maxRecDepth 8000
set_option maxRecDepth 8000
open Go.RowKit

/-- what checkLive answers -/
def chkE (g : Bool) : Int := if g then 0 else 7
def allLive (l : List (Int × Bool)) (hs : List Hd) : Bool := hs.all (liveH l)
theorem allLive_take {l : List (Int × Bool)} {hs : List Hd} {t : Nat} (h : allLive l (hs.take t) = true) (ht : t < hs.length) (hx : liveH l (hs.getD t (0, 0)) = true) : allLive l (hs.take (t + 1)) = true := by
  unfold allLive at *
  rw [take_snocD hs t (0, 0) ht, List.all_append, h, Bool.true_and, List.all_cons, hx]
  rfl
theorem allLive_no {l : List (Int × Bool)} {hs : List Hd} {t : Nat} (ht : t < hs.length) (hx : liveH l (hs.getD t (0, 0)) = false) : allLive l hs = false := by
  unfold allLive
  rw [List.all_eq_false]
  exact ⟨_, memD ht, by rw [hx]; simp⟩

set_option maxHeartbeats 4000000 in
theorem checkLive_any (p : Nat) (F : Nat → Prop) (s : Zs) (v : Value) (hs : List Hd) (g : Bool) (w : World) (h : PzAt w p F s) (hr : Reads elHand w v hs) (hg : allLive s.l hs = g) :
    Calls Tryz.prog 57 #[.pointer (some ⟨p, 0, none⟩), v] w fun e w' => e = .returned (.int .i64 (chkE g)) ∧ Below w.heap.size w w' := by
  obtain ⟨ra, rc, rfl, hlc, hm, hcc⟩ := hr
  unfold maxLen at hm
  obtain ⟨n, hn⟩ : ∃ n, hs.length = n := ⟨_, rfl⟩
  have HN := Lib.hid hn
  have HC := Lib.hid hcc
  have HZ := Lib.hid h
  have HG := Lib.hid hg
  have hplw := h.lt p h.at_
  rw [hn] at hlc HC ⊢
  clear hn hcc h hg
  go_enter Tryz.func57, Tryz.ntmps57
  go_wp2
  go_loopw [9] (fun i wr => ∃ t : Nat, t ≤ n ∧ i = .int .i64 t ∧ Hid (allLive s.l (hs.take t) = true) ∧ Hid (Below w.heap.size w wr)) (fun i _ => n - (intOf i).toNat)
  case atStart => exact ⟨0, by omega, rfl, Lib.hid rfl, Lib.hid (Below.refl _ _)⟩
  case round =>
    obtain ⟨t, htn, rfl, hL, hB⟩ := hrel
    by_cases hlt : t < n
    · obtain ⟨b, off, rfl, hb, hck⟩ := HC.out t hlt
      have hcr : ∀ jj, jj < 2 → wr.cell? ⟨b, off + t * 2 + jj, none⟩ = (elHand.enc (hs.getD t (0, 0)))[jj]? := fun jj hjj => by rw [hB.out.cell (p := ⟨b, _, none⟩) hb]; exact hck jj hjj
      have htl : t < hs.length := by rw [HN.out]; exact hlt
      obtain ⟨y, hy⟩ : ∃ y, hs.getD t (0, 0) = y := ⟨_, rfl⟩
      rw [hy] at hcr
      obtain ⟨y1, y2⟩ := y
      have c0 : wr.cell? ⟨b, off + t * 2, none⟩ = some (.int .i64 y1) := hcr 0 (by decide)
      have c1 : wr.cell? ⟨b, off + t * 2 + 1, none⟩ = some (.int .i64 y2) := hcr 1 (by decide)
      have hbw : b < wr.heap.size := Nat.lt_of_lt_of_le hb hB.out.size
      have HY := Lib.hid hy
      have HTL := Lib.hid htl
      clear hcr hck hy htl
      have hwa : Below wr.heap.size wr (wr.alloc (.cells #[.int .i64 y1, .int .i64 y2] 34)) := nb_alloc (Below.refl _ _) _
      have HWA := Lib.hid hwa
      have hA : (wr.alloc (.cells #[.int .i64 y1, .int .i64 y2] 34)).heap[wr.heap.size]? = some (.cells #[.int .i64 y1, .int .i64 y2] 34) := heap_alloc_new _ _
      have hpl : p < wr.heap.size := Nat.lt_of_lt_of_le hplw hB.out.size
      go_wp2_with fail
      generalize wr.alloc (.cells #[.int .i64 y1, .int .i64 y2] 34) = W at *
      clear c0 c1 hwa
      have HLV : Hid (∀ (y : Later W) (g : Bool), liveH s.l (y1, y2) = g → Calls Tryz.prog 76 #[.pointer (some ⟨p, 0, none⟩), .agg #[.int .i64 y1, .int .i64 y2]] y.w fun e w' => e = .returned (.bool g) ∧ Below y.w.heap.size y.w w') := Lib.hid (fun y g hg => pzLive p F s y1 y2 g _ ((HZ.out.later (nb_trans hB.out HWA.out)).later y.below) hg)
      have q0 : ∀ y : Later W, y.w.cell? ⟨wr.heap.size, 0, none⟩ = some (.int .i64 y1) := fun y => y.cell (by rw [cell_of_row _ _ _ _ _ _ hA]; rfl)
      have q1 : ∀ y : Later W, y.w.cell? ⟨wr.heap.size, 1, none⟩ = some (.int .i64 y2) := fun y => y.cell (by rw [cell_of_row _ _ _ _ _ _ hA]; rfl)
      clear hA
      cases hlv : liveH s.l (y1, y2)
      · have HEE : Hid (g = false) := Lib.hid (by rw [← HG.out]; exact allLive_no HTL.out (by rw [HY.out]; exact hlv))
        have HLV' := Lib.hid (fun y => HLV.out y false hlv)
        clear HLV hlv
        refine wp_region_later (by kernel_rfl) (by kernel_rfl) ?_
        repeat (go_big_quiet_step ((first | (go_at_call 76; exact Calls.later (HLV'.out _)))))
        refine wpQuiet_nil ?_
        rintro _ ⟨nq, rfl⟩
        have HBN := Lib.hid (nb_trans (nb_trans hB.out HWA.out) nq.below)
        go_wp2
        go_ret
        exact ⟨by rw [HEE.out]; rfl, HBN.out⟩
      · have HNX : Hid (allLive s.l (hs.take (t + 1)) = true) := Lib.hid (allLive_take hL.out HTL.out (by rw [HY.out]; exact hlv))
        have HLV' := Lib.hid (fun y => HLV.out y true hlv)
        clear HLV hlv
        refine wp_region_later (by kernel_rfl) (by kernel_rfl) ?_
        repeat (go_big_quiet_step ((first | (go_at_call 76; exact Calls.later (HLV'.out _)))))
        refine wpQuiet_nil ?_
        rintro _ ⟨nq, rfl⟩
        have HBN := Lib.hid (nb_trans (nb_trans hB.out HWA.out) nq.below)
        go_wp2
        go_roundw
        case rel => exact ⟨t + 1, by omega, by go_num, HNX, HBN⟩
        case measure => simp [intOf]; omega
    · obtain rfl : n = t := by omega
      have HEE : Hid (g = true) := Lib.hid (by rw [← HG.out]; have := hL.out; rwa [List.take_of_length_le (by rw [HN.out]; exact Nat.le_refl _)] at this)
      go_wp2
      go_ret
      exact ⟨by rw [HEE.out]; rfl, hB.out⟩

set_option maxHeartbeats 4000000 in
theorem zooRemove_any (p : Nat) (F0 F1 : Nat → Prop) (u : Value × Value × Value) (vm : Value) (s : Zs) (a b : Int) (n0 : Nat) (w : World) (hn : NewC n0 w F0) (h : PzIs w p F0 F1 u vm s) (ok : ZOk s) (ha : I64r a) (hb : I64r b) :
    Calls Tryz.prog 60 #[.pointer (some ⟨p, 0, none⟩), .agg #[.int .i64 a, .int .i64 b]] w fun e w' => e = .returned (.tuple #[]) ∧ ∃ F0' u' vm', PzIs w' p F0' F1 u' vm' (kill1 s (a, b)) ∧ Kept (fun b => F0 b ∨ F1 b) w w' ∧ Moves w F0 F0' ∧ NewC n0 w' F0' := by
  have hX : Below w.heap.size w (w.alloc (.cells #[.int .i64 a, .int .i64 b] 34)) := nb_alloc (Below.refl _ _) _
  have hhb : (w.alloc (.cells #[.int .i64 a, .int .i64 b] 34)).heap[w.heap.size]? = some (.cells #[.int .i64 a, .int .i64 b] 34) := heap_alloc_new _ _
  have hsz : (w.alloc (.cells #[.int .i64 a, .int .i64 b] 34)).heap.size = w.heap.size + 1 := by simp
  have HX := Lib.hid hX
  have HH := Lib.hid h
  have HNC := Lib.hid hn
  clear hn
  have HOK := Lib.hid ok
  have HAB : Hid (I64r a ∧ I64r b) := Lib.hid ⟨ha, hb⟩
  have hpl0 : p < w.heap.size := h.fam.plt
  clear h ok hX
  go_enter Tryz.func60, Tryz.ntmps60
  go_wp2_with fail
  generalize (w.alloc (.cells #[.int .i64 a, .int .i64 b] 34)) = X at *
  obtain ⟨kh0, kh1⟩ := hCells (a := a) (b := b) hhb
  have hhl : w.heap.size < X.heap.size := by omega
  have hpl : p < X.heap.size := by omega
  have HHB := Lib.hid hhb
  clear hhb hsz
  go_still_tail 4, (by kernel_rfl)
  change wpList _ _ _ _ _ X.drew
  clear kh0 kh1
  go_wp2_with fail
  refine (pzKill1 p F0 F1 u vm s a b n0 _ (HNC.out.later HH.out.wld.lt HX.out.drew) (HH.out.later HX.out.drew) HOK.out HAB.out.1 HAB.out.2).mono ?_
  rintro e w2 ⟨rfl, F2, u2, h2, hk2, hm2, hc2⟩
  have hb2 : w2.heap[w.heap.size]? = some (.cells #[.int .i64 a, .int .i64 b] 34) := by rw [hk2.block _ hhl (fun e => by have := HH.out.wld.lt _ e; omega)]; exact HHB.out
  obtain ⟨kw0, kw1⟩ := hCells (a := a) (b := b) hb2
  have hwl2 : w.heap.size < w2.heap.size := (Array.getElem?_eq_some_iff.1 hb2).1
  have hpl2 : p < w2.heap.size := h2.fam.plt
  have HW2 := Lib.hid h2
  have HK2 := Lib.hid hk2
  have HM2 := Lib.hid hm2
  have HC2 := Lib.hid hc2
  clear h2 hk2 hm2 hc2 hb2
  go_wp2_with fail
  go_still_tail 4, (by kernel_rfl)
  change wpList _ _ _ _ _ w2.drew
  clear kw0 kw1
  go_wp2_with fail
  refine (pzGone p F2 F1 u2 vm _ a b n0 _ (HW2.out.later (Below.refl _ _).drew) HOK.out.f HOK.out.len32' (HC2.out.later HW2.out.wld.lt (Below.refl _ _).drew)).mono ?_
  rintro e w3 ⟨rfl, vm3, h3, hk3, hc3⟩
  have HEND : Hid (∃ F0' u' vm', PzIs w3 p F0' F1 u' vm' (kill1 s (a, b)) ∧ Kept (fun b => F0 b ∨ F1 b) w w3 ∧ Moves w F0 F0' ∧ NewC n0 w3 F0') := Lib.hid (by
    have hxs := HX.out.size
    refine ⟨F2, u2, vm3, h3, ?_, fun b hb => (HM2.out b hb).imp id (fun e => Nat.le_trans hxs e), hc3⟩
    exact (((Kept.ofBelow HX.out.drew).trans HK2.out (fun _ h => .inl (.inl h))).trans (Kept.drew (fun b => F0 b ∨ F1 b) w2) (fun _ h => .inl h)).trans hk3 (fun _ h => .inl (.inr h)))
  clear h3 hk3 hc3
  go_wp2
  go_end0
  exact ⟨rfl, HEND.out⟩
end Go.Proofs.YtcmpaohefihijabGreatDoor

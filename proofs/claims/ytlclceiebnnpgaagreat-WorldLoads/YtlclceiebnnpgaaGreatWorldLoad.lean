/- The contracts of slotsOf and Load of package world. -/
import Derived.Test.YtlclceiebnnpgaaGreatSlotLoad
import Derived.Test.YtlclceiebnnpgaaGreatWorldAdd
import Derived.Test.YtlclceiebnnpgaaGreatWLoadModel
import Derived.Test.YtlclceiebnnpgaaGreatGroundA
namespace Go.Proofs.YtlclceiebnnpgaaGreat
set_option maxRecDepth 8000
open Go.RowKit

set_option maxHeartbeats 2000000 in
theorem slotsOf_any (v : Value) (rs : List Rw) (w : World) (h : Reads elRow w v rs) (h60 : rs.length ≤ 60) :
    Calls Tryz.prog 12 #[v] w fun e w' => ∃ v', e = .returned v' ∧ OwnsF elInt w' w.heap.size 3 v' (sNums rs) ∧ Below w.heap.size w w' := by
  obtain ⟨i0, hi, hz0, hz1, hz2⟩ := info_parts infoInt
  obtain ⟨hm, hop⟩ := h.open
  have HEND := Lib.hid (gensTo_end (sloL rs))
  have HZ := Lib.hid (gensTo_zero (sloL rs))
  have HLEN := Lib.hid (gensTo_len (sloL rs))
  have HNX := Lib.hid (gensTo_next (sloL rs))
  have HSL := Lib.hid (fun k (hk : k < rs.length) => sloL_at hk)
  rw [sloL_len] at HEND HZ HLEN HNX
  rw [gensL_sloL] at HEND
  generalize hn : rs.length = n at *
  clear hn h
  rcases hop with ⟨a, cap, rfl, hz⟩ | ⟨b, off, cap, rfl, hb, hlc, hcm, hc⟩
  all_goals
    go_enter Tryz.func12, Tryz.ntmps12
    go_wp2_with (first | (at_make; refine wpList_make_full _ rfl _ _ 22 rfl w.heap.size 3 i0 (.int .i64 0) 1 Tryz.underlying22 hi hz0 hz1 .i64 .i64 _ _ n rfl rfl rfl rfl ?c1 ?c2 ?c3 ?_))
    case c1 => rw [hz2]; omega
    case c2 => unfold maxLen; omega
    case c3 => exact Nat.le_refl _
    intro w1 hown hgr
    have hb1 : Below w.heap.size w w1 := (Below.refl _ _).grown hgr (Nat.le_refl _) (fun k hk => by cases hk)
    clear hgr
    have HO : Hid (OwnsF elInt w1 w.heap.size 3 (.slice (some ⟨w.heap.size, 0, none⟩) n n) (gensTo (sloL rs) 0)) := Lib.hid (by
      unfold OwnsF; rw [HZ.out, List.length_replicate, flatMap_int, List.map_replicate, ← toList_madeCells_one, ← Nat.mul_one n]
      rw [Nat.mul_one]; exact hown)
    have HB1 := Lib.hid hb1
    clear hown hb1
    go_wp2
    go_loopw [11] (fun i wr => ∃ k : Nat, k ≤ n ∧ i = .int .i64 k ∧ Hid (OwnsF elInt wr w.heap.size 3 (.slice (some ⟨w.heap.size, 0, none⟩) n n) (gensTo (sloL rs) k)) ∧ Hid (Below w.heap.size w wr)) (fun i _ => n - (intOf i).toNat)
    case atStart => exact ⟨0, by omega, rfl, HO.out, HB1.out⟩
    case round =>
      obtain ⟨k, hk, rfl, hO, hB⟩ := hrel
      by_cases hltk : k < n
      · first
          | omega
          | (have hcr : ∀ jj, jj < 11 → wr.cell? ⟨b, off + k * 11 + jj, none⟩ = (elRow.enc (rs.getD k rowZ))[jj]? := fun jj hjj => by rw [hB.out.cell (p := ⟨b, _, none⟩) hb]; exact hc k hltk jj hjj
             clear hc
             have hln := HLEN.out k hk
             obtain ⟨hcg, hfg, hwr⟩ := hO.out.open1 rfl (k := k) (by omega)
             have HNXK := Lib.hid (HNX.out k hltk)
             rw [HSL.out k hltk] at HNXK
             have HST := Lib.hid (fun (W : World) (hW : OwnsF elInt W w.heap.size 3 (.slice (some ⟨w.heap.size, 0, none⟩) n n) (gensTo (sloL rs) k)) (z : Int) => hW.stored1 rfl k z (.int .i64 z) (by omega) rfl)
             clear hln
             have hbw : b < wr.heap.size := Nat.lt_of_lt_of_le hb hB.out.size
             generalize rs.getD k rowZ = r at *
             have c0 : wr.cell? ⟨b, off + k * 11, none⟩ = some (.int .i64 r.s) := hcr 0 (by decide)
             have c1 : wr.cell? ⟨b, off + k * 11 + 1, none⟩ = some (.int .i64 r.g) := hcr 1 (by decide)
             have c2 : wr.cell? ⟨b, off + k * 11 + 2, none⟩ = some (.int .i64 r.m) := hcr 2 (by decide)
             have c3 : wr.cell? ⟨b, off + k * 11 + 3, none⟩ = some (.int .i64 (r.f 0)) := hcr 3 (by decide)
             have c4 : wr.cell? ⟨b, off + k * 11 + 4, none⟩ = some (.int .i64 (r.f 1)) := hcr 4 (by decide)
             have c5 : wr.cell? ⟨b, off + k * 11 + 5, none⟩ = some (.int .i64 (r.f 2)) := hcr 5 (by decide)
             have c6 : wr.cell? ⟨b, off + k * 11 + 6, none⟩ = some (.int .i64 (r.f 3)) := hcr 6 (by decide)
             have c7 : wr.cell? ⟨b, off + k * 11 + 7, none⟩ = some (.int .i64 (r.f 4)) := hcr 7 (by decide)
             have c8 : wr.cell? ⟨b, off + k * 11 + 8, none⟩ = some (.int .i64 (r.f 5)) := hcr 8 (by decide)
             have c9 : wr.cell? ⟨b, off + k * 11 + 9, none⟩ = some (.int .i64 (r.f 6)) := hcr 9 (by decide)
             have c10 : wr.cell? ⟨b, off + k * 11 + 10, none⟩ = some (.int .i64 (r.f 7)) := hcr 10 (by decide)
             clear hcr
             go_wp2
             go_roundw
             case rel => exact ⟨k + 1, by omega, by go_num, by rw [← HNXK.out]; exact (HST.out _ hO.out r.s).later (nb_alloc (Below.refl _ _) _), nb_alloc (hB.out.setCell (p := ⟨w.heap.size, _, none⟩) (Nat.le_refl _) _) _⟩
             case measure => simp [intOf]; omega)
      · obtain rfl : k = n := by omega
        go_wp2
        go_ret
        exact ⟨_, rfl, by rw [← HEND.out]; exact hO.out, hB.out⟩

/-- A world of loaded slots, with no rows yet. -/
theorem WldAt.ofSlots {w : World} {p : Nat} {F : Nat → Prop} {l : List (Int × Bool)} (h : SlotsAt w p F l) : ∃ v, w.cell? ⟨p, 0, none⟩ = some v ∧ p < w.heap.size ∧
    WldAt (w.alloc (.cells #[v, .map none, .map none] 65)) w.heap.size (fun b => b = w.heap.size ∨ F b) l (fun _ => False) := by
  obtain ⟨v, hp, ho, hF, hv, hlt⟩ := h
  refine ⟨v, by rw [cell_of_row _ _ _ _ _ _ hp]; simp, hlt p hF, fun _ => -1, .map none, .map none, [], fun _ => 0, fun _ => [], [], fun _ => (0, 0), ⟨⟨v, heap_alloc_new w _, ho.later (nb_alloc (Below.refl _ _) _), ⟨.inl rfl, rfl⟩, fun k e => ⟨⟨.inr (hv k e).1, rfl⟩, fun e2 => by have := hlt k (hv k e).1; omega⟩, fun k e => ?_⟩, .inl ⟨rfl, rfl, rfl, rfl⟩, fun k hk => by simp at hk, Laid.nil _, fun b e => ?_⟩⟩
  · rcases e.1 with e | e
    · simp [e]
    · have := hlt k e; simp; omega
  · rcases e with e | e
    · simp [e]
    · have := hlt b e; simp; omega

def WLoadPost (w : World) (gens : List Int) (rs : List Rw) (e : Ending) (w' : World) : Prop :=
  ∃ u, e = .returned (.tuple #[u, .int .i64 (wldE gens rs)]) ∧ Below w.heap.size w w' ∧ (wldE gens rs ≠ 0 → u = .pointer none) ∧
    (wldE gens rs = 0 → ∃ p F, u = .pointer (some ⟨p, 0, none⟩) ∧ WldAt w' p F (mkL gens (sNums rs)) (· ∈ rs) ∧ ∀ k, F k → w.heap.size ≤ k)
theorem WLoadPost.bad {w w' : World} {gens : List Int} {rs : List Rw} {c : Int} (h : wldE gens rs = c) (hc : c ≠ 0) (hb : Below w.heap.size w w') : WLoadPost w gens rs (.returned (.tuple #[.pointer none, .int .i64 c])) w' :=
  ⟨_, by rw [h], hb, fun _ => rfl, fun e => absurd (h.symm.trans e) hc⟩

set_option maxHeartbeats 4000000 in
theorem worldLoad_any (u v : Value) (gens : List Int) (rs : List Rw) (w : World) (hg : Ints w u gens) (hr : Reads elRow w v rs) : Calls Tryz.prog 4 #[u, v] w (WLoadPost w gens rs) := by
  obtain ⟨hm, hop⟩ := hr.open
  unfold maxLen at hm
  have HR := Lib.hid hr
  have HG := Lib.hid hg
  obtain ⟨n, hn⟩ : ∃ n, rs.length = n := ⟨_, rfl⟩
  have HN := Lib.hid hn
  rw [hn] at hm hop
  clear hr hg hn
  by_cases h60 : n ≤ 60
  · have h60' : decide ((60 : Int) < (n : Int)) = false := by rw [decide_eq_false_iff_not]; omega
    have HW60 : Hid (wldE gens rs = if ldE gens (sNums rs) = 0 then rowsE (mkL gens (sNums rs)) rs else ldE gens (sNums rs)) := Lib.hid (by rw [wldE, HN.out, if_pos h60])
    have HV : Hid (Reads elRow w v rs) := HR
    rcases hop with ⟨a, cap, rfl, hz⟩ | ⟨b, off, cap, rfl, hb, hlc, hcm, hc⟩
    all_goals
      go_enter Tryz.func4, Tryz.ntmps4
      go_wp2_with fail
      refine (slotsOf_any _ rs _ HR.out (by rw [HN.out]; exact h60)).mono ?_
      rintro e w1 ⟨v1, rfl, ho1, hb1⟩
      have HO1 := Lib.hid (Ints.ofReads ho1.reads)
      have HB1 := Lib.hid hb1
      clear ho1 hb1
      go_wp2_with fail
      refine (load_any _ _ gens (sNums rs) _ (HG.out.later HB1.out) HO1.out).mono ?_
      rintro e w2 ⟨u2, rfl, hb2, hbad, hgood⟩
      have HB2 := Lib.hid (nb_trans HB1.out hb2)
      obtain ⟨x, hx⟩ : ∃ x, ldE gens (sNums rs) = x := ⟨_, rfl⟩
      rw [hx] at hbad hgood HW60 ⊢
      by_cases h0 : x = 0
      · subst h0
        rw [if_pos rfl] at HW60
        obtain ⟨p0, F0, rfl, hs0, hF0⟩ := hgood rfl
        obtain ⟨v0, hc0, hp0, hw0⟩ := WldAt.ofSlots hs0
        have HF0 : Hid (∀ b, b = w2.heap.size ∨ F0 b → w.heap.size ≤ b) := Lib.hid (fun b e => by
          rcases e with e | e
          · have := HB2.out.size; omega
          · have := hF0 b e; have := HB1.out.size; omega)
        have HLOK : Hid (SlotOk (mkL gens (sNums rs))) := Lib.hid (mkL_ok hx)
        have HND := Lib.hid (ldE_zero hx)
        obtain ⟨l, hll⟩ : ∃ l, mkL gens (sNums rs) = l := ⟨_, rfl⟩
        rw [hll] at hw0 HLOK HW60
        have HLL := Lib.hid hll
        clear hll
        have HW0 := Lib.hid hw0
        clear hs0
        have HBA : Hid (Below w.heap.size w (w2.alloc (.cells #[v0, .map none, .map none] 65))) := Lib.hid (nb_alloc HB2.out _)
        clear hx hbad hgood hF0 hw0 hb2
        go_wp2
        clear hc0 hp0
        generalize hpn : w2.heap.size = pn at *
        clear hpn
        generalize w2.alloc (.cells #[v0, .map none, .map none] 65) = w3 at *
        go_loopw [32] (fun i wr => ∃ (t : Nat) (F : Nat → Prop), t ≤ n ∧ i = .int .i64 t ∧ Hid (WldAt wr pn F l (· ∈ rs.take t)) ∧ Hid (∀ x ∈ rs.take t, goodR l x) ∧ Hid (∀ b, F b → w.heap.size ≤ b) ∧ Hid (Below w.heap.size w wr)) (fun i _ => n - (intOf i).toNat)
        case atStart => exact ⟨0, _, by omega, rfl, HW0.out.congr (fun r => by simp), fun x hx => by simp at hx, HF0, HBA⟩
        case round =>
          obtain ⟨t, F, htn, rfl, hW, hGd, hF, hB⟩ := hrel
          by_cases hlt : t < n
          · first
              | omega
              | (have hcr : ∀ jj, jj < 11 → wr.cell? ⟨b, off + t * 11 + jj, none⟩ = (elRow.enc (rs.getD t rowZ))[jj]? := fun jj hjj => by rw [hB.out.cell (p := ⟨b, _, none⟩) hb]; exact hc t hlt jj hjj
                 have htl : t < rs.length := by rw [HN.out]; exact hlt
                 have HRT : Hid (rs.getD t rowZ = rs.getD t rowZ) := Lib.hid rfl
                 have HDE := Lib.hid (fun h => rowsE_dead (l := l) hGd.out htl rfl h)
                 have HBE := Lib.hid (fun h hb => rowsE_bad (l := l) hGd.out htl rfl h hb)
                 have HNX := Lib.hid (fun h => good_next (l := l) hGd.out htl rfl h)
                 have HNE := Lib.hid (new_handle HND.out htl rfl)
                 clear hc
                 generalize rs.getD t rowZ = r at *
                 have hbw : b < wr.heap.size := Nat.lt_of_lt_of_le hb hB.out.size
                 have c0 : wr.cell? ⟨b, off + t * 11, none⟩ = some (.int .i64 r.s) := hcr 0 (by decide)
                 have c1 : wr.cell? ⟨b, off + t * 11 + 1, none⟩ = some (.int .i64 r.g) := hcr 1 (by decide)
                 have c2 : wr.cell? ⟨b, off + t * 11 + 2, none⟩ = some (.int .i64 r.m) := hcr 2 (by decide)
                 have c3 : wr.cell? ⟨b, off + t * 11 + 3, none⟩ = some (.int .i64 (r.f 0)) := hcr 3 (by decide)
                 have c4 : wr.cell? ⟨b, off + t * 11 + 4, none⟩ = some (.int .i64 (r.f 1)) := hcr 4 (by decide)
                 have c5 : wr.cell? ⟨b, off + t * 11 + 5, none⟩ = some (.int .i64 (r.f 2)) := hcr 5 (by decide)
                 have c6 : wr.cell? ⟨b, off + t * 11 + 6, none⟩ = some (.int .i64 (r.f 3)) := hcr 6 (by decide)
                 have c7 : wr.cell? ⟨b, off + t * 11 + 7, none⟩ = some (.int .i64 (r.f 4)) := hcr 7 (by decide)
                 have c8 : wr.cell? ⟨b, off + t * 11 + 8, none⟩ = some (.int .i64 (r.f 5)) := hcr 8 (by decide)
                 have c9 : wr.cell? ⟨b, off + t * 11 + 9, none⟩ = some (.int .i64 (r.f 6)) := hcr 9 (by decide)
                 have c10 : wr.cell? ⟨b, off + t * 11 + 10, none⟩ = some (.int .i64 (r.f 7)) := hcr 10 (by decide)
                 clear hcr
                 have hwa : Below wr.heap.size wr (wr.alloc (.cells #[.int .i64 r.s, .int .i64 r.g, .int .i64 r.m, .int .i64 (r.f 0), .int .i64 (r.f 1), .int .i64 (r.f 2), .int .i64 (r.f 3), .int .i64 (r.f 4), .int .i64 (r.f 5), .int .i64 (r.f 6), .int .i64 (r.f 7)] 45)) := nb_alloc (Below.refl _ _) _
                 have HWA := Lib.hid hwa
                 have hA : (wr.alloc (.cells #[.int .i64 r.s, .int .i64 r.g, .int .i64 r.m, .int .i64 (r.f 0), .int .i64 (r.f 1), .int .i64 (r.f 2), .int .i64 (r.f 3), .int .i64 (r.f 4), .int .i64 (r.f 5), .int .i64 (r.f 6), .int .i64 (r.f 7)] 45)).heap[wr.heap.size]? = some (.cells #[.int .i64 r.s, .int .i64 r.g, .int .i64 r.m, .int .i64 (r.f 0), .int .i64 (r.f 1), .int .i64 (r.f 2), .int .i64 (r.f 3), .int .i64 (r.f 4), .int .i64 (r.f 5), .int .i64 (r.f 6), .int .i64 (r.f 7)] 45) := heap_alloc_new _ _
                 have HA := Lib.hid hA
                 have hpl : pn < wr.heap.size := hW.out.lt pn hW.out.at_
                 go_wp2_with fail
                 generalize wr.alloc (.cells #[.int .i64 r.s, .int .i64 r.g, .int .i64 r.m, .int .i64 (r.f 0), .int .i64 (r.f 1), .int .i64 (r.f 2), .int .i64 (r.f 3), .int .i64 (r.f 4), .int .i64 (r.f 5), .int .i64 (r.f 6), .int .i64 (r.f 7)] 45) = W at *
                 clear c0 c1 c2 c3 c4 c5 c6 c7 c8 c9 c10 hwa
                 have HWW := Lib.hid (hW.out.later HWA.out)
                 have HLV : Hid (∀ y : Later W, Calls Tryz.prog 13 #[.pointer (some ⟨pn, 0, none⟩), .agg #[.int .i64 r.s, .int .i64 r.g]] y.w fun e w' => e = .returned (.bool (liveB l r.s r.g)) ∧ Below y.w.heap.size y.w w') := Lib.hid (fun y => by
                   obtain ⟨c, tm, pm, ks, tb, tr, hk, pl, hwi⟩ := HWW.out.later y.below
                   exact live_any pn _ l r.s r.g _ hwi.slots)
                 have q0 : ∀ y : Later W, y.w.cell? ⟨wr.heap.size, 0, none⟩ = some (.int .i64 r.s) := fun y => y.cell (by rw [cell_of_row _ _ _ _ _ _ hA]; rfl)
                 have q1 : ∀ y : Later W, y.w.cell? ⟨wr.heap.size, 1, none⟩ = some (.int .i64 r.g) := fun y => y.cell (by rw [cell_of_row _ _ _ _ _ _ hA]; rfl)
                 clear hA
                 cases hlv : liveB l r.s r.g
                 · rw [hlv] at HLV
                   have HEE := Lib.hid (HDE.out hlv)
                   refine wp_region_later (by kernel_rfl) (by kernel_rfl) ?_
                   repeat (go_big_quiet_step ((first | (go_at_call 13; exact Calls.later (HLV.out _)))))
                   refine wpQuiet_nil ?_
                   rintro _ ⟨nq, rfl⟩
                   have HBN := Lib.hid (nb_trans (nb_trans hB.out HWA.out) nq.below)
                   go_wp2
                   go_ret2
                   exact WLoadPost.bad (by rw [HW60.out, HEE.out]) (by decide) HBN.out
                 · rw [hlv] at HLV
                   have HEB := Lib.hid (fun hb => HBE.out hlv hb)
                   have HOKR := Lib.hid (live_I64 HLOK.out hlv)
                   have HGR := Lib.hid (fun hb => HNX.out ⟨hlv, hb⟩)
                   refine wp_region_later (by kernel_rfl) (by kernel_rfl) ?_
                   repeat (go_big_quiet_step ((first | (go_at_call 13; exact Calls.later (HLV.out _)))))
                   refine wpQuiet_nil ?_
                   rintro _ ⟨nq, rfl⟩
                   have HNQ := Lib.hid nq.below
                   clear q0 q1
                   generalize nq.w = Y at *
                   have hY : Y.heap[wr.heap.size]? = some (.cells #[.int .i64 r.s, .int .i64 r.g, .int .i64 r.m, .int .i64 (r.f 0), .int .i64 (r.f 1), .int .i64 (r.f 2), .int .i64 (r.f 3), .int .i64 (r.f 4), .int .i64 (r.f 5), .int .i64 (r.f 6), .int .i64 (r.f 7)] 45) := by rw [HNQ.out.block _ (Array.getElem?_eq_some_iff.1 HA.out).1]; exact HA.out
                   have hYl := (Array.getElem?_eq_some_iff.1 hY).1
                   have k0 : Y.cell? ⟨wr.heap.size, 0, none⟩ = some (.int .i64 r.s) := by rw [cell_of_row _ _ _ _ _ _ hY]; rfl
                   have k1 : Y.cell? ⟨wr.heap.size, 1, none⟩ = some (.int .i64 r.g) := by rw [cell_of_row _ _ _ _ _ _ hY]; rfl
                   have k2 : Y.cell? ⟨wr.heap.size, 2, none⟩ = some (.int .i64 r.m) := by rw [cell_of_row _ _ _ _ _ _ hY]; rfl
                   have k3 : Y.cell? ⟨wr.heap.size, 3, none⟩ = some (.int .i64 (r.f 0)) := by rw [cell_of_row _ _ _ _ _ _ hY]; rfl
                   have k4 : Y.cell? ⟨wr.heap.size, 4, none⟩ = some (.int .i64 (r.f 1)) := by rw [cell_of_row _ _ _ _ _ _ hY]; rfl
                   have k5 : Y.cell? ⟨wr.heap.size, 5, none⟩ = some (.int .i64 (r.f 2)) := by rw [cell_of_row _ _ _ _ _ _ hY]; rfl
                   have k6 : Y.cell? ⟨wr.heap.size, 6, none⟩ = some (.int .i64 (r.f 3)) := by rw [cell_of_row _ _ _ _ _ _ hY]; rfl
                   have k7 : Y.cell? ⟨wr.heap.size, 7, none⟩ = some (.int .i64 (r.f 4)) := by rw [cell_of_row _ _ _ _ _ _ hY]; rfl
                   have k8 : Y.cell? ⟨wr.heap.size, 8, none⟩ = some (.int .i64 (r.f 5)) := by rw [cell_of_row _ _ _ _ _ _ hY]; rfl
                   have k9 : Y.cell? ⟨wr.heap.size, 9, none⟩ = some (.int .i64 (r.f 6)) := by rw [cell_of_row _ _ _ _ _ _ hY]; rfl
                   have k10 : Y.cell? ⟨wr.heap.size, 10, none⟩ = some (.int .i64 (r.f 7)) := by rw [cell_of_row _ _ _ _ _ _ hY]; rfl
                   have HY := Lib.hid hY
                   clear hY
                   go_wp2_with fail
                   refine (checkBeast_any _ _ _ _ _ _ _ _ _ _).mono ?_
                   rintro e w5 ⟨rfl, hw5⟩
                   have HB5 : Hid (Below Y.heap.size Y w5) := Lib.hid (by rw [← hw5]; exact nb_alloc (Below.refl _ _) _)
                   have hY5 : w5.heap[wr.heap.size]? = some (.cells #[.int .i64 r.s, .int .i64 r.g, .int .i64 r.m, .int .i64 (r.f 0), .int .i64 (r.f 1), .int .i64 (r.f 2), .int .i64 (r.f 3), .int .i64 (r.f 4), .int .i64 (r.f 5), .int .i64 (r.f 6), .int .i64 (r.f 7)] 45) := by rw [HB5.out.block _ hYl]; exact HY.out
                   clear hw5 k0 k1 k2 k3 k4 k5 k6 k7 k8 k9 k10
                   have hYl5 := (Array.getElem?_eq_some_iff.1 hY5).1
                   obtain ⟨be, hbe⟩ : ∃ be, bErr r.m [r.f 0, r.f 1, r.f 2, r.f 3, r.f 4, r.f 5, r.f 6, r.f 7] = be := ⟨_, rfl⟩
                   rw [hbe]
                   by_cases hb0 : be = 0
                   · subst hb0
                     have k0 : w5.cell? ⟨wr.heap.size, 0, none⟩ = some (.int .i64 r.s) := by rw [cell_of_row _ _ _ _ _ _ hY5]; rfl
                     have k1 : w5.cell? ⟨wr.heap.size, 1, none⟩ = some (.int .i64 r.g) := by rw [cell_of_row _ _ _ _ _ _ hY5]; rfl
                     have k2 : w5.cell? ⟨wr.heap.size, 2, none⟩ = some (.int .i64 r.m) := by rw [cell_of_row _ _ _ _ _ _ hY5]; rfl
                     have k3 : w5.cell? ⟨wr.heap.size, 3, none⟩ = some (.int .i64 (r.f 0)) := by rw [cell_of_row _ _ _ _ _ _ hY5]; rfl
                     have k4 : w5.cell? ⟨wr.heap.size, 4, none⟩ = some (.int .i64 (r.f 1)) := by rw [cell_of_row _ _ _ _ _ _ hY5]; rfl
                     have k5 : w5.cell? ⟨wr.heap.size, 5, none⟩ = some (.int .i64 (r.f 2)) := by rw [cell_of_row _ _ _ _ _ _ hY5]; rfl
                     have k6 : w5.cell? ⟨wr.heap.size, 6, none⟩ = some (.int .i64 (r.f 3)) := by rw [cell_of_row _ _ _ _ _ _ hY5]; rfl
                     have k7 : w5.cell? ⟨wr.heap.size, 7, none⟩ = some (.int .i64 (r.f 4)) := by rw [cell_of_row _ _ _ _ _ _ hY5]; rfl
                     have k8 : w5.cell? ⟨wr.heap.size, 8, none⟩ = some (.int .i64 (r.f 5)) := by rw [cell_of_row _ _ _ _ _ _ hY5]; rfl
                     have k9 : w5.cell? ⟨wr.heap.size, 9, none⟩ = some (.int .i64 (r.f 6)) := by rw [cell_of_row _ _ _ _ _ _ hY5]; rfl
                     have k10 : w5.cell? ⟨wr.heap.size, 10, none⟩ = some (.int .i64 (r.f 7)) := by rw [cell_of_row _ _ _ _ _ _ hY5]; rfl
                     have HBEE := Lib.hid hbe
                     have HW5 := Lib.hid (HWW.out.later (nb_trans HNQ.out HB5.out))
                     clear hbe hY5
                     go_wp2_with fail
                     refine (worldAdd_any pn F l _ r _ HW5.out HBEE.out (fun x hx e => HNE.out x hx (by have := congrArg Prod.fst e; exact this)) HOKR.out ⟨rs.take t, by rw [List.length_take, HN.out]; omega, fun _ h => h⟩).mono ?_
                     rintro e w6 ⟨rfl, F6, h6, hk6, hm6⟩
                     have HB6 : Hid (Below w.heap.size w w5) := Lib.hid (nb_trans (nb_trans (nb_trans hB.out HWA.out) HNQ.out) HB5.out)
                     have HNXT : Hid (WldAt w6 pn F6 l (· ∈ rs.take (t + 1)) ∧ (∀ x ∈ rs.take (t + 1), goodR l x) ∧ (∀ b, F6 b → w.heap.size ≤ b) ∧ Below w.heap.size w w6) := Lib.hid (by
                       obtain ⟨g1, g2⟩ := HGR.out HBEE.out
                       exact ⟨h6.congr (fun y => (g2 y).symm), g1, hm6.above HB6.out.size hF.out, HB6.out.trans (hk6.below HB6.out.size hF.out)⟩)
                     clear h6 hk6 hm6 k0 k1 k2 k3 k4 k5 k6 k7 k8 k9 k10
                     go_wp2
                     go_roundw
                     case rel => exact ⟨t + 1, F6, by omega, by go_num, HNXT.out.1, HNXT.out.2.1, HNXT.out.2.2.1, HNXT.out.2.2.2⟩
                     case measure => simp [intOf]; omega
                   · have hne : (be != 0) = true := by simpa using hb0
                     have HEE := Lib.hid (HEB.out (by rw [hbe]; exact hb0))
                     rw [hbe] at HEE
                     have HBN := Lib.hid (nb_trans (nb_trans (nb_trans hB.out HWA.out) HNQ.out) HB5.out)
                     have HNE0 := Lib.hid hb0
                     clear hbe hY5 hb0
                     go_wp2
                     go_ret2
                     exact WLoadPost.bad (by rw [HW60.out, HEE.out]) HNE0.out HBN.out)
          · obtain rfl : t = n := by omega
            have HALL : Hid (rs.take t = rs) := Lib.hid (by rw [List.take_of_length_le (by rw [HN.out]; exact Nat.le_refl _)])
            rw [HALL.out] at hW hGd
            have HEE := Lib.hid (rowsE_ok hGd.out)
            go_wp2
            go_ret2
            exact ⟨.pointer (some ⟨pn, 0, none⟩), by rw [HW60.out, HEE.out]; rfl, hB.out, fun h => absurd (by rw [HW60.out, HEE.out]) h, fun _ => ⟨pn, F, rfl, by rw [HLL.out]; exact hW.out, hF.out⟩⟩
      · rw [if_neg h0] at HW60
        obtain rfl := hbad h0
        have hne : (x != 0) = true := by simpa using h0
        have H0 := Lib.hid h0
        clear hx hbad hgood h0 hb2
        go_wp2
        go_ret2
        exact WLoadPost.bad HW60.out H0.out HB2.out
  · have h60' : decide ((60 : Int) < (n : Int)) = true := by rw [decide_eq_true_iff]; omega
    have HW60 : Hid (wldE gens rs = 2) := Lib.hid (by rw [wldE, HN.out, if_neg h60])
    rcases hop with ⟨a, cap, rfl, hz⟩ | ⟨b, off, cap, rfl, hb, hlc, hcm, hc⟩
    all_goals
      go_enter Tryz.func4, Tryz.ntmps4
      go_wp2
      go_ret2
      exact WLoadPost.bad HW60.out (by decide) (Below.refl _ _)
end Go.Proofs.YtlclceiebnnpgaaGreat

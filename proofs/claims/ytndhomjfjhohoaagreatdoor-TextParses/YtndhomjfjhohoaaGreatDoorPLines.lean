
/- The iterator over the lines of a state. -/
import Derived.RangeFuncNested
import Derived.RangeFuncBound
import Derived.RangeFuncCalls
import Derived.RangeFuncLeaves
import Derived.Shelf.Abstract
import Derived.Shelf.RegionOpen
import Derived.WalkKit
import Derived.OwnWalkIn
import Derived.TacticsInMore
import Derived.LoopNIn
import Derived.LoopIn
import Derived.BigRegionIn
import Derived.Test.YtndhomjfjhohoaaGreatDoorPText
import Derived.Test.YtndhomjfjhohoaaGreatDoorGroundH
namespace Go.Proofs.YtndhomjfjhohoaaGreatDoor
set_option maxRecDepth 100000
open Go.RowKit Go.Shelf
attribute [local go_sem] Oper.semAt_some

/-- a line that is not too long -/
abbrev Ln := { x : List UInt8 // x.length ≤ 2000 }
def lnOf (l : List Ln) : List (List UInt8) := l.map (·.1)
theorem lnOf_snoc (l : List Ln) (x : Ln) : lnOf (l ++ [x]) = lnOf l ++ [x.1] := by simp [lnOf]
/-- A round keeps what lay below n0, and block q. -/
def KpL (n0 q : Nat) (W W' : World) : Prop := Below n0 W W' ∧ W'.heap[q]? = W.heap[q]?
theorem KpL.trans {n0 q : Nat} {A B C : World} (h : KpL n0 q A B) (k : KpL n0 q B C) : KpL n0 q A C := ⟨h.1.trans k.1, k.2.trans h.2⟩
theorem KpL.refl (n0 q : Nat) (W : World) : KpL n0 q W W := ⟨Below.refl _ _, rfl⟩
theorem KpL.later {n0 q : Nat} {W W' : World} (hn : n0 ≤ W.heap.size) (hq : q < W.heap.size) (h : Below W.heap.size W W') : KpL n0 q W W' := ⟨h.mono hn, h.block q hq⟩
theorem KpL.put {n0 q : Nat} {w : World} (hn : n0 ≤ w.heap.size) (hq : q < w.heap.size) (W : World) (l : Nat) (o o' : Obj) (hl : w.heap.size ≤ l) (ho : W.heap[l]? = some o) (hc : o.isCells = false) (hw : o.isWalk = false) : KpL n0 q W (W.putObj l o') := by
  refine ⟨belowK_b (w := w) hn W l o o' hl ho hc hw, ?_⟩
  have hlt := (Array.getElem?_eq_some_iff.1 ho).1
  exact (grownBy_putObj' W l o').block q (by omega) (fun e => by simp only [Option.some.injEq] at e; omega)
theorem abidesL {β : Type} {B : Nat} {J : β → World → Prop} (h : AbidesFrom B J) {s : β} {W W' : World} (hs : J s W) (hb : Below W.heap.size W W') : J s W' :=
  h s W W' none hs ⟨hb.os, hb.tape, hb.output, hb.size, fun k hk _ => hb.block k hk⟩ (fun r e => by cases e)
theorem rowLn_len {r : Rw} (h : FineR r) : (rowLn r).length ≤ 2000 := by
  have h1 := lnW_len rowW (ns := [r.s, r.g]) (by intro n hn; simp at hn; rcases hn with rfl | rfl; exact h.1.i64; exact h.2.1.i64)
  have h2 := kvs_len (f := r.f) (ks := kinds r.m) (fun k hk => by
    obtain ⟨j, hj, rfl, -⟩ := mem_kindsTo.1 hk
    exact ⟨⟨by omega, by omega⟩, by rw [Int.toNat_natCast]; exact (h.2.2.2 j hj).1.i64⟩)
  have h3 := kindsTo_len r.m 8
  have h3 : (kinds r.m).length ≤ 8 := h3
  have e3 : rowW.length = 3 := rfl
  simp only [List.length_cons, List.length_nil, e3] at h1
  rw [rowLn, List.length_append]
  omega
theorem FineB.i64 {b : Bd} (h : FineB b) : ∀ n ∈ [b.1.1, b.1.2, b.2.1, b.2.2], I64 n := by
  intro n hn; simp at hn; rcases hn with rfl | rfl | rfl | rfl
  · exact h.1.i64
  · exact h.2.1.i64
  · exact h.2.2.1.i64
  · exact h.2.2.2.i64
theorem bondLn_len {b : Bd} (h : FineB b) : (bondLn b).length ≤ 2000 := by
  have := lnW_len bondW h.i64
  simp [bondW] at this
  exact Nat.le_trans this (by omega)

set_option maxHeartbeats 4000000 in
theorem lines1_in (n : Nat) (hn : 1 ≤ n) (l q n1 : Nat) (vg vr vb : Value) (gens : List Int) (rs : List Rw) (bds : List Bd) (w0 : World) (J Jx : List Ln → World → Prop)
    (hY : ∀ pre x W, J pre W → pre.length < 1 + rs.length + bds.length → YieldAt Fence.wide (n - 1) Tryz.prog l #[.string (bs x.1)] W fun e W' =>
      (e = .returned (.bool true) ∧ J (pre ++ [x]) W' ∧ KpL w0.heap.size q W W') ∨ (e = .returned (.bool false) ∧ Jx (pre ++ [x]) W'))
    (hJ : AbidesFrom n1 J) (W : World) (hq : W.heap[q]? = some (.cells #[vg, vr, vb] 26)) (hW : Below w0.heap.size w0 W) (hg : Ints w0 vg gens) (hr : Reads elRow w0 vr rs) (hb : Reads elBond w0 vb bds) (hf : Fine gens rs bds) (hgl : gens.length ≤ 60) (hv : VarsIs w0) (h0 : J [] W) :
    CallsIn Fence.wide n Tryz.prog 60 #[.func (.yield l) #[] #[], .pointer (some ⟨q, 0, none⟩)] W fun e W' => (∃ v, e = .returned v) ∧
      ((∃ zs, lnOf zs = lnsT gens rs bds ∧ J zs W') ∨ (∃ pre, True ∧ Jx pre W')) := by
  have hql := (Array.getElem?_eq_some_iff.1 hq).1
  have HQ : Hid (∀ Y, KpL w0.heap.size q W Y → Y.heap[q]? = some (.cells #[vg, vr, vb] 26) ∧ Below w0.heap.size w0 Y) := Lib.hid (fun Y hY => ⟨hY.2.trans hq, hW.trans hY.1⟩)
  have HY := Lib.hid hY
  have HJ := Lib.hid hJ
  have HF := Lib.hid hf
  have HV := Lib.hid hv
  have HG := Lib.hid (withNumbers_any gensW vg gens W (hg.later hW) (fun n hn => (hf.gi n hn).i64) (by simp [gensW]; omega) (hv.later hW))
  obtain ⟨G, hG⟩ : ∃ G, lnW gensW gens = G := ⟨_, rfl⟩
  have hGl : G.length ≤ 2000 := by
    have := lnW_len gensW (ns := gens) (fun n hn => (hf.gi n hn).i64)
    rw [hG] at this; simp [gensW] at this; omega
  rw [hG] at HG
  have HGG := Lib.hid hG
  obtain ⟨ra, rc, rfl, hrlc, hrm, hrc⟩ := hr
  obtain ⟨ba, bc, rfl, hblc, hbm, hbc⟩ := hb
  have HRC := Lib.hid hrc
  have HBC := Lib.hid hbc
  unfold maxLen at hrm hbm
  generalize hN1 : rs.length = N1 at *
  generalize hN2 : bds.length = N2 at *
  have HN1 := Lib.hid hN1
  have HN2 := Lib.hid hN2
  have c0 : W.cell? ⟨q, 0, none⟩ = some vg := by rw [cell_of_row _ _ _ _ _ _ hq]; rfl
  have hnW : w0.heap.size ≤ W.heap.size := hW.size
  clear hY hJ hf hv hG hrc hbc hN1 hN2 hg hq
  refine callsIn_of_wp Tryz.func60 rfl trivial ?_ rfl
  simp only [Tryz.ntmps60, List.size_toArray, List.length_cons, List.length_nil, Nat.reduceAdd, Nat.reduceSub, Array.replicate_succ, Array.replicate_zero, List.push_toArray, List.append_toArray, List.nil_append, List.cons_append]
  gi_wp2_with (refine ⟨trivial, ?_⟩; gi_at_call 61; refine (callsIn_wide.2 HG.out).mono ?_; rintro e W1 ⟨rfl, hb1⟩; refine Hid.out ?_)
  refine Lib.hid ?_
  have hJ1 := abidesL HJ.out h0 hb1
  have hk1 : KpL w0.heap.size q W W1 := KpL.later hnW hql hb1
  obtain ⟨fn, tmps, assign, body, hy, hRd⟩ := HY.out [] ⟨G, hGl⟩ W1 hJ1 (by simp; omega)
  dsimp only [bs] at hy
  clear c0 h0 HG
  gi_wp2
  refine hRd.mono ?_
  rintro e W2 (⟨rfl, hJ2, hk2⟩ | ⟨rfl, hJx2⟩)
  · have HJ2 := Lib.hid hJ2
    have HK2 := Lib.hid (hk1.trans hk2)
    obtain ⟨hq2, hw2⟩ := HQ.out W2 HK2.out
    have hq2l := (Array.getElem?_eq_some_iff.1 hq2).1
    have c1 : W2.cell? ⟨q, 1, none⟩ = some (.slice ra N1 rc) := by rw [cell_of_row _ _ _ _ _ _ hq2]; rfl
    clear hy hRd hJ1 hk1 hk2 hJ2 hq2 hw2 hb1
    gi_wp2
    clear c1
    gi_loopw [16] (fun i wr => ∃ (k : Nat) (pre : List Ln), k ≤ N1 ∧ i = .int .i64 k ∧ Hid (lnOf pre = G :: (rs.take k).map rowLn) ∧ Hid (J pre wr) ∧ Hid (KpL w0.heap.size q W wr)) (fun i _ => N1 - (intOf i).toNat)
    case atStart => exact ⟨0, [⟨G, hGl⟩], by omega, by go_num, Lib.hid rfl, HJ2, HK2⟩
    case round =>
      obtain ⟨k, pre, hk, rfl, hp, hJp, hK⟩ := hrel
      obtain ⟨hqr, hwr⟩ := HQ.out wr hK.out
      have hqrl := (Array.getElem?_eq_some_iff.1 hqr).1
      have HWR := Lib.hid hwr
      by_cases hlt : k < N1
      · obtain ⟨b, off, rfl, hb, hck⟩ := HRC.out k hlt
        obtain ⟨y, hy⟩ : ∃ y, rs.getD k rowZ = y := ⟨_, rfl⟩
        have hkl : k < rs.length := by rw [HN1.out]; exact hlt
        have hym : y ∈ rs := by rw [← hy, List.getD_eq_getElem?_getD, List.getElem?_eq_getElem hkl]; exact List.getElem_mem hkl
        have HT : Hid (rs.take (k + 1) = rs.take k ++ [y]) := Lib.hid (by rw [← hy, List.getD_eq_getElem?_getD, List.getElem?_eq_getElem hkl, List.take_add_one, List.getElem?_eq_getElem hkl]; rfl)
        have hcr : ∀ j, j < 11 → wr.cell? ⟨b, off + k * 11 + j, none⟩ = (elRow.enc y)[j]? := fun j hj => by rw [← hy, hwr.cell (p := ⟨b, off + k * 11 + j, none⟩) hb]; exact hck j hj
        have hbw : b < wr.heap.size := Nat.lt_of_lt_of_le hb hwr.size
        have hfy := HF.out.ri y hym
        clear hy hck hym
        obtain ⟨c0, c1, c2, c3, c4, c5, c6, c7, c8, c9, c10⟩ := lRow (O := off + k * 11) (r := y) hcr
        have HA : Hid (Below wr.heap.size wr (wr.alloc (.cells #[.int .i64 y.s, .int .i64 y.g, .int .i64 y.m, .int .i64 (y.f 0), .int .i64 (y.f 1), .int .i64 (y.f 2), .int .i64 (y.f 3), .int .i64 (y.f 4), .int .i64 (y.f 5), .int .i64 (y.f 6), .int .i64 (y.f 7)] 54))) := Lib.hid (nb_alloc (Below.refl _ _) _)
        have HRL := Lib.hid (rowLine_any y (wr.alloc (.cells #[.int .i64 y.s, .int .i64 y.g, .int .i64 y.m, .int .i64 (y.f 0), .int .i64 (y.f 1), .int .i64 (y.f 2), .int .i64 (y.f 3), .int .i64 (y.f 4), .int .i64 (y.f 5), .int .i64 (y.f 6), .int .i64 (y.f 7)] 54)) ⟨hfy.1.i64, hfy.2.1.i64, fun j hj => (hfy.2.2.2 j hj).1.i64⟩ (HV.out.later (hwr.trans (HA.out.mono hwr.size))))
        obtain ⟨L, hL⟩ : ∃ L, rowLn y = L := ⟨_, rfl⟩
        have hLl : L.length ≤ 2000 := by rw [← hL]; exact rowLn_len hfy
        rw [hL] at HRL
        have HL := Lib.hid hL
        have HLL := Lib.hid hLl
        have hpl : pre.length = k + 1 := by
          have := congrArg List.length hp.out
          simp [lnOf] at this; omega
        have HPL := Lib.hid hpl
        clear hfy hL hLl hpl hqr hwr hcr
        gi_wp2_with (refine ⟨trivial, ?_⟩; gi_at_call 62; refine (callsIn_wide.2 HRL.out).mono ?_; rintro e W3 ⟨rfl, hb3⟩; refine Hid.out ?_)
        refine Lib.hid ?_
        have hb3' : Below wr.heap.size wr W3 := nb_trans HA.out hb3
        have hJ3 := abidesL HJ.out hJp.out hb3'
        have hk3 : KpL w0.heap.size q W W3 := hK.out.trans (KpL.later HWR.out.size hqrl hb3')
        obtain ⟨fn, tmps, assign, body, hy, hRd⟩ := HY.out pre ⟨L, HLL.out⟩ W3 hJ3 (by have := HPL.out; omega)
        dsimp only [bs] at hy
        have HK3 := Lib.hid hk3
        clear c0 c1 c2 c3 c4 c5 c6 c7 c8 c9 c10 hb3 hb3' hJ3 hk3
        gi_wp2
        refine hRd.mono ?_
        rintro e W4 (⟨rfl, hJ4, hk4⟩ | ⟨rfl, hJx4⟩)
        · have HJ4 := Lib.hid hJ4
          have HK4 := Lib.hid (HK3.out.trans hk4)
          have HP4 : Hid (lnOf (pre ++ [⟨L, HLL.out⟩]) = G :: (rs.take (k + 1)).map rowLn) := Lib.hid ((lnOf_snoc _ _).trans (by show lnOf pre ++ [L] = _; rw [hp.out, HT.out, List.map_append, ← HL.out]; rfl))
          clear hy hRd hJ4 hk4
          gi_wp2
          go_roundw
          case rel => exact ⟨k + 1, _, by omega, by go_num, HP4, HJ4, HK4⟩
          case measure => simp [intOf]; omega
        · gi_wp2
          refine bodyPost_ret (results_none rfl _ _ _) rfl ?_
          exact ⟨⟨_, rfl⟩, .inr ⟨_, trivial, hJx4⟩⟩
      · have HPA : Hid (lnOf pre = G :: (rs.map rowLn ++ (bds.take 0).map bondLn)) := Lib.hid (by rw [hp.out, List.take_of_length_le (by rw [HN1.out]; omega)]; simp)
        obtain rfl : N1 = k := by omega
        have c2 : wr.cell? ⟨q, 2, none⟩ = some (.slice ba N2 bc) := by rw [cell_of_row _ _ _ _ _ _ hqr]; rfl
        clear hqr hp hwr
        gi_wp2
        clear c2
        gi_loopw [29] (fun i xr => ∃ (t : Nat) (pre : List Ln), t ≤ N2 ∧ i = .int .i64 t ∧ Hid (lnOf pre = G :: (rs.map rowLn ++ (bds.take t).map bondLn)) ∧ Hid (J pre xr) ∧ Hid (KpL w0.heap.size q W xr)) (fun i _ => N2 - (intOf i).toNat)
        case atStart => exact ⟨0, pre, by omega, by go_num, HPA, hJp, hK⟩
        case round =>
          obtain ⟨t, pre2, ht, rfl, hp2, hJp2, hK2⟩ := hrel
          obtain ⟨hqx, hwx⟩ := HQ.out wr hK2.out
          have hqxl := (Array.getElem?_eq_some_iff.1 hqx).1
          have HWX := Lib.hid hwx
          by_cases hlt2 : t < N2
          · obtain ⟨b, off, rfl, hb, hck⟩ := HBC.out t hlt2
            obtain ⟨y, hy⟩ : ∃ y, bds.getD t bdZ = y := ⟨_, rfl⟩
            have hkl : t < bds.length := by rw [HN2.out]; exact hlt2
            have hym : y ∈ bds := by rw [← hy, List.getD_eq_getElem?_getD, List.getElem?_eq_getElem hkl]; exact List.getElem_mem hkl
            have HT : Hid (bds.take (t + 1) = bds.take t ++ [y]) := Lib.hid (by rw [← hy, List.getD_eq_getElem?_getD, List.getElem?_eq_getElem hkl, List.take_add_one, List.getElem?_eq_getElem hkl]; rfl)
            have hcr : ∀ j, j < 4 → wr.cell? ⟨b, off + t * 4 + j, none⟩ = (elBond.enc y)[j]? := fun j hj => by rw [← hy, hwx.cell (p := ⟨b, off + t * 4 + j, none⟩) hb]; exact hck j hj
            have hbw : b < wr.heap.size := Nat.lt_of_lt_of_le hb hwx.size
            have hfy := HF.out.bi y hym
            obtain ⟨⟨y1, y2⟩, y3, y4⟩ := y
            have d0 : wr.cell? ⟨b, off + t * 4, none⟩ = some (.int .i64 y1) := hcr 0 (by decide)
            have d1 : wr.cell? ⟨b, off + t * 4 + 1, none⟩ = some (.int .i64 y2) := hcr 1 (by decide)
            have d2 : wr.cell? ⟨b, off + t * 4 + 2, none⟩ = some (.int .i64 y3) := hcr 2 (by decide)
            have d3 : wr.cell? ⟨b, off + t * 4 + 3, none⟩ = some (.int .i64 y4) := hcr 3 (by decide)
            clear hy hck hym hcr
            have HA : Hid (Below wr.heap.size wr ((wr.alloc (.cells #[.int .i64 y1, .int .i64 y2, .int .i64 y3, .int .i64 y4] 58)).alloc (.cells #[.int .i64 y1, .int .i64 y2, .int .i64 y3, .int .i64 y4] 3))) := Lib.hid (nb_alloc (nb_alloc (Below.refl _ _) _) _)
            have HBL := Lib.hid (withNumbers_any bondW (.slice (some ⟨wr.heap.size + 1, 0, none⟩) 4 4) [y1, y2, y3, y4] ((wr.alloc (.cells #[.int .i64 y1, .int .i64 y2, .int .i64 y3, .int .i64 y4] 58)).alloc (.cells #[.int .i64 y1, .int .i64 y2, .int .i64 y3, .int .i64 y4] 3)) (Ints.ofNew (xs := [y1, y2, y3, y4]) (by have := heap_alloc_new (wr.alloc (.cells #[.int .i64 y1, .int .i64 y2, .int .i64 y3, .int .i64 y4] 58)) (.cells #[.int .i64 y1, .int .i64 y2, .int .i64 y3, .int .i64 y4] 3); rw [World.size_alloc] at this; exact this) (by simp)) hfy.i64 (by simp [bondW]) (HV.out.later (hwx.trans (HA.out.mono hwx.size))))
            obtain ⟨L, hL⟩ : ∃ L, bondLn ((y1, y2), (y3, y4)) = L := ⟨_, rfl⟩
            have hLl : L.length ≤ 2000 := by rw [← hL]; exact bondLn_len hfy
            rw [show lnW bondW [y1, y2, y3, y4] = L from hL] at HBL
            have HL := Lib.hid hL
            have HLL := Lib.hid hLl
            have HN1' := HN1.out
            have hpl : pre2.length = 1 + N1 + t := by
              have := congrArg List.length hp2.out
              simp [lnOf] at this; omega
            have HPL := Lib.hid hpl
            clear hfy hL hLl hpl hqx hwx HN1'
            gi_wp2_with (refine ⟨trivial, ?_⟩; gi_at_call 61; refine (callsIn_wide.2 HBL.out).mono ?_; rintro e W3 ⟨rfl, hb3⟩; refine Hid.out ?_)
            refine Lib.hid ?_
            have hb3' : Below wr.heap.size wr W3 := nb_trans HA.out hb3
            have hJ3 := abidesL HJ.out hJp2.out hb3'
            have hk3 : KpL w0.heap.size q W W3 := hK2.out.trans (KpL.later HWX.out.size hqxl hb3')
            obtain ⟨fn, tmps, assign, body, hy, hRd⟩ := HY.out pre2 ⟨L, HLL.out⟩ W3 hJ3 (by have := HPL.out; omega)
            dsimp only [bs] at hy
            have HK3 := Lib.hid hk3
            clear d0 d1 d2 d3 hb3 hb3' hJ3 hk3
            gi_wp2
            refine hRd.mono ?_
            rintro e W4 (⟨rfl, hJ4, hk4⟩ | ⟨rfl, hJx4⟩)
            · have HJ4 := Lib.hid hJ4
              have HK4 := Lib.hid (HK3.out.trans hk4)
              have HP4 : Hid (lnOf (pre2 ++ [⟨L, HLL.out⟩]) = G :: (rs.map rowLn ++ (bds.take (t + 1)).map bondLn)) := Lib.hid ((lnOf_snoc _ _).trans (by show lnOf pre2 ++ [L] = _; rw [hp2.out, HT.out, List.map_append, ← HL.out]; simp))
              clear hy hRd hJ4 hk4
              gi_wp2
              go_roundw
              case rel => exact ⟨t + 1, _, by omega, by go_num, HP4, HJ4, HK4⟩
              case measure => simp [intOf]; omega
            · gi_wp2
              refine bodyPost_ret (results_none rfl _ _ _) rfl ?_
              exact ⟨⟨_, rfl⟩, .inr ⟨_, trivial, hJx4⟩⟩
          · have HE : Hid (lnOf pre2 = lnsT gens rs bds) := Lib.hid (by rw [hp2.out, List.take_of_length_le (by rw [HN2.out]; omega), lnsT, HGG.out])
            gi_wp2
            go_end0
            exact ⟨⟨_, rfl⟩, .inl ⟨pre2, HE.out, hJp2.out⟩⟩
  · gi_wp2
    refine bodyPost_ret (results_none rfl _ _ _) rfl ?_
    exact ⟨⟨_, rfl⟩, .inr ⟨_, trivial, hJx2⟩⟩
end Go.Proofs.YtndhomjfjhohoaaGreatDoor

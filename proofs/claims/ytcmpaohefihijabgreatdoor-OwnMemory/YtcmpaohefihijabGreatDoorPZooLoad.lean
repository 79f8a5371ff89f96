/- Load of package zoo. -/
import Derived.Test.YtcmpaohefihijabGreatDoorPZooBond
import Derived.Test.YtcmpaohefihijabGreatDoorGroundE
import Derived.Test.YtcmpaohefihijabGreatDoorGroundD
namespace Go.Proofs.YtcmpaohefihijabGreatDoor
set_option maxRecDepth 8000
set_option maxRecDepth 8000
open Go.RowKit

theorem bndE_zero {s : Zs} {c d : Hd} (h : bndE s c d = 0) : fitB s.l s.bs (c, d) ∧ bndZ s c d = ⟨s.l, s.rows, adoptB s.bs c d⟩ := by
  unfold bndE at h
  cases hl : (liveH s.l c && liveH s.l d)
  · rw [hl] at h; cases h
  · rw [hl, if_pos rfl] at h
    cases hp : hasP s.bs c
    · rw [hp, if_neg (by simp)] at h
      exact ⟨⟨by rw [Bool.and_eq_true] at hl; exact hl, hp, h⟩, by rw [bndZ, hl, hp]; rfl⟩
    · rw [hp] at h; cases h
theorem bndE_bad {l : List (Int × Bool)} {rows : List Rw} {bs : List Bd} {t : Nat} {b : Bd} (ht : t < bs.length) (hf : fitsTo l bs t) (hb : bs.getD t bdZ0 = b) (h : bndE ⟨l, rows, accB (bs.take t)⟩ b.1 b.2 ≠ 0) : (ldB l [] bs).1 = bndE ⟨l, rows, accB (bs.take t)⟩ b.1 b.2 := by
  unfold bndE at *
  simp only at *
  cases hl : (liveH l b.1 && liveH l b.2)
  · rw [ldB_dead ht hf hb hl]; rfl
  · rw [hl, if_pos rfl] at h
    rw [if_pos rfl]
    cases hp : hasP (accB (bs.take t)) b.1
    · rw [hp, if_neg (by simp)] at h
      rw [if_neg (by simp)]
      exact ldB_loop ht hf hb hl hp h
    · rw [ldB_twice ht hf hb hl hp]; rfl

def ZLoadPost (w : World) (gens : List Int) (rs : List Rw) (bs : List Bd) (e : Ending) (w' : World) : Prop :=
  ∃ u, e = .returned (.tuple #[u, .int .i64 (zldE gens rs bs)]) ∧ Below w.heap.size w w' ∧ (zldE gens rs bs ≠ 0 → u = .pointer none) ∧
    (zldE gens rs bs = 0 → ∃ p F, u = .pointer (some ⟨p, 0, none⟩) ∧ PzAt w' p F (zldZ gens rs bs) ∧ ∀ k, F k → w.heap.size ≤ k)
theorem ZLoadPost.bad {w w' : World} {gens : List Int} {rs : List Rw} {bs : List Bd} {c : Int} (h : zldE gens rs bs = c) (hc : c ≠ 0) (hb : Below w.heap.size w w') : ZLoadPost w gens rs bs (.returned (.tuple #[.pointer none, .int .i64 c])) w' :=
  ⟨_, by rw [h], hb, fun _ => rfl, fun h0 => absurd (h.symm.trans h0) hc⟩

set_option maxHeartbeats 4000000 in
theorem zooLoad_any (vg vr vb : Value) (gens : List Int) (rs : List Rw) (bs : List Bd) (w : World) (hg : Ints w vg gens) (hr : Reads elRow w vr rs) (hb : Reads elBond w vb bs) :
    Calls Tryz.prog 24 #[.agg #[vg, vr, vb]] w (ZLoadPost w gens rs bs) := by
  obtain ⟨ba, bc, rfl, hlc, hm, hcc⟩ := hb
  unfold maxLen at hm
  obtain ⟨n, hn⟩ : ∃ n, bs.length = n := ⟨_, rfl⟩
  have HN := Lib.hid hn
  have HC := Lib.hid hcc
  rw [hn] at hlc HC ⊢
  have HG := Lib.hid hg
  have HR := Lib.hid hr
  obtain ⟨ga, gc, gn, hge⟩ : ∃ a k c, vg = .slice a k c := by
    rcases hg.open.2 with ⟨a, c, e, _⟩ | ⟨b, off, c, e, _⟩
    · exact ⟨_, _, _, e⟩
    · exact ⟨_, _, _, e⟩
  obtain ⟨ra, rc, hre, -⟩ := hr
  subst hge hre
  have HX : Hid (Below w.heap.size w (w.alloc (.cells #[.slice ga gc gn, .slice ra rs.length rc, .slice ba n bc] 31))) := Lib.hid (nb_alloc (Below.refl _ _) _)
  have hxb : (w.alloc (.cells #[.slice ga gc gn, .slice ra rs.length rc, .slice ba n bc] 31)).heap[w.heap.size]? = some (.cells #[.slice ga gc gn, .slice ra rs.length rc, .slice ba n bc] 31) := heap_alloc_new _ _
  have HXB := Lib.hid hxb
  clear hcc hn hg hxb
  go_enter Tryz.func24, Tryz.ntmps24
  go_wp2_with fail
  generalize (w.alloc (.cells #[.slice ga gc gn, .slice ra rs.length rc, .slice ba n bc] 31)) = X at *
  refine (worldLoad_any _ _ gens rs _ (HG.out.later HX.out) (HR.out.later HX.out)).mono ?_
  rintro e w1 ⟨u1, rfl, hb1, hbad, hgood⟩
  have HB1 := Lib.hid (nb_trans HX.out hb1)
  have hq : w1.heap[w.heap.size]? = some (.cells #[.slice ga gc gn, .slice ra rs.length rc, .slice ba n bc] 31) := (hb1.block _ (Array.getElem?_eq_some_iff.1 HXB.out).1).trans HXB.out
  have HQ := Lib.hid hq
  obtain ⟨x, hx⟩ : ∃ x, wldE gens rs = x := ⟨_, rfl⟩
  rw [hx] at hbad hgood ⊢
  by_cases h0 : x = 0
  · subst h0
    obtain ⟨r, F0, rfl, hw, hF⟩ := hgood rfl
    obtain ⟨hWOK, hmem⟩ := WOk.load hx
    have HWL := Lib.hid hx
    obtain ⟨c, tm, pm, ks, tb, tr, hk, pl, hwi⟩ := hw
    obtain ⟨v0, hrb, -⟩ := hwi.slots
    have hc0 : w1.cell? ⟨r, 0, none⟩ = some v0 := by rw [cell_of_row _ _ _ _ _ _ hrb]; rfl
    have hc1 := hwi.cell1
    have hc2 := hwi.cell2
    have hrl := hwi.plt
    have hk2 : w1.cell? ⟨w.heap.size, 2, none⟩ = some (.slice ba n bc) := by rw [cell_of_row _ _ _ _ _ _ hq]; rfl
    have hl0 := (Array.getElem?_eq_some_iff.1 hq).1
    have HA : Hid (PzAt (w1.alloc (.cells #[v0, tm, pm, .map none] 76)) w1.heap.size (fun b => b = w1.heap.size ∨ (F0 b ∧ b ≠ r)) ⟨mkL gens (sNums rs), sortR gens.length rs, []⟩) := Lib.hid (PzAt.ofWorld (WldIn.congr ⟨c, tm, pm, ks, tb, tr, hk, pl, hwi⟩ (fun y => (hmem y).symm)) (nb_alloc (Below.refl _ _) _) (by simp) (fun a1 a2 a3 ha => by
      have he := hrb.symm.trans ha
      simp only [List.toArray, Option.some.injEq, Obj.cells.injEq, Array.mk.injEq, List.cons.injEq, and_true] at he
      obtain ⟨rfl, rfl, rfl⟩ := he
      exact heap_alloc_new _ _))
    have HBA : Hid (Below w.heap.size w (w1.alloc (.cells #[v0, tm, pm, .map none] 76))) := Lib.hid (nb_alloc HB1.out _)
    have HFA : Hid (∀ k, (k = w1.heap.size ∨ (F0 k ∧ k ≠ r)) → w.heap.size ≤ k) := Lib.hid (fun k e => e.elim (fun e => by have := HB1.out.size; omega) (fun e => Nat.le_trans HX.out.size (hF k e.1)))
    obtain ⟨l, hl⟩ : ∃ l, mkL gens (sNums rs) = l := ⟨_, rfl⟩
    obtain ⟨rows, hrows⟩ : ∃ x, sortR gens.length rs = x := ⟨_, rfl⟩
    rw [hl, hrows] at HA hWOK
    have HWOK := Lib.hid hWOK
    have HZE : Hid (zldE gens rs bs = (ldB l [] bs).1 ∧ zldZ gens rs bs = ⟨l, rows, accB bs⟩) := Lib.hid ⟨by rw [zldE, if_pos hx, hl], by rw [zldZ, hl, hrows]⟩
    clear hx hbad hgood hF hmem hwi hrb hWOK hl hrows hq hb1
    go_wp2
    obtain ⟨pn, hpn⟩ : ∃ pn, w1.heap.size = pn := ⟨_, rfl⟩
    rw [hpn] at HA HFA ⊢
    clear hc0 hc1 hc2 hk2 hrl
    generalize w1.alloc (.cells #[v0, tm, pm, .map none] 76) = w3 at *
    clear hpn hl0
    go_loopw [29] (fun i wr => ∃ (t : Nat) (F : Nat → Prop), t ≤ n ∧ i = .int .i64 t ∧ Hid (PzAt wr pn F ⟨l, rows, accB (bs.take t)⟩) ∧ Hid (fitsTo l bs t) ∧ Hid (∀ b, F b → w.heap.size ≤ b) ∧ Hid (Below w.heap.size w wr)) (fun i _ => n - (intOf i).toNat)
    case atStart => exact ⟨0, _, by omega, rfl, HA, Lib.hid (fun j hj => by omega), HFA, HBA⟩
    case round =>
      obtain ⟨t, F, htn, rfl, hZ, hFit, hF, hB⟩ := hrel
      have HOKT : Hid (ZOk ⟨l, rows, accB (bs.take t)⟩) := Lib.hid (by
        obtain ⟨i1, i2, -⟩ := accB_ok HWOK.out.slots (bs := bs) (t := t) (by rw [HN.out]; exact htn) hFit.out
        exact ⟨HWOK.out, i1, i2⟩)
      by_cases hlt : t < n
      · obtain ⟨bb, off, rfl, hbb, hck⟩ := HC.out t hlt
        have hcr : ∀ jj, jj < 4 → wr.cell? ⟨bb, off + t * 4 + jj, none⟩ = (elBond.enc (bs.getD t bdZ0))[jj]? := fun jj hjj => by rw [hB.out.cell (p := ⟨bb, _, none⟩) hbb]; exact hck jj hjj
        have htl : t < bs.length := by rw [HN.out]; exact hlt
        obtain ⟨y, hy⟩ : ∃ y, bs.getD t bdZ0 = y := ⟨_, rfl⟩
        rw [hy] at hcr
        have HY := Lib.hid hy
        have HTL := Lib.hid htl
        obtain ⟨⟨y1, y2⟩, y3, y4⟩ := y
        have c0 : wr.cell? ⟨bb, off + t * 4, none⟩ = some (.int .i64 y1) := hcr 0 (by decide)
        have c1 : wr.cell? ⟨bb, off + t * 4 + 1, none⟩ = some (.int .i64 y2) := hcr 1 (by decide)
        have c2 : wr.cell? ⟨bb, off + t * 4 + 2, none⟩ = some (.int .i64 y3) := hcr 2 (by decide)
        have c3 : wr.cell? ⟨bb, off + t * 4 + 3, none⟩ = some (.int .i64 y4) := hcr 3 (by decide)
        have hbw : bb < wr.heap.size := Nat.lt_of_lt_of_le hbb hB.out.size
        have HWA : Hid (Below wr.heap.size wr (wr.alloc (.cells #[.int .i64 y1, .int .i64 y2, .int .i64 y3, .int .i64 y4] 41))) := Lib.hid (nb_alloc (Below.refl _ _) _)
        clear hcr hck hy htl
        go_wp2_with fail
        refine (zooAddBond_any pn F ⟨l, rows, accB (bs.take t)⟩ y1 y2 y3 y4 _ (hZ.out.later HWA.out) HOKT.out).mono ?_
        rintro e w5 hp
        obtain ⟨be, hbe⟩ : ∃ x, bndE ⟨l, rows, accB (bs.take t)⟩ (y1, y2) (y3, y4) = x := ⟨_, rfl⟩
        have hp2 := hp.from HWA.out
        obtain ⟨rfl, F5, hz5, hk5, hm5⟩ := hp2
        have HB5 : Hid (Below w.heap.size w w5) := Lib.hid (hB.out.trans (hk5.below hB.out.size hF.out))
        clear hp
        rw [hbe]
        by_cases hb0 : be = 0
        · subst hb0
          obtain ⟨hfit, hbz⟩ := bndE_zero hbe
          have HNX : Hid (PzAt w5 pn F5 ⟨l, rows, accB (bs.take (t + 1))⟩ ∧ fitsTo l bs (t + 1) ∧ ∀ b, F5 b → w.heap.size ≤ b) := Lib.hid ⟨by
            rw [hbz] at hz5
            rw [takeB_snoc HTL.out, accB_snoc, HY.out]; exact hz5, fitsTo_next hFit.out HY.out hfit, hm5.above hB.out.size hF.out⟩
          clear hz5 hk5 hm5 hbe hfit hbz c0 c1 c2 c3
          go_wp2
          go_roundw
          case rel => exact ⟨t + 1, F5, by omega, by go_num, Lib.hid HNX.out.1, Lib.hid HNX.out.2.1, Lib.hid HNX.out.2.2, HB5⟩
          case measure => simp [intOf]; omega
        · have HE := Lib.hid (ZLoadPost.bad (bs := bs) (w := w) (w' := w5) (gens := gens) (rs := rs) (c := be) (by rw [HZE.out.1, bndE_bad (rows := rows) HTL.out hFit.out HY.out (by rw [hbe]; exact hb0), hbe]) hb0 HB5.out)
          clear hz5 hk5 hm5 hbe c0 c1 c2 c3
          go_wp2
          go_ret2
          exact HE.out
      · obtain rfl : n = t := by omega
        have HE : Hid (ZLoadPost w gens rs bs (.returned (.tuple #[.pointer (some ⟨pn, 0, none⟩), .int .i64 0])) wr) := Lib.hid (by
          have h1 : bs.take n = bs := List.take_of_length_le (by rw [HN.out]; exact Nat.le_refl _)
          have hld := ldB_end (l := l) (bs := bs) (by rw [HN.out]; exact hFit.out)
          have he : zldE gens rs bs = 0 := by rw [HZE.out.1, hld]
          refine ⟨_, by rw [he], hB.out, fun hne => absurd he hne, fun _ => ⟨pn, F, rfl, ?_, hF.out⟩⟩
          rw [HZE.out.2]
          have := hZ.out
          rwa [h1] at this)
        go_wp2
        go_ret2
        exact HE.out
  · have HE := Lib.hid (ZLoadPost.bad (bs := bs) (w := w) (w' := w1) (gens := gens) (rs := rs) (by rw [zldE, if_neg (by rw [hx]; exact h0), hx]) h0 HB1.out)
    obtain rfl := hbad h0
    clear hx hbad hgood hb1 hq
    go_wp2
    go_ret2
    exact HE.out
end Go.Proofs.YtcmpaohefihijabGreatDoor


/- Load of the reference's zoo. -/
import Derived.Test.YtndhomjfjhohoaaGreatDoorZooRefTell
import Derived.Test.YtndhomjfjhohoaaGreatDoorRefWorldLoad
import Derived.Test.YtndhomjfjhohoaaGreatDoorPZooLoad
namespace Go.Proofs.YtndhomjfjhohoaaGreatDoor
set_option maxRecDepth 8000
set_option maxRecDepth 8000
open Go.RowKit

theorem ZfAt.ofWorld {w : World} {q : Nat} {G : Nat → Prop} {l : List (Int × Bool)} {rows : List Rw} (h : ZooAt w q G l rows (.slice none 0 0)) : ZfAt w q G ⟨l, rows, []⟩ :=
  ⟨G, fun _ => False, .slice none 0 0, ⟨h, Owns.nil _ _ _, fun k e => by simp [Value.ownBlock] at e, fun _ h => h.elim, fun _ h => h.elim⟩, fun b => by simp⟩
def RZLoadPost (w : World) (gens : List Int) (rs : List Rw) (bs : List Bd) (e : Ending) (w' : World) : Prop :=
  ∃ u, e = .returned (.tuple #[u, .int .i64 (zldE gens rs bs)]) ∧ Below w.heap.size w w' ∧ (zldE gens rs bs ≠ 0 → u = .pointer none) ∧
    (zldE gens rs bs = 0 → ∃ q G, u = .pointer (some ⟨q, 0, none⟩) ∧ ZfAt w' q G (zldZ gens rs bs) ∧ ∀ k, G k → w.heap.size ≤ k)
theorem RZLoadPost.bad {w w' : World} {gens : List Int} {rs : List Rw} {bs : List Bd} {c : Int} (h : zldE gens rs bs = c) (hc : c ≠ 0) (hb : Below w.heap.size w w') : RZLoadPost w gens rs bs (.returned (.tuple #[.pointer none, .int .i64 c])) w' :=
  ⟨_, by rw [h], hb, fun _ => rfl, fun h0 => absurd (h.symm.trans h0) hc⟩

set_option maxHeartbeats 8000000 in
theorem zfLoad_any (vg vr vb : Value) (gens : List Int) (rs : List Rw) (bs : List Bd) (w : World) (hg : Ints w vg gens) (hr : Reads elRow w vr rs) (hb : Reads elBond w vb bs) :
    Calls Tryz.prog 28 #[.agg #[vg, vr, vb]] w (RZLoadPost w gens rs bs) := by
  obtain ⟨ba, bc, rfl, hlc, hm, hcc⟩ := hb
  unfold maxLen at hm
  obtain ⟨n, hn⟩ : ∃ n, bs.length = n := ⟨_, rfl⟩
  have HN := Lib.hid hn
  have HC := Lib.hid hcc
  rw [hn] at hlc HC ⊢
  have HG := Lib.hid hg
  have HR := Lib.hid hr
  obtain ⟨ga, gc, gn, hge⟩ : ∃ a k c, vg = .slice a k c := by
    rcases hg.open.2 with ⟨a, c, e, _⟩ | ⟨b, off, c, e, _⟩
    · exact ⟨_, _, _, e⟩
    · exact ⟨_, _, _, e⟩
  obtain ⟨ra, rc, hre, -⟩ := hr
  subst hge hre
  have HX : Hid (Below w.heap.size w (w.alloc (.cells #[.slice ga gc gn, .slice ra rs.length rc, .slice ba n bc] 26))) := Lib.hid (nb_alloc (Below.refl _ _) _)
  have hxb : (w.alloc (.cells #[.slice ga gc gn, .slice ra rs.length rc, .slice ba n bc] 26)).heap[w.heap.size]? = some (.cells #[.slice ga gc gn, .slice ra rs.length rc, .slice ba n bc] 26) := heap_alloc_new _ _
  have HXB := Lib.hid hxb
  clear hcc hn hg hxb
  go_enter Tryz.func28, Tryz.ntmps28
  go_wp2_with fail
  generalize (w.alloc (.cells #[.slice ga gc gn, .slice ra rs.length rc, .slice ba n bc] 26)) = X at *
  refine (refWorldLoad_any _ _ gens rs _ (HG.out.later HX.out) (HR.out.later HX.out)).mono ?_
  rintro e w1 ⟨u1, rfl, hb1, hbad, hgood⟩
  have HB1 := Lib.hid (nb_trans HX.out hb1)
  have hq : w1.heap[w.heap.size]? = some (.cells #[.slice ga gc gn, .slice ra rs.length rc, .slice ba n bc] 26) := (hb1.block _ (Array.getElem?_eq_some_iff.1 HXB.out).1).trans HXB.out
  obtain ⟨x, hx⟩ : ∃ x, wldE gens rs = x := ⟨_, rfl⟩
  rw [hx] at hbad hgood ⊢
  by_cases h0 : x = 0
  · subst h0
    obtain ⟨q, G0, rfl, hw, hF⟩ := hgood rfl
    obtain ⟨hWOK, -⟩ := WOk.load hx
    have hk2 : w1.cell? ⟨w.heap.size, 2, none⟩ = some (.slice ba n bc) := (cell_of_row _ _ _ _ _ _ hq).trans rfl
    have hl0 := (Array.getElem?_eq_some_iff.1 hq).1
    obtain ⟨l, hl⟩ : ∃ l, mkL gens (sNums rs) = l := ⟨_, rfl⟩
    obtain ⟨rows, hrows⟩ : ∃ x, sortR gens.length rs = x := ⟨_, rfl⟩
    rw [hl, hrows] at hw hWOK
    have HA : Hid (ZfAt w1 q G0 ⟨l, rows, []⟩) := Lib.hid (ZfAt.ofWorld hw)
    have HFA : Hid (∀ k, G0 k → w.heap.size ≤ k) := Lib.hid (fun k e => Nat.le_trans HX.out.size (hF k e))
    have HWOK := Lib.hid hWOK
    have HZE : Hid (zldE gens rs bs = (ldB l [] bs).1 ∧ zldZ gens rs bs = ⟨l, rows, accB bs⟩) := Lib.hid ⟨by rw [zldE, if_pos hx, hl], by rw [zldZ, hl, hrows]⟩
    clear hx hbad hgood hF hw hWOK hl hrows hq hb1
    go_wp2
    clear hk2 hl0
    go_loopw [25] (fun i wr => ∃ (t : Nat) (G : Nat → Prop), t ≤ n ∧ i = .int .i64 t ∧ Hid (ZfAt wr q G ⟨l, rows, accB (bs.take t)⟩) ∧ Hid (fitsTo l bs t) ∧ Hid (∀ b, G b → w.heap.size ≤ b) ∧ Hid (Below w.heap.size w wr)) (fun i _ => n - (intOf i).toNat)
    case atStart => exact ⟨0, _, by omega, rfl, HA, Lib.hid (fun j hj => by omega), HFA, HB1⟩
    case round =>
      obtain ⟨t, G, htn, rfl, hZ, hFit, hF, hB⟩ := hrel
      have HOKT : Hid (ZOk ⟨l, rows, accB (bs.take t)⟩) := Lib.hid (by
        obtain ⟨i1, i2, -⟩ := accB_ok HWOK.out.slots (bs := bs) (t := t) (by rw [HN.out]; exact htn) hFit.out
        exact ⟨HWOK.out, i1, i2⟩)
      by_cases hlt : t < n
      · obtain ⟨bb, off, rfl, hbb, hck⟩ := HC.out t hlt
        have hcr : ∀ jj, jj < 4 → wr.cell? ⟨bb, off + t * 4 + jj, none⟩ = (elBond.enc (bs.getD t bdZ0))[jj]? := fun jj hjj => by rw [hB.out.cell (p := ⟨bb, _, none⟩) hbb]; exact hck jj hjj
        have htl : t < bs.length := by rw [HN.out]; exact hlt
        obtain ⟨y, hy⟩ : ∃ y, bs.getD t bdZ0 = y := ⟨_, rfl⟩
        rw [hy] at hcr
        obtain ⟨⟨y1, y2⟩, y3, y4⟩ := y
        have HY : Hid (bs.getD t bdZ0 = ((y1, y2), (y3, y4))) := Lib.hid hy
        have HTL := Lib.hid htl
        have c0 : wr.cell? ⟨bb, off + t * 4, none⟩ = some (.int .i64 y1) := hcr 0 (by decide)
        have c1 : wr.cell? ⟨bb, off + t * 4 + 1, none⟩ = some (.int .i64 y2) := hcr 1 (by decide)
        have c2 : wr.cell? ⟨bb, off + t * 4 + 2, none⟩ = some (.int .i64 y3) := hcr 2 (by decide)
        have c3 : wr.cell? ⟨bb, off + t * 4 + 3, none⟩ = some (.int .i64 y4) := hcr 3 (by decide)
        have hbw : bb < wr.heap.size := Nat.lt_of_lt_of_le hbb hB.out.size
        have HWA : Hid (Below wr.heap.size wr (wr.alloc (.cells #[.int .i64 y1, .int .i64 y2, .int .i64 y3, .int .i64 y4] 58))) := Lib.hid (nb_alloc (Below.refl _ _) _)
        have HWB : Hid ((wr.alloc (.cells #[.int .i64 y1, .int .i64 y2, .int .i64 y3, .int .i64 y4] 58)).heap[wr.heap.size]? = some (.cells #[.int .i64 y1, .int .i64 y2, .int .i64 y3, .int .i64 y4] 58)) := Lib.hid (heap_alloc_new _ _)
        clear hcr hck hy htl
        obtain ⟨sx, hsx⟩ : ∃ sx : Zs, (⟨l, rows, accB (bs.take t)⟩ : Zs) = sx := ⟨_, rfl⟩
        have HSX := Lib.hid hsx
        have HBAD := Lib.hid (fun h => bndE_bad (rows := rows) HTL.out hFit.out HY.out h)
        have HGOOD := Lib.hid (bndE_zero (s := sx) (c := (y1, y2)) (d := (y3, y4)))
        rw [hsx] at hZ HOKT HBAD
        clear hsx
        go_wp2_with fail
        generalize wr.alloc (.cells #[.int .i64 y1, .int .i64 y2, .int .i64 y3, .int .i64 y4] 58) = A at *
        clear c0 c1 c2 c3
        have HBX : Hid (∀ Y, Below A.heap.size A Y → (Y.cell? ⟨wr.heap.size, 0, none⟩ = some (.int .i64 y1) ∧ Y.cell? ⟨wr.heap.size, 1, none⟩ = some (.int .i64 y2)) ∧ (Y.cell? ⟨wr.heap.size, 2, none⟩ = some (.int .i64 y3) ∧ Y.cell? ⟨wr.heap.size, 3, none⟩ = some (.int .i64 y4)) ∧ wr.heap.size < Y.heap.size) := Lib.hid (fun Y hY => by
          have e0 := (hY.block _ (Array.getElem?_eq_some_iff.1 HWB.out).1).trans HWB.out
          exact ⟨⟨(cell_of_row _ _ _ _ _ _ e0).trans rfl, (cell_of_row _ _ _ _ _ _ e0).trans rfl⟩, ⟨(cell_of_row _ _ _ _ _ _ e0).trans rfl, (cell_of_row _ _ _ _ _ _ e0).trans rfl⟩, (Array.getElem?_eq_some_iff.1 e0).1⟩)
        refine (zfAtI q G sx y1 y2 _ (hZ.out.later HWA.out)).mono ?_
        rintro e x1 ⟨rfl, hx1⟩
        obtain ⟨i1, hi1⟩ : ∃ i, atI sx.rows y1 y2 = i := ⟨_, rfl⟩
        rw [hi1]
        have HX1 := Lib.hid hx1
        have HB1' : Hid (Below w.heap.size w x1) := Lib.hid (nb_trans hB.out (nb_trans HWA.out hx1))
        clear hx1
        have HDEAD : Hid (∀ Y, (liveH sx.l (y1, y2) && liveH sx.l (y3, y4)) = false → Below w.heap.size w Y → RZLoadPost w gens rs bs (.returned (.tuple #[.pointer none, .int .i64 7])) Y) := Lib.hid (fun Y hl hb => RZLoadPost.bad (by
          have h7 : bndE sx (y1, y2) (y3, y4) = 7 := by rw [bndE, hl]; rfl
          rw [HZE.out.1, HBAD.out (by rw [h7]; decide), h7]) (by decide) hb)
        cases hl1 : liveH sx.l (y1, y2)
        · as_aux_lemma =>
          obtain rfl : i1 = -1 := by rw [← hi1]; exact atI_dead HOKT.out hl1
          have HE := Lib.hid (HDEAD.out x1 (by rw [hl1]; rfl) HB1'.out)
          clear hi1
          go_wp2
          go_ret2
          exact HE.out
        · have h10 : (0 : Int) ≤ i1 := by rw [← hi1]; exact atI_live HOKT.out hl1
          have h11 : decide (i1 < 0) = false := by rw [decide_eq_false_iff_not]; omega
          obtain ⟨⟨q0, q1⟩, ⟨q2, q3⟩, lq⟩ := HBX.out x1 HX1.out
          clear hi1
          go_wp2_with fail
          refine (zfAtI q G sx y3 y4 _ ((hZ.out.later HWA.out).later HX1.out)).mono ?_
          rintro e x2 ⟨rfl, hx2⟩
          obtain ⟨i2, hi2⟩ : ∃ i, atI sx.rows y3 y4 = i := ⟨_, rfl⟩
          rw [hi2]
          have HX2 := Lib.hid (nb_trans HX1.out hx2)
          have HB2 : Hid (Below w.heap.size w x2) := Lib.hid (nb_trans HB1'.out hx2)
          clear hx2 q0 q1 q2 q3 lq
          cases hl2 : liveH sx.l (y3, y4)
          · as_aux_lemma =>
            obtain rfl : i2 = -1 := by rw [← hi2]; exact atI_dead HOKT.out hl2
            have HE := Lib.hid (HDEAD.out x2 (by rw [hl1, hl2]; rfl) HB2.out)
            clear hi2
            go_wp2
            go_ret2
            exact HE.out
          · as_aux_lemma =>
            have h20 : (0 : Int) ≤ i2 := by rw [← hi2]; exact atI_live HOKT.out hl2
            have h21 : decide (i2 < 0) = false := by rw [decide_eq_false_iff_not]; omega
            obtain ⟨⟨q0, q1⟩, ⟨q2, q3⟩, lq⟩ := HBX.out x2 HX2.out
            obtain ⟨gp, hgp⟩ : ∃ g, hasP sx.bs (y1, y2) = g := ⟨_, rfl⟩
            obtain ⟨⟨r1, r2⟩, hrp⟩ : ∃ r, parB sx.bs (y1, y2) = r := ⟨_, rfl⟩
            have HPR : Hid (parB sx.bs (y1, y2) = (r1, r2) ∧ hasP sx.bs (y1, y2) = gp) := Lib.hid ⟨hrp, hgp⟩
            have HLL : Hid ((liveH sx.l (y1, y2) && liveH sx.l (y3, y4)) = true) := Lib.hid (by rw [hl1, hl2]; rfl)
            clear hi2 hrp hgp
            go_wp2_with fail
            refine (zfParent q G sx y1 y2 r1 r2 gp _ ((hZ.out.later HWA.out).later HX2.out) HPR.out.1 HPR.out.2).mono ?_
            rintro e x3 ⟨rfl, hx3⟩
            have HX3 : Hid (Below A.heap.size A (x3.alloc (.cells #[.int .i64 r1, .int .i64 r2] 49))) := Lib.hid (nb_alloc (nb_trans HX2.out hx3) _)
            have HB3 : Hid (Below w.heap.size w (x3.alloc (.cells #[.int .i64 r1, .int .i64 r2] 49))) := Lib.hid (nb_alloc (nb_trans HB2.out hx3) _)
            clear hx3 q0 q1 q2 q3 lq
            cases gp
            · as_aux_lemma =>
              obtain ⟨⟨q0, q1⟩, ⟨q2, q3⟩, lq⟩ := HBX.out _ HX3.out
              go_wp2_with fail
              generalize x3.alloc (.cells #[.int .i64 r1, .int .i64 r2] 49) = Y at *
              refine (zfAdopt q G sx y1 y2 y3 y4 _ ((hZ.out.later HWA.out).later HX3.out) HOKT.out).mono ?_
              rintro e x4 hp
              obtain ⟨be, hbe⟩ : ∃ x, adoptE sx.bs (y1, y2) (y3, y4) = x := ⟨_, rfl⟩
              rw [hbe] at hp
              obtain ⟨rfl, G4, hz4, hk4, hm4⟩ := hp
              have hbn : bndE sx (y1, y2) (y3, y4) = be := by rw [bndE, HLL.out, HPR.out.2]; exact hbe
              have hsz : wr.heap.size ≤ Y.heap.size := Nat.le_trans HWA.out.size HX3.out.size
              have HB4 : Hid (Below w.heap.size w x4) := Lib.hid (HB3.out.trans (hk4.below HB3.out.size hF.out))
              clear q0 q1 q2 q3 lq
              by_cases hb0 : be = 0
              · as_aux_lemma =>
                subst hb0
                obtain ⟨hfit, -⟩ := HGOOD.out hbn
                have HNX : Hid (ZfAt x4 q G4 ⟨l, rows, accB (bs.take (t + 1))⟩ ∧ fitsTo l bs (t + 1) ∧ ∀ b, G4 b → w.heap.size ≤ b) := Lib.hid ⟨by
                  rw [← HSX.out] at hz4
                  rw [takeB_snoc HTL.out, accB_snoc, HY.out]; exact hz4, fitsTo_next hFit.out HY.out (by rw [← HSX.out] at hfit; exact hfit), hm4.above HB3.out.size hF.out⟩
                clear hz4 hk4 hm4 hbe hbn hfit
                go_wp2
                go_roundw
                case rel => exact ⟨t + 1, G4, by omega, by go_num, Lib.hid HNX.out.1, Lib.hid HNX.out.2.1, Lib.hid HNX.out.2.2, HB4⟩
                case measure => simp [intOf]; omega
              · as_aux_lemma =>
                have HE : Hid (RZLoadPost w gens rs bs (.returned (.tuple #[.pointer none, .int .i64 be])) x4) := Lib.hid (RZLoadPost.bad (by rw [HZE.out.1, HBAD.out (by rw [hbn]; exact hb0), hbn]) hb0 HB4.out)
                clear hz4 hk4 hm4 hbe hbn
                go_wp2
                go_ret2
                exact HE.out
            · as_aux_lemma =>
              have HE : Hid (RZLoadPost w gens rs bs (.returned (.tuple #[.pointer none, .int .i64 6])) (x3.alloc (.cells #[.int .i64 r1, .int .i64 r2] 49))) := Lib.hid (RZLoadPost.bad (by
                have h6 : bndE sx (y1, y2) (y3, y4) = 6 := by rw [bndE, HLL.out, HPR.out.2]; rfl
                rw [HZE.out.1, HBAD.out (by rw [h6]; decide), h6]) (by decide) HB3.out)
              go_wp2
              go_ret2
              exact HE.out
      · as_aux_lemma =>
        obtain rfl : n = t := by omega
        have HE : Hid (RZLoadPost w gens rs bs (.returned (.tuple #[.pointer (some ⟨q, 0, none⟩), .int .i64 0])) wr) := Lib.hid (by
          have h1 : bs.take n = bs := List.take_of_length_le (by rw [HN.out]; exact Nat.le_refl _)
          have hld := ldB_end (l := l) (bs := bs) (by rw [HN.out]; exact hFit.out)
          have he : zldE gens rs bs = 0 := by rw [HZE.out.1, hld]
          refine ⟨_, by rw [he], hB.out, fun hne => absurd he hne, fun _ => ⟨q, G, rfl, ?_, hF.out⟩⟩
          rw [HZE.out.2]
          have := hZ.out
          rwa [h1] at this)
        go_wp2
        go_ret2
        exact HE.out
  · as_aux_lemma =>
    have HE := Lib.hid (RZLoadPost.bad (bs := bs) (w := w) (w' := w1) (gens := gens) (rs := rs) (by rw [zldE, if_neg (by rw [hx]; exact h0), hx]) h0 HB1.out)
    obtain rfl := hbad h0
    clear hx hbad hgood hb1 hq
    go_wp2
    go_ret2
    exact HE.out
end Go.Proofs.YtndhomjfjhohoaaGreatDoor

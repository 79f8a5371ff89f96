/- The contract of 'filled': a table and the list of its rows. -/
import Derived.Test.YtdlbljheobkfaaaFill
import Derived.Test.YtdlbljheobkfaaaRefTable
namespace Go.Proofs.Ytdlbljheobkfaaa
open Go.RowKit

/-- A table of the law's own, and the list of its rows apart from it. -/
def FillI (w wr : World) (p : Nat) (m : Int) (rows : List Rw) (u : Value) : Prop :=
  ∃ F, OwnT w wr p F m rows ∧ OwnsF elRow wr w.heap.size 41 u rows ∧ ∀ k, u.ownBlock = some k → ¬ F k
theorem FillI.later {w wr wx : World} {p : Nat} {m : Int} {rows : List Rw} {u : Value} (h : FillI w wr p m rows u) (hb : Below wr.heap.size wr wx) : FillI w wx p m rows u := by
  obtain ⟨F, h1, h2, h3⟩ := h
  exact ⟨F, h1.later hb, h2.later hb, h3⟩
/-- A row has been added to both. -/
theorem FillI.snoc {w wr w2 w2' w3 : World} {p g cap : Nat} {F F2 : Nat → Prop} {m : Int} {rows : List Rw} {r : Rw} {u : Value} (h1 : OwnT w wr p F m rows) (h2 : OwnsF elRow wr w.heap.size 41 u rows) (h3 : ∀ k, u.ownBlock = some k → ¬ F k)
    (ht : TableAt w2 p F2 m (rows ++ [r])) (hk : Kept F wr w2) (hm : Moves wr F F2) (hb : Below w2.heap.size w2 w2') (hg : w2'.grownBy w3 u.ownBlock) (hat : u.ownBlock = some g ∨ g = w2'.heap.size) (ho : w3.ownsRow w.heap.size 41 11 (.slice (some ⟨g, 0, none⟩) (rows.length + 1) cap) (rows.length + 1) (rows.flatMap elRow.enc ++ elRow.enc r)) :
    FillI w w3 p m (rows ++ [r]) (.slice (some ⟨g, 0, none⟩) (rows.length + 1) cap) := by
  have hO := h1.moved ht hk hm
  have hu2 : ∀ k, u.ownBlock = some k → ¬ F2 k := fun k e f => (hm k f).elim (h3 k e) (fun h => by have := h2.lt e; omega)
  have hk3 : Kept (fun b => u.ownBlock = some b) w2' w3 := Kept.grown hg (fun k e => e)
  have hO' := hO.later hb
  refine ⟨F2, ⟨hO'.t.kept hk3 (fun k hf e => hu2 k e hf), hO.fb, hO'.below.trans (hk3.below hO'.below.size (fun k e => h2.ge e))⟩, OwnsF.snoc ho, fun k e f => ?_⟩
  simp [Value.ownBlock] at e
  subst e
  rcases hat with e | e
  · exact hu2 _ e f
  · have := hO.t.lt _ f
    have := hb.size
    omega

/-- The beast that is being filled. -/
def FillB (wK wx : World) (bb : Nat) (m y : Int) (l : List Int) : Prop :=
  Kept (fun b => b = bb) wK wx ∧ ∃ g : Nat → Int, wx.heap[bb]? = some (.cells #[.int .i64 m, .int .i64 (g 0), .int .i64 (g 1), .int .i64 (g 2), .int .i64 (g 3), .int .i64 (g 4), .int .i64 (g 5), .int .i64 (g 6), .int .i64 (g 7)] 35) ∧ ∀ j, j < 8 → g j = if (j : Int) ∈ l then fv y j else 0
theorem FillB.next {wK wx : World} {bb j : Nat} {m y : Int} {l : List Int} (h : FillB wK wx bb m y l) (hj : j < 8) : FillB wK (wx.setCell ⟨bb, 1 + j, none⟩ (.int .i64 (fv y j))) bb m y (l ++ [(j : Int)]) := by
  obtain ⟨hk, g, hg, hgj⟩ := h
  refine ⟨hk.trans (Kept.setCell (F := fun b => b = bb) _ (p := ⟨bb, 1 + j, none⟩) rfl _) (fun _ h => .inl h), upd g j (fv y j), by rw [heap_setCell_same _ _ _ _ _ _ hg, vals_set m g j _ hj], fun i hi => ?_⟩
  unfold upd
  by_cases e : i = j
  · subst e; rw [if_pos rfl, if_pos (by simp)]
  · have e' : ¬ (i : Int) = (j : Int) := by omega
    rw [if_neg e, hgj i hi]
    congr 1
    simp [e']
theorem FillB.done {wK wx : World} {bb i : Nat} {m y : Int} (h : FillB wK wx bb m y (kinds m)) : wx.heap[bb]? = some (.cells #[.int .i64 m, .int .i64 ((fillR m i y).f 0), .int .i64 ((fillR m i y).f 1), .int .i64 ((fillR m i y).f 2), .int .i64 ((fillR m i y).f 3), .int .i64 ((fillR m i y).f 4), .int .i64 ((fillR m i y).f 5), .int .i64 ((fillR m i y).f 6), .int .i64 ((fillR m i y).f 7)] 35) := by
  obtain ⟨hk, g, hg, hgj⟩ := h
  have e : ∀ j, j < 8 → g j = (fillR m i y).f j := fun j hj => by
    rw [hgj j hj]
    unfold fillR
    cases ht : tb m j
    · rw [if_neg (fun h => by have := (kinds_iff hj).1 h; rw [ht] at this; cases this)]; simp [ht]
    · rw [if_pos ((kinds_iff hj).2 ht)]; simp [ht, hj]
  rw [hg, e 0 (by decide), e 1 (by decide), e 2 (by decide), e 3 (by decide), e 4 (by decide), e 5 (by decide), e 6 (by decide), e 7 (by decide)]

/-- how many rows are filled in -/
def cut60 (n : Nat) : Nat := min n 60

theorem cut60_le (n : Nat) : cut60 n ≤ 60 := by unfold cut60; omega

def FillPost (w : World) (m : Int) (zs : List Int) (n : Nat) (e : Ending) (w' : World) : Prop :=
  ∃ p u, e = .returned (.tuple #[.pointer (some ⟨p, 0, none⟩), u]) ∧ FillI w w' p m (fillL m zs n) u

set_option maxRecDepth 100000 in
set_option maxHeartbeats 8000000 in
theorem filled_any (a0 : Int) (v : Value) (zs : List Int) (w : World) (hz : Ints w v zs) : Calls Try.prog 22 #[.int .i64 a0, v] w (FillPost w (a0 % 256) zs (cut60 zs.length)) := by
  obtain ⟨i0, hi0, hz0, hz1, hz2⟩ := info_parts infoRow
  obtain ⟨hm, hop⟩ := hz.open
  unfold maxLen at hm
  have hmod : 0 ≤ a0 % 256 ∧ a0 % 256 ≤ 255 := by omega
  obtain ⟨m0, m1⟩ := hmod
  clear hz
  rcases hop with ⟨aa, cap, rfl, hzz⟩ | ⟨b, off, cap, rfl, hb, hlc, hcm, hc⟩
  · obtain rfl : zs = [] := List.length_eq_zero_iff.1 (by omega)
    go_enter Try.func22, Try.ntmps22
    go_wp2_with fail
    refine (rest_any _ _ _ (by omega) (by omega)).mono ?_
    rintro e w' ⟨rfl, rfl⟩
    generalize a0 % 256 = m at *
    go_wp2_with fail
    refine (tableNew_yes m _ m0 m1).mono ?_
    rintro e w1 ⟨p, F0, rfl, ht, hF, hbw⟩
    have HST : Hid (FillI w w1 p m [] (.slice none 0 0)) := Lib.hid ⟨F0, ⟨ht, hF, hbw⟩, OwnsF.nil _ _ _ _, fun k e => by simp [Value.ownBlock] at e⟩
    clear ht hF hbw
    go_wp2
    go_loopw [8, 36] (fun u i wr => i = .int .i64 0 ∧ Hid (FillI w wr p m [] u)) (fun _ _ _ => 0)
    case atStart => exact ⟨rfl, HST⟩
    case round =>
      obtain ⟨rfl, hF⟩ := hrel
      go_wp2
      go_ret2
      exact ⟨p, _, rfl, hF.out⟩
  · have HRET : Hid (∀ M, cut60 zs.length = M → ∀ p u wr, FillI w wr p (a0 % 256) (fillL (a0 % 256) zs M) u → FillPost w (a0 % 256) zs (cut60 zs.length) (.returned (.tuple #[.pointer (some ⟨p, 0, none⟩), u])) wr) := Lib.hid (fun M hM p u wr h => by rw [hM]; exact ⟨p, u, rfl, h⟩)
    have HMIN : Hid (∀ M, M ≤ zs.length → M ≤ 60 → (M = 60 ∨ zs.length ≤ M) → cut60 zs.length = M) := Lib.hid (fun M h1 h2 h3 => by unfold cut60; omega)
    generalize hn : zs.length = n at *
    have HN := Lib.hid hn
    clear hn
    go_enter Try.func22, Try.ntmps22
    go_wp2_with fail
    refine (rest_any _ _ _ (by omega) (by omega)).mono ?_
    rintro e w' ⟨rfl, rfl⟩
    generalize a0 % 256 = m at *
    go_wp2_with fail
    refine (tableNew_yes m _ m0 m1).mono ?_
    rintro e w1 ⟨p, F0, rfl, ht, hF, hbw⟩
    have HST : Hid (FillI w w1 p m (fillL m zs 0) (.slice none 0 0)) := Lib.hid ⟨F0, ⟨ht, hF, hbw⟩, OwnsF.nil _ _ _ _, fun k e => by simp [Value.ownBlock] at e⟩
    clear ht hF hbw
    rcases Nat.lt_or_ge 60 n with h60 | h60
    · have HMM : Hid (cut60 n = 60) := Lib.hid (HMIN.out 60 (by omega) (by omega) (.inl rfl))
      have hm60 : (60 : Nat) < 61 := by omega
      have hcM : ∀ k, k < (60 : Nat) → w.cell? ⟨b, off + k, none⟩ = some (.int .i64 (zs.getD k 0)) := fun k hk => hc k (by omega)
      clear hc HMIN
      go_wp2
      go_loopw [8, 36] (fun u i wr => ∃ t : Nat, t ≤ 60 ∧ i = .int .i64 t ∧ Hid (FillI w wr p m (fillL m zs t) u)) (fun _ i _ => 60 - (intOf i).toNat)
      case atStart => exact ⟨0, by omega, rfl, HST⟩
      case round =>
        obtain ⟨t, htM, rfl, hFI⟩ := hrel
        clear HST
        by_cases hlt : t < 60
        · obtain ⟨F, hO, hOw, hap⟩ := hFI.out
          have cz : wr.cell? ⟨b, off + t, none⟩ = some (.int .i64 (zs.getD t 0)) := by rw [hO.below.cell (p := ⟨b, off + t, none⟩) hb]; exact hcM t hlt
          have hbw : b < wr.heap.size := Nat.lt_of_lt_of_le hb hO.below.size
          clear hcM
          generalize hy : zs.getD t 0 = y at *
          have HY := Lib.hid hy
          have HO := Lib.hid hO
          have HOW := Lib.hid hOw
          have HAP := Lib.hid hap
          clear hO hOw hap hy hFI
          generalize wr = wz at *
          go_wp2_with fail
          refine (refKinds_any m _).mono ?_
          rintro e wK ⟨vK, rfl, hoK, hbK⟩
          have hIK := Ints.owns hoK
          have HFB : Hid (FillB wK wK wz.heap.size m y ((kinds m).take 0)) := Lib.hid ⟨Kept.refl _ _, fun _ => 0, by rw [hbK.block _ (by simp)]; exact heap_alloc_new wz _, fun j _ => by simp⟩
          have HBK : Hid (Below wz.heap.size wz wK) := Lib.hid (nb_trans (nb_alloc (Below.refl _ _) _) hbK)
          have HNB : Hid (∀ k, vK.ownBlock = some k → k ≠ wz.heap.size) := Lib.hid (fun k e => by have := (World.ownsRow.lt hoK k e).1; simp at this; omega)
          have hlen : (kinds m).length ≤ 8 := kindsTo_len m 8
          have HGE : Hid (∀ s, s < (kinds m).length → ∃ j : Nat, j < 8 ∧ (kinds m).getD s 0 = (j : Int)) := Lib.hid (fun s hs => by
            obtain ⟨h0, h7⟩ := kinds_ge (m := m) (getD_mem hs)
            obtain ⟨j, hj⟩ := Int.eq_ofNat_of_zero_le h0
            exact ⟨j, by omega, hj⟩)
          have HTS : Hid (∀ s, s < (kinds m).length → (kinds m).take (s + 1) = (kinds m).take s ++ [(kinds m).getD s 0]) := Lib.hid (fun s hs => take_snoc hs)
          have HALL : Hid ((kinds m).take (kinds m).length = kinds m) := Lib.hid (List.take_length)
          have HDONE : Hid (∀ wx, FillB wK wx wz.heap.size m y (kinds m) → wx.heap[wz.heap.size]? = some (.cells #[.int .i64 m, .int .i64 ((fillR m t y).f 0), .int .i64 ((fillR m t y).f 1), .int .i64 ((fillR m t y).f 2), .int .i64 ((fillR m t y).f 3), .int .i64 ((fillR m t y).f 4), .int .i64 ((fillR m t y).f 5), .int .i64 ((fillR m t y).f 6), .int .i64 ((fillR m t y).f 7)] 35)) := Lib.hid (fun wx h => h.done)
          obtain ⟨hmk, hopk⟩ := hIK.open
          clear hoK hbK hIK cz
          generalize hl : kinds m = l at *
          clear hl
          generalize hln : l.length = ln at *
          clear hln
          have hbbK : wz.heap.size < wK.heap.size := by obtain ⟨_, g, hg, _⟩ := HFB.out; exact (Array.getElem?_eq_some_iff.1 hg).1
          rcases hopk with ⟨ak, capk, rfl, hzk⟩ | ⟨bk, offk, capk, rfl, hbk, hlck, hcmk, hck⟩
          all_goals
            go_wp2
            go_loopw [46] (fun i wx => ∃ s : Nat, s ≤ ln ∧ i = .int .i64 s ∧ Hid (FillB wK wx wz.heap.size m y (l.take s))) (fun i _ => ln - (intOf i).toNat)
            case atStart => exact ⟨0, by omega, rfl, HFB⟩
            case round =>
              obtain ⟨s, hs, rfl, hB⟩ := hrel
              clear HFB
              by_cases hls : s < ln
              · first
                  | omega
                  | (obtain ⟨hkp, g, hg, -⟩ := hB.out
                     have ck : wr.cell? ⟨bk, offk + s, none⟩ = some (.int .i64 (l.getD s 0)) := by rw [hkp.cell (p := ⟨bk, offk + s, none⟩) hbk (HNB.out bk rfl)]; exact hck s hls
                     have hbkw : bk < wr.heap.size := Nat.lt_of_lt_of_le hbk hkp.size
                     have hbbw := (Array.getElem?_eq_some_iff.1 hg).1
                     have HTK := Lib.hid (HTS.out s hls)
                     obtain ⟨j, hj, ej⟩ := HGE.out s hls
                     rw [ej] at ck HTK
                     have old := vals_at m g j hj
                     rw [← cell_of_row _ _ _ _ _ _ hg] at old
                     have fz : wr.frozen? ⟨wz.heap.size, 1 + j, none⟩ = false := frozen_of_row _ _ _ _ _ hg
                     have HNX := Lib.hid (hB.out.next hj)
                     rw [← HTK.out] at HNX
                     clear hkp hg ej hck
                     go_wp2_with fail
                     refine (rest_any _ _ _ (by omega) (by omega)).mono ?_
                     rintro e w5 ⟨rfl, rfl⟩
                     go_wp2
                     go_roundw
                     case rel => exact ⟨s + 1, by omega, by go_num, HNX⟩
                     case measure => simp [intOf]; omega)
              · obtain rfl : s = ln := by omega
                rw [HALL.out] at hB
                have hbb := HDONE.out wr hB.out
                have HKP := Lib.hid hB.out.1
                have hbl := (Array.getElem?_eq_some_iff.1 hbb).1
                have b0 : wr.cell? ⟨wz.heap.size, 0, none⟩ = some (.int .i64 m) := by rw [cell_of_row _ _ _ _ _ _ hbb]; rfl
                have b1 : wr.cell? ⟨wz.heap.size, 1, none⟩ = some (.int .i64 ((fillR m t y).f 0)) := by rw [cell_of_row _ _ _ _ _ _ hbb]; rfl
                have b2 : wr.cell? ⟨wz.heap.size, 2, none⟩ = some (.int .i64 ((fillR m t y).f 1)) := by rw [cell_of_row _ _ _ _ _ _ hbb]; rfl
                have b3 : wr.cell? ⟨wz.heap.size, 3, none⟩ = some (.int .i64 ((fillR m t y).f 2)) := by rw [cell_of_row _ _ _ _ _ _ hbb]; rfl
                have b4 : wr.cell? ⟨wz.heap.size, 4, none⟩ = some (.int .i64 ((fillR m t y).f 3)) := by rw [cell_of_row _ _ _ _ _ _ hbb]; rfl
                have b5 : wr.cell? ⟨wz.heap.size, 5, none⟩ = some (.int .i64 ((fillR m t y).f 4)) := by rw [cell_of_row _ _ _ _ _ _ hbb]; rfl
                have b6 : wr.cell? ⟨wz.heap.size, 6, none⟩ = some (.int .i64 ((fillR m t y).f 5)) := by rw [cell_of_row _ _ _ _ _ _ hbb]; rfl
                have b7 : wr.cell? ⟨wz.heap.size, 7, none⟩ = some (.int .i64 ((fillR m t y).f 6)) := by rw [cell_of_row _ _ _ _ _ _ hbb]; rfl
                have b8 : wr.cell? ⟨wz.heap.size, 8, none⟩ = some (.int .i64 ((fillR m t y).f 7)) := by rw [cell_of_row _ _ _ _ _ _ hbb]; rfl
                have HBX : Hid (Below wz.heap.size wz wr) := Lib.hid (HBK.out.trans (HKP.out.below HBK.out.size (fun k e => by omega)))
                have HBXA : Hid (Below wz.heap.size wz (wr.alloc (.cells #[.int .i64 (fillR m t y).s, .int .i64 (fillR m t y).g, .int .i64 (fillR m t y).m, .int .i64 ((fillR m t y).f 0), .int .i64 ((fillR m t y).f 1), .int .i64 ((fillR m t y).f 2), .int .i64 ((fillR m t y).f 3), .int .i64 ((fillR m t y).f 4), .int .i64 ((fillR m t y).f 5), .int .i64 ((fillR m t y).f 6), .int .i64 ((fillR m t y).f 7)] 41))) := Lib.hid (nb_alloc HBX.out _)
                clear hB hbb
                go_wp2_with fail
                refine (tabAdd_any p F m (fillL m zs t) (fillR m t y) _ (HO.out.later HBXA.out).t (by rw [fillL_len]; omega)).mono ?_
                rintro e w2 ⟨rfl, F2, ht2, hk2, hm2⟩
                have hE : addE m (fillR m t y) = 0 := fillR_ok m0 m1 t y
                have hadd : addL m (fillL m zs t) (fillR m t y) = fillL m zs t ++ [fillR m t y] := by rw [addL, if_pos hE]
                have haddN : addN m (fillL m zs t) (fillR m t y) = (t : Int) := by rw [addN, if_pos hE, fillL_len]
                rw [hadd] at ht2
                rw [haddN, hE]
                have hnF : ¬ F wr.heap.size := fun f => by have := HO.out.t.lt _ f; have := HBX.out.size; omega
                have hrr : w2.heap[wr.heap.size]? = some (.cells #[.int .i64 (fillR m t y).s, .int .i64 (fillR m t y).g, .int .i64 (fillR m t y).m, .int .i64 ((fillR m t y).f 0), .int .i64 ((fillR m t y).f 1), .int .i64 ((fillR m t y).f 2), .int .i64 ((fillR m t y).f 3), .int .i64 ((fillR m t y).f 4), .int .i64 ((fillR m t y).f 5), .int .i64 ((fillR m t y).f 6), .int .i64 ((fillR m t y).f 7)] 41) := by rw [hk2.block _ (by simp) hnF]; exact heap_alloc_new wr _
                have hrl := (Array.getElem?_eq_some_iff.1 hrr).1
                have k0 : w2.cell? ⟨wr.heap.size, 0, none⟩ = some (.int .i64 (fillR m t y).s) := by rw [cell_of_row _ _ _ _ _ _ hrr]; rfl
                have k1 : w2.cell? ⟨wr.heap.size, 1, none⟩ = some (.int .i64 (fillR m t y).g) := by rw [cell_of_row _ _ _ _ _ _ hrr]; rfl
                have k2 : w2.cell? ⟨wr.heap.size, 2, none⟩ = some (.int .i64 (fillR m t y).m) := by rw [cell_of_row _ _ _ _ _ _ hrr]; rfl
                have k3 : w2.cell? ⟨wr.heap.size, 3, none⟩ = some (.int .i64 ((fillR m t y).f 0)) := by rw [cell_of_row _ _ _ _ _ _ hrr]; rfl
                have k4 : w2.cell? ⟨wr.heap.size, 4, none⟩ = some (.int .i64 ((fillR m t y).f 1)) := by rw [cell_of_row _ _ _ _ _ _ hrr]; rfl
                have k5 : w2.cell? ⟨wr.heap.size, 5, none⟩ = some (.int .i64 ((fillR m t y).f 2)) := by rw [cell_of_row _ _ _ _ _ _ hrr]; rfl
                have k6 : w2.cell? ⟨wr.heap.size, 6, none⟩ = some (.int .i64 ((fillR m t y).f 3)) := by rw [cell_of_row _ _ _ _ _ _ hrr]; rfl
                have k7 : w2.cell? ⟨wr.heap.size, 7, none⟩ = some (.int .i64 ((fillR m t y).f 4)) := by rw [cell_of_row _ _ _ _ _ _ hrr]; rfl
                have k8 : w2.cell? ⟨wr.heap.size, 8, none⟩ = some (.int .i64 ((fillR m t y).f 5)) := by rw [cell_of_row _ _ _ _ _ _ hrr]; rfl
                have k9 : w2.cell? ⟨wr.heap.size, 9, none⟩ = some (.int .i64 ((fillR m t y).f 6)) := by rw [cell_of_row _ _ _ _ _ _ hrr]; rfl
                have k10 : w2.cell? ⟨wr.heap.size, 10, none⟩ = some (.int .i64 ((fillR m t y).f 7)) := by rw [cell_of_row _ _ _ _ _ _ hrr]; rfl
                have HOX := Lib.hid (HO.out.later HBXA.out)
                have HOWX := Lib.hid (HOW.out.later HBXA.out)
                have HOW2 := Lib.hid (HOWX.out.kept hk2 HAP.out)
                have HT2 := Lib.hid ht2
                have HK2 := Lib.hid hk2
                have HM2 := Lib.hid hm2
                have HLN : Hid ((fillL m zs t).length = t) := Lib.hid (fillL_len m zs t)
                have hne2 : ((t : Int) != (t : Int)) = false := by simp
                clear ht2 hk2 hm2 hadd haddN hE hnF hrr b0 b1 b2 b3 b4 b5 b6 b7 b8
                go_wp2_with (first | (at_builtin; refine wpList_append_lies _ rfl _ _ 28 rfl w.heap.size 41 i0 _ 11 88 Try.underlying28 hi0 hz0 hz1 hz2 rfl (by decide) _ _ _ rfl (World.ownsRow.alloc HOW2.out _) ⟨w2.heap.size, 0, none⟩ 1 1 [.int .i64 (fillR m t y).s, .int .i64 (fillR m t y).g, .int .i64 (fillR m t y).m, .int .i64 ((fillR m t y).f 0), .int .i64 ((fillR m t y).f 1), .int .i64 ((fillR m t y).f 2), .int .i64 ((fillR m t y).f 3), .int .i64 ((fillR m t y).f 4), .int .i64 ((fillR m t y).f 5), .int .i64 ((fillR m t y).f 6), .int .i64 ((fillR m t y).f 7)] rfl rfl (by exact World.news_of_block (heap_alloc_new w2 _)) (elRow.one (fillR m t y)) (by decide) (by rw [HLN.out]; unfold maxLen; omega) (by rw [HLN.out]; omega) (by have := HOX.out.below.size; have := HK2.out.size; simp at *; omega) _ rfl ?_))
                intro g cap' w3 hown hgr hat hg2
                have HN : Hid (FillI w w3 p m (fillL m zs (t + 1)) (.slice (some ⟨g, 0, none⟩) ((fillL m zs t).length + 1) cap')) := Lib.hid (by
                  rw [fillL, HY.out]
                  exact FillI.snoc HOX.out HOWX.out HAP.out HT2.out HK2.out HM2.out (nb_alloc (Below.refl _ _) _) hgr (by simpa using hat) hown)
                clear hown hgr hat
                go_wp2
                go_roundw
                case rel => exact ⟨t + 1, by omega, by go_num, HN⟩
                case measure => simp [intOf]; omega
        · have HTM : Hid (t = 60) := Lib.hid (by omega)
          go_wp2
          go_ret2
          exact HRET.out t (HMM.out.trans HTM.out.symm) p _ wr hFI.out
    · have HMM : Hid (cut60 n = n) := Lib.hid (HMIN.out n (by omega) (by omega) (.inr (Nat.le_refl _)))
      have hm60 : n < 61 := by omega
      have hcM := hc
      clear hc HMIN
      go_wp2
      go_loopw [8, 36] (fun u i wr => ∃ t : Nat, t ≤ n ∧ i = .int .i64 t ∧ Hid (FillI w wr p m (fillL m zs t) u)) (fun _ i _ => n - (intOf i).toNat)
      case atStart => exact ⟨0, by omega, rfl, HST⟩
      case round =>
        obtain ⟨t, htM, rfl, hFI⟩ := hrel
        clear HST
        by_cases hlt : t < n
        · obtain ⟨F, hO, hOw, hap⟩ := hFI.out
          have cz : wr.cell? ⟨b, off + t, none⟩ = some (.int .i64 (zs.getD t 0)) := by rw [hO.below.cell (p := ⟨b, off + t, none⟩) hb]; exact hcM t hlt
          have hbw : b < wr.heap.size := Nat.lt_of_lt_of_le hb hO.below.size
          clear hcM
          generalize hy : zs.getD t 0 = y at *
          have HY := Lib.hid hy
          have HO := Lib.hid hO
          have HOW := Lib.hid hOw
          have HAP := Lib.hid hap
          clear hO hOw hap hy hFI
          generalize wr = wz at *
          go_wp2_with fail
          refine (refKinds_any m _).mono ?_
          rintro e wK ⟨vK, rfl, hoK, hbK⟩
          have hIK := Ints.owns hoK
          have HFB : Hid (FillB wK wK wz.heap.size m y ((kinds m).take 0)) := Lib.hid ⟨Kept.refl _ _, fun _ => 0, by rw [hbK.block _ (by simp)]; exact heap_alloc_new wz _, fun j _ => by simp⟩
          have HBK : Hid (Below wz.heap.size wz wK) := Lib.hid (nb_trans (nb_alloc (Below.refl _ _) _) hbK)
          have HNB : Hid (∀ k, vK.ownBlock = some k → k ≠ wz.heap.size) := Lib.hid (fun k e => by have := (World.ownsRow.lt hoK k e).1; simp at this; omega)
          have hlen : (kinds m).length ≤ 8 := kindsTo_len m 8
          have HGE : Hid (∀ s, s < (kinds m).length → ∃ j : Nat, j < 8 ∧ (kinds m).getD s 0 = (j : Int)) := Lib.hid (fun s hs => by
            obtain ⟨h0, h7⟩ := kinds_ge (m := m) (getD_mem hs)
            obtain ⟨j, hj⟩ := Int.eq_ofNat_of_zero_le h0
            exact ⟨j, by omega, hj⟩)
          have HTS : Hid (∀ s, s < (kinds m).length → (kinds m).take (s + 1) = (kinds m).take s ++ [(kinds m).getD s 0]) := Lib.hid (fun s hs => take_snoc hs)
          have HALL : Hid ((kinds m).take (kinds m).length = kinds m) := Lib.hid (List.take_length)
          have HDONE : Hid (∀ wx, FillB wK wx wz.heap.size m y (kinds m) → wx.heap[wz.heap.size]? = some (.cells #[.int .i64 m, .int .i64 ((fillR m t y).f 0), .int .i64 ((fillR m t y).f 1), .int .i64 ((fillR m t y).f 2), .int .i64 ((fillR m t y).f 3), .int .i64 ((fillR m t y).f 4), .int .i64 ((fillR m t y).f 5), .int .i64 ((fillR m t y).f 6), .int .i64 ((fillR m t y).f 7)] 35)) := Lib.hid (fun wx h => h.done)
          obtain ⟨hmk, hopk⟩ := hIK.open
          clear hoK hbK hIK cz
          generalize hl : kinds m = l at *
          clear hl
          generalize hln : l.length = ln at *
          clear hln
          have hbbK : wz.heap.size < wK.heap.size := by obtain ⟨_, g, hg, _⟩ := HFB.out; exact (Array.getElem?_eq_some_iff.1 hg).1
          rcases hopk with ⟨ak, capk, rfl, hzk⟩ | ⟨bk, offk, capk, rfl, hbk, hlck, hcmk, hck⟩
          all_goals
            go_wp2
            go_loopw [46] (fun i wx => ∃ s : Nat, s ≤ ln ∧ i = .int .i64 s ∧ Hid (FillB wK wx wz.heap.size m y (l.take s))) (fun i _ => ln - (intOf i).toNat)
            case atStart => exact ⟨0, by omega, rfl, HFB⟩
            case round =>
              obtain ⟨s, hs, rfl, hB⟩ := hrel
              clear HFB
              by_cases hls : s < ln
              · first
                  | omega
                  | (obtain ⟨hkp, g, hg, -⟩ := hB.out
                     have ck : wr.cell? ⟨bk, offk + s, none⟩ = some (.int .i64 (l.getD s 0)) := by rw [hkp.cell (p := ⟨bk, offk + s, none⟩) hbk (HNB.out bk rfl)]; exact hck s hls
                     have hbkw : bk < wr.heap.size := Nat.lt_of_lt_of_le hbk hkp.size
                     have hbbw := (Array.getElem?_eq_some_iff.1 hg).1
                     have HTK := Lib.hid (HTS.out s hls)
                     obtain ⟨j, hj, ej⟩ := HGE.out s hls
                     rw [ej] at ck HTK
                     have old := vals_at m g j hj
                     rw [← cell_of_row _ _ _ _ _ _ hg] at old
                     have fz : wr.frozen? ⟨wz.heap.size, 1 + j, none⟩ = false := frozen_of_row _ _ _ _ _ hg
                     have HNX := Lib.hid (hB.out.next hj)
                     rw [← HTK.out] at HNX
                     clear hkp hg ej hck
                     go_wp2_with fail
                     refine (rest_any _ _ _ (by omega) (by omega)).mono ?_
                     rintro e w5 ⟨rfl, rfl⟩
                     go_wp2
                     go_roundw
                     case rel => exact ⟨s + 1, by omega, by go_num, HNX⟩
                     case measure => simp [intOf]; omega)
              · obtain rfl : s = ln := by omega
                rw [HALL.out] at hB
                have hbb := HDONE.out wr hB.out
                have HKP := Lib.hid hB.out.1
                have hbl := (Array.getElem?_eq_some_iff.1 hbb).1
                have b0 : wr.cell? ⟨wz.heap.size, 0, none⟩ = some (.int .i64 m) := by rw [cell_of_row _ _ _ _ _ _ hbb]; rfl
                have b1 : wr.cell? ⟨wz.heap.size, 1, none⟩ = some (.int .i64 ((fillR m t y).f 0)) := by rw [cell_of_row _ _ _ _ _ _ hbb]; rfl
                have b2 : wr.cell? ⟨wz.heap.size, 2, none⟩ = some (.int .i64 ((fillR m t y).f 1)) := by rw [cell_of_row _ _ _ _ _ _ hbb]; rfl
                have b3 : wr.cell? ⟨wz.heap.size, 3, none⟩ = some (.int .i64 ((fillR m t y).f 2)) := by rw [cell_of_row _ _ _ _ _ _ hbb]; rfl
                have b4 : wr.cell? ⟨wz.heap.size, 4, none⟩ = some (.int .i64 ((fillR m t y).f 3)) := by rw [cell_of_row _ _ _ _ _ _ hbb]; rfl
                have b5 : wr.cell? ⟨wz.heap.size, 5, none⟩ = some (.int .i64 ((fillR m t y).f 4)) := by rw [cell_of_row _ _ _ _ _ _ hbb]; rfl
                have b6 : wr.cell? ⟨wz.heap.size, 6, none⟩ = some (.int .i64 ((fillR m t y).f 5)) := by rw [cell_of_row _ _ _ _ _ _ hbb]; rfl
                have b7 : wr.cell? ⟨wz.heap.size, 7, none⟩ = some (.int .i64 ((fillR m t y).f 6)) := by rw [cell_of_row _ _ _ _ _ _ hbb]; rfl
                have b8 : wr.cell? ⟨wz.heap.size, 8, none⟩ = some (.int .i64 ((fillR m t y).f 7)) := by rw [cell_of_row _ _ _ _ _ _ hbb]; rfl
                have HBX : Hid (Below wz.heap.size wz wr) := Lib.hid (HBK.out.trans (HKP.out.below HBK.out.size (fun k e => by omega)))
                have HBXA : Hid (Below wz.heap.size wz (wr.alloc (.cells #[.int .i64 (fillR m t y).s, .int .i64 (fillR m t y).g, .int .i64 (fillR m t y).m, .int .i64 ((fillR m t y).f 0), .int .i64 ((fillR m t y).f 1), .int .i64 ((fillR m t y).f 2), .int .i64 ((fillR m t y).f 3), .int .i64 ((fillR m t y).f 4), .int .i64 ((fillR m t y).f 5), .int .i64 ((fillR m t y).f 6), .int .i64 ((fillR m t y).f 7)] 41))) := Lib.hid (nb_alloc HBX.out _)
                clear hB hbb
                go_wp2_with fail
                refine (tabAdd_any p F m (fillL m zs t) (fillR m t y) _ (HO.out.later HBXA.out).t (by rw [fillL_len]; omega)).mono ?_
                rintro e w2 ⟨rfl, F2, ht2, hk2, hm2⟩
                have hE : addE m (fillR m t y) = 0 := fillR_ok m0 m1 t y
                have hadd : addL m (fillL m zs t) (fillR m t y) = fillL m zs t ++ [fillR m t y] := by rw [addL, if_pos hE]
                have haddN : addN m (fillL m zs t) (fillR m t y) = (t : Int) := by rw [addN, if_pos hE, fillL_len]
                rw [hadd] at ht2
                rw [haddN, hE]
                have hnF : ¬ F wr.heap.size := fun f => by have := HO.out.t.lt _ f; have := HBX.out.size; omega
                have hrr : w2.heap[wr.heap.size]? = some (.cells #[.int .i64 (fillR m t y).s, .int .i64 (fillR m t y).g, .int .i64 (fillR m t y).m, .int .i64 ((fillR m t y).f 0), .int .i64 ((fillR m t y).f 1), .int .i64 ((fillR m t y).f 2), .int .i64 ((fillR m t y).f 3), .int .i64 ((fillR m t y).f 4), .int .i64 ((fillR m t y).f 5), .int .i64 ((fillR m t y).f 6), .int .i64 ((fillR m t y).f 7)] 41) := by rw [hk2.block _ (by simp) hnF]; exact heap_alloc_new wr _
                have hrl := (Array.getElem?_eq_some_iff.1 hrr).1
                have k0 : w2.cell? ⟨wr.heap.size, 0, none⟩ = some (.int .i64 (fillR m t y).s) := by rw [cell_of_row _ _ _ _ _ _ hrr]; rfl
                have k1 : w2.cell? ⟨wr.heap.size, 1, none⟩ = some (.int .i64 (fillR m t y).g) := by rw [cell_of_row _ _ _ _ _ _ hrr]; rfl
                have k2 : w2.cell? ⟨wr.heap.size, 2, none⟩ = some (.int .i64 (fillR m t y).m) := by rw [cell_of_row _ _ _ _ _ _ hrr]; rfl
                have k3 : w2.cell? ⟨wr.heap.size, 3, none⟩ = some (.int .i64 ((fillR m t y).f 0)) := by rw [cell_of_row _ _ _ _ _ _ hrr]; rfl
                have k4 : w2.cell? ⟨wr.heap.size, 4, none⟩ = some (.int .i64 ((fillR m t y).f 1)) := by rw [cell_of_row _ _ _ _ _ _ hrr]; rfl
                have k5 : w2.cell? ⟨wr.heap.size, 5, none⟩ = some (.int .i64 ((fillR m t y).f 2)) := by rw [cell_of_row _ _ _ _ _ _ hrr]; rfl
                have k6 : w2.cell? ⟨wr.heap.size, 6, none⟩ = some (.int .i64 ((fillR m t y).f 3)) := by rw [cell_of_row _ _ _ _ _ _ hrr]; rfl
                have k7 : w2.cell? ⟨wr.heap.size, 7, none⟩ = some (.int .i64 ((fillR m t y).f 4)) := by rw [cell_of_row _ _ _ _ _ _ hrr]; rfl
                have k8 : w2.cell? ⟨wr.heap.size, 8, none⟩ = some (.int .i64 ((fillR m t y).f 5)) := by rw [cell_of_row _ _ _ _ _ _ hrr]; rfl
                have k9 : w2.cell? ⟨wr.heap.size, 9, none⟩ = some (.int .i64 ((fillR m t y).f 6)) := by rw [cell_of_row _ _ _ _ _ _ hrr]; rfl
                have k10 : w2.cell? ⟨wr.heap.size, 10, none⟩ = some (.int .i64 ((fillR m t y).f 7)) := by rw [cell_of_row _ _ _ _ _ _ hrr]; rfl
                have HOX := Lib.hid (HO.out.later HBXA.out)
                have HOWX := Lib.hid (HOW.out.later HBXA.out)
                have HOW2 := Lib.hid (HOWX.out.kept hk2 HAP.out)
                have HT2 := Lib.hid ht2
                have HK2 := Lib.hid hk2
                have HM2 := Lib.hid hm2
                have HLN : Hid ((fillL m zs t).length = t) := Lib.hid (fillL_len m zs t)
                have hne2 : ((t : Int) != (t : Int)) = false := by simp
                clear ht2 hk2 hm2 hadd haddN hE hnF hrr b0 b1 b2 b3 b4 b5 b6 b7 b8
                go_wp2_with (first | (at_builtin; refine wpList_append_lies _ rfl _ _ 28 rfl w.heap.size 41 i0 _ 11 88 Try.underlying28 hi0 hz0 hz1 hz2 rfl (by decide) _ _ _ rfl (World.ownsRow.alloc HOW2.out _) ⟨w2.heap.size, 0, none⟩ 1 1 [.int .i64 (fillR m t y).s, .int .i64 (fillR m t y).g, .int .i64 (fillR m t y).m, .int .i64 ((fillR m t y).f 0), .int .i64 ((fillR m t y).f 1), .int .i64 ((fillR m t y).f 2), .int .i64 ((fillR m t y).f 3), .int .i64 ((fillR m t y).f 4), .int .i64 ((fillR m t y).f 5), .int .i64 ((fillR m t y).f 6), .int .i64 ((fillR m t y).f 7)] rfl rfl (by exact World.news_of_block (heap_alloc_new w2 _)) (elRow.one (fillR m t y)) (by decide) (by rw [HLN.out]; unfold maxLen; omega) (by rw [HLN.out]; omega) (by have := HOX.out.below.size; have := HK2.out.size; simp at *; omega) _ rfl ?_))
                intro g cap' w3 hown hgr hat hg2
                have HN : Hid (FillI w w3 p m (fillL m zs (t + 1)) (.slice (some ⟨g, 0, none⟩) ((fillL m zs t).length + 1) cap')) := Lib.hid (by
                  rw [fillL, HY.out]
                  exact FillI.snoc HOX.out HOWX.out HAP.out HT2.out HK2.out HM2.out (nb_alloc (Below.refl _ _) _) hgr (by simpa using hat) hown)
                clear hown hgr hat
                go_wp2
                go_roundw
                case rel => exact ⟨t + 1, by omega, by go_num, HN⟩
                case measure => simp [intOf]; omega
        · have HTM : Hid (t = n) := Lib.hid (by omega)
          go_wp2
          go_ret2
          exact HRET.out t (HMM.out.trans HTM.out.symm) p _ wr hFI.out
end Go.Proofs.Ytdlbljheobkfaaa

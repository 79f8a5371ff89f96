/- The contracts of package diff: valid, store, get, change. -/
import Derived.Test.YtcmpaohefihijabGreatDoorDiffMap
import Derived.Test.YtcmpaohefihijabGreatDoorDVars
import Derived.Deep.RegionHeld3
import Derived.Test.YtcmpaohefihijabGreatDoorGroundA
namespace Go.Proofs.YtcmpaohefihijabGreatDoor
set_option maxRecDepth 8000
open Go.RowKit Go.Maps Go.ChangeMaps

theorem drop_at {l : List Ro} {k : Nat} (h : k < l.length) : l.drop k = l.getD k roZ :: l.drop (k + 1) := by
  rw [List.drop_eq_getElem_cons h, List.getD_eq_getElem?_getD, List.getElem?_eq_getElem h]; rfl
set_option maxHeartbeats 4000000 in
theorem dvalid_any (u : Value) (l : List Ro) (w : World) (h : Reads elRo w u l) : Calls Tryz.prog 27 #[u] w fun e w' => e = .returned (.bool (valid l)) ∧ Below w.heap.size w w' := by
  obtain ⟨a, cap, rfl, hlc, hm, hc⟩ := h
  unfold maxLen at hm
  obtain ⟨n, hn⟩ : ∃ n, l.length = n := ⟨_, rfl⟩
  have HN := Lib.hid hn
  rw [hn] at hlc hc ⊢
  have HC := Lib.hid hc
  clear hn hc
  go_enter Tryz.func27, Tryz.ntmps27
  go_wp2
  go_loopw [3, 8] (fun x i wr => ∃ (k : Nat) (s : Int), k ≤ n ∧ x = .int .i64 s ∧ i = .int .i64 k ∧ -1 ≤ s ∧ Hid (valid l = valT s (l.drop k)) ∧ Hid (Below w.heap.size w wr)) (fun _ i _ => n - (intOf i).toNat)
  case atStart => exact ⟨0, -1, by omega, rfl, rfl, by omega, Lib.hid rfl, Below.refl _ _⟩
  case round =>
    obtain ⟨k, s, hk, rfl, rfl, hs, hv, hB⟩ := hrel
    by_cases hlt : k < n
    · obtain ⟨bb, off, rfl, hbb, hck⟩ := HC.out k hlt
      have hcr : ∀ j, j < 11 → wr.cell? ⟨bb, off + k * 11 + j, none⟩ = (elRo.enc (l.getD k roZ))[j]? := fun j hj => by rw [hB.out.cell (p := ⟨bb, _, none⟩) hbb]; exact hck j hj
      have hdr := drop_at (l := l) (k := k) (by rw [HN.out]; exact hlt)
      obtain ⟨y, hy⟩ : ∃ y, l.getD k roZ = y := ⟨_, rfl⟩
      rw [hy] at hcr hdr
      obtain ⟨⟨ys, yg⟩, ym, y0, y1, y2, y3, y4, y5, y6, y7⟩ := y
      have HV : Hid (valid l = valT s (((ys, yg), ym, y0, y1, y2, y3, y4, y5, y6, y7) :: l.drop (k + 1))) := Lib.hid (by rw [hv.out, hdr])
      have hbw : bb < wr.heap.size := Nat.lt_of_lt_of_le hbb hB.out.size
      obtain ⟨c0, c1, c2, c3, c4, c5, c6, c7, c8, c9, c10⟩ := cRo (O := off + k * 11) hcr
      clear hck hcr hdr hy hv
      have hcb := fun W => checkBeast_any ym y0 y1 y2 y3 y4 y5 y6 y7 W
      obtain ⟨z, hz⟩ : ∃ z, bErr ym [y0, y1, y2, y3, y4, y5, y6, y7] = z := ⟨_, rfl⟩
      simp only [hz] at hcb
      have HZ := Lib.hid hz
      have HCB := Lib.hid hcb
      clear hz hcb
      by_cases h1 : ys ≤ s
      · have HF : Hid (valid l = false) := Lib.hid (by rw [HV.out, valT, decide_eq_false (by omega : ¬ s < ys)]; rfl)
        go_wp2
        go_ret
        exact ⟨ret_bool HF.out.symm, nb_alloc hB.out _⟩
      by_cases h2 : 60 ≤ ys
      · have HF : Hid (valid l = false) := Lib.hid (by rw [HV.out, valT, roOk, inB, decide_eq_false (by omega : ¬ ys ≤ 59)]; simp)
        go_wp2
        go_ret
        exact ⟨ret_bool HF.out.symm, nb_alloc hB.out _⟩
      by_cases h3 : yg < 0
      · have HF : Hid (valid l = false) := Lib.hid (by rw [HV.out, valT, roOk, inB, inB, decide_eq_false (by omega : ¬ 0 ≤ yg)]; simp)
        go_wp2
        go_ret
        exact ⟨ret_bool HF.out.symm, nb_alloc hB.out _⟩
      by_cases h4 : 1000000 < yg
      · have HF : Hid (valid l = false) := Lib.hid (by rw [HV.out, valT, roOk, inB, inB, decide_eq_false (by omega : ¬ yg ≤ 1000000)]; simp)
        go_wp2
        go_ret
        exact ⟨ret_bool HF.out.symm, nb_alloc hB.out _⟩
      have HB2 : Hid (∀ o o', Below w.heap.size w ((wr.alloc o).alloc o')) := Lib.hid (fun o o' => nb_alloc (nb_alloc hB.out _) _)
      by_cases h5 : z = 0
      · subst h5
        have HT : Hid (valid l = valT ys (l.drop (k + 1))) := Lib.hid (by
          rw [HV.out, valT, roOk, inB, inB]
          simp only [beL, HZ.out, decide_eq_true (by omega : s < ys), decide_eq_true (by omega : 0 ≤ ys), decide_eq_true (by omega : ys ≤ 59), decide_eq_true (by omega : 0 ≤ yg), decide_eq_true (by omega : yg ≤ 1000000), decide_true, Bool.true_and])
        go_wp2_with (go_at_call 49; refine (HCB.out _).mono ?_; rintro e w' ⟨rfl, rfl⟩)
        go_roundw
        case rel => exact ⟨k + 1, ys, by omega, rfl, by go_num, by omega, HT, HB2.out _ _⟩
        case measure => simp [intOf]; omega
      · have HF : Hid (valid l = false) := Lib.hid (by
          rw [HV.out, valT, roOk]
          simp only [beL, HZ.out, decide_eq_false h5, Bool.and_false, Bool.false_and])
        have h5' : (z != 0) = true := by simpa using h5
        go_wp2_with (go_at_call 49; refine (HCB.out _).mono ?_; rintro e w' ⟨rfl, rfl⟩)
        go_ret
        exact ⟨ret_bool HF.out.symm, HB2.out _ _⟩
    · obtain rfl : k = n := by omega
      have HT : Hid (valid l = true) := Lib.hid (by rw [hv.out, List.drop_of_length_le (by rw [HN.out]; exact Nat.le_refl _)]; rfl)
      go_wp2
      go_ret
      exact ⟨ret_bool HT.out.symm, hB.out⟩

set_option maxHeartbeats 4000000 in
theorem get_any (b n : Nat) (M : Hd → Be) (h1 h2 : Int) (w : World) (hM : MapF w b n M) (hx : kHand.ok (h1, h2)) (hv : DVars w) :
    Calls Tryz.prog 31 #[.map (some b), .agg #[.int .i64 h1, .int .i64 h2]] w fun e w' => e = .returned (beV (M (h1, h2))) ∧ Below w.heap.size w w' := by
  have hX : Below w.heap.size w ((w.alloc (.cells #[.int .i64 h1, .int .i64 h2] 34)).alloc (.cells #[.int .i64 0, .int .i64 0, .int .i64 0, .int .i64 0, .int .i64 0, .int .i64 0, .int .i64 0, .int .i64 0, .int .i64 0] 37)) := nb_alloc (nb_alloc (Below.refl _ _) _) _
  have hlk := (hM.later hX).look (t := 91) (e := 37) Tryz.underlying91 (z := .agg #[.int .i64 0, .int .i64 0, .int .i64 0, .int .i64 0, .int .i64 0, .int .i64 0, .int .i64 0, .int .i64 0, .int .i64 0]) (Tryz.zeroValue37 _) h1 h2 hx
  obtain ⟨g0, g1, g2, g3, g4, g5, g6, g7, g8⟩ := hv.cells
  have hgl := hv.lt
  have HX := Lib.hid hX
  clear hM hx hv hX
  by_cases hM0 : M (h1, h2) = noB
  · rw [hM0] at hlk ⊢
    simp only [if_true, decide_true, Bool.not_true] at hlk
    clear hM0
    go_enter Tryz.func31, Tryz.ntmps31
    go_wp2
    refine bodyPost_ret (v := .agg #[.int .i64 (-1), .int .i64 0, .int .i64 0, .int .i64 0, .int .i64 0, .int .i64 0, .int .i64 0, .int .i64 0, .int .i64 0]) (by simp [results, Tryz.results31, go_sem]) rfl ⟨rfl, nb_alloc (nb_alloc (nb_alloc (Below.refl _ _) _) _) _⟩
  · simp only [hM0, if_false, decide_false, Bool.not_false] at hlk
    obtain ⟨y, hy⟩ : ∃ y, M (h1, h2) = y := ⟨_, rfl⟩
    rw [hy] at hlk ⊢
    clear hM0 hy
    obtain ⟨m, a0, a1, a2, a3, a4, a5, a6, a7⟩ := y
    go_enter Tryz.func31, Tryz.ntmps31
    go_wp2
    refine bodyPost_ret (v := .agg #[.int .i64 m, .int .i64 a0, .int .i64 a1, .int .i64 a2, .int .i64 a3, .int .i64 a4, .int .i64 a5, .int .i64 a6, .int .i64 a7]) (by simp [results, Tryz.results31, go_sem]) rfl ⟨rfl, nb_alloc (nb_alloc (nb_alloc (Below.refl _ _) _) _) _⟩
set_option maxHeartbeats 4000000 in
theorem store_any (u : Value) (l : List Ro) (w : World) (h : Reads elRo w u l) (hv : valid l = true) :
    Calls Tryz.prog 28 #[u] w fun e w' => e = .returned (.map (some w.heap.size)) ∧ MapF w' w.heap.size 60 (atB l) ∧ Below w.heap.size w w' := by
  obtain ⟨a, cap, rfl, hlc, hm, hc⟩ := h
  unfold maxLen at hm
  obtain ⟨n, hn⟩ : ∃ n, l.length = n := ⟨_, rfl⟩
  have HN := Lib.hid hn
  have hl := valid_len hv
  rw [hn] at hlc hc hl ⊢
  have HC := Lib.hid hc
  have HU := Lib.hid (valid_ups hv)
  have HOK : Hid (∀ r ∈ l, kHand.ok r.1 ∧ r.2 ≠ noB) := Lib.hid (fun r hr => by
    have := (valT_all hv r hr).2
    obtain ⟨⟨h1, h2⟩, h3, h4⟩ := roOk_hd this
    exact ⟨⟨⟨by omega, by omega⟩, by omega, by omega⟩, roOk_none this⟩)
  have hmk : ∀ x : World, (Instr.makeMap 91 none).run Tryz.prog x = .ok (.map (some x.heap.size)) (x.alloc (.map #[] 0)) := run_makeMap 91
  have HM0 := Lib.hid (MapF.new w)
  have HX := Lib.hid (nb_alloc (Below.refl w.heap.size w) (.map #[] 0))
  clear hn hc hv
  go_enter Tryz.func28, Tryz.ntmps28
  go_wp2
  clear hmk
  go_loopw [9] (fun i wr => ∃ k : Nat, k ≤ n ∧ i = .int .i64 k ∧ Hid (MapF wr w.heap.size k (atB (l.take k))) ∧ Hid (Below w.heap.size w wr)) (fun i _ => n - (intOf i).toNat)
  case atStart => exact ⟨0, by omega, rfl, HM0, HX⟩
  case round =>
    obtain ⟨k, hk, rfl, hM, hB⟩ := hrel
    by_cases hlt : k < n
    · obtain ⟨bb, off, rfl, hbb, hck⟩ := HC.out k hlt
      have hkl : k < l.length := by rw [HN.out]; exact hlt
      have hcr : ∀ j, j < 11 → wr.cell? ⟨bb, off + k * 11 + j, none⟩ = (elRo.enc (l.getD k roZ))[j]? := fun j hj => by rw [hB.out.cell (p := ⟨bb, _, none⟩) hbb]; exact hck j hj
      have hst := fun x => atB_step HU.out hkl x
      have hok := HOK.out _ (memD (d := roZ) hkl)
      obtain ⟨y, hy⟩ : ∃ y, l.getD k roZ = y := ⟨_, rfl⟩
      rw [hy] at hcr hst hok
      obtain ⟨⟨ys, yg⟩, ym, y0, y1, y2, y3, y4, y5, y6, y7⟩ := y
      have HST := Lib.hid hst
      have HO := Lib.hid hok
      have hbw : bb < wr.heap.size := Nat.lt_of_lt_of_le hbb hB.out.size
      obtain ⟨c0, c1, c2, c3, c4, c5, c6, c7, c8, c9, c10⟩ := cRo (O := off + k * 11) hcr
      clear hck hcr hy hst hok hkl
      have HM2 := Lib.hid (hM.out.later (nb_alloc (Below.refl _ _) (.cells #[.int .i64 ys, .int .i64 yg, .int .i64 ym, .int .i64 y0, .int .i64 y1, .int .i64 y2, .int .i64 y3, .int .i64 y4, .int .i64 y5, .int .i64 y6, .int .i64 y7] 39)))
      have HB2 := Lib.hid (nb_alloc hB.out (.cells #[.int .i64 ys, .int .i64 yg, .int .i64 ym, .int .i64 y0, .int .i64 y1, .int .i64 y2, .int .i64 y3, .int .i64 y4, .int .i64 y5, .int .i64 y6, .int .i64 y7] 39))
      go_wp2_with (at_mapUpdate; refine wpList_putF _ rfl _ _ _ 91 rfl 37 Tryz.underlying91 rfl HM2.out (by unfold maxLen; omega) (ys, yg) HO.out.1 (ym, y0, y1, y2, y3, y4, y5, y6, y7) HO.out.2 rfl rfl ?_)
      intro w3 hM3 hk3
      have HM3 := Lib.hid (hM3.congr (N := atB (l.take (k + 1))) (fun x => (HST.out x).symm))
      have HB3 := Lib.hid (HB2.out.trans (hk3.below HB2.out.size (fun b e => by omega)))
      clear hM3 hk3
      go_wp2
      go_roundw
      case rel => exact ⟨k + 1, by omega, by go_num, HM3, HB3⟩
      case measure => simp [intOf]; omega
    · obtain rfl : k = n := by omega
      have HE := Lib.hid (hM.out.mono hl)
      rw [List.take_of_length_le (by rw [HN.out]; exact Nat.le_refl _)] at HE
      go_wp2
      go_ret
      exact ⟨rfl, HE.out, hB.out⟩

def stepF (M : Hd → Be) (c : Ch) : Int := if c.2.1 = c.2.2 then 4 else if M c.1 = c.2.1 then 0 else 5
def nextF (M : Hd → Be) (c : Ch) : Hd → Be := if stepF M c = 0 then fun y => if y = c.1 then c.2.2 else M y else M
end Go.Proofs.YtcmpaohefihijabGreatDoor

/- The contracts of package diff: valid, store, get, change. -/
import Derived.Test.YtnmlapoiilckhaaDoorDiffMap
import Derived.Test.YtnmlapoiilckhaaDoorDVars
import Derived.Deep.RegionHeld3
import Derived.Test.YtnmlapoiilckhaaDoorGroundA
namespace Go.Proofs.YtnmlapoiilckhaaDoor
set_option maxRecDepth 8000
open Go.RowKit Go.Maps Go.ChangeMaps

theorem drop_at {l : List Ro} {k : Nat} (h : k < l.length) : l.drop k = l.getD k roZ :: l.drop (k + 1) := by
  rw [List.drop_eq_getElem_cons h, List.getD_eq_getElem?_getD, List.getElem?_eq_getElem h]; rfl
set_option maxHeartbeats 4000000 in
theorem dvalid_any (u : Value) (l : List Ro) (w : World) (h : Reads elRo w u l) : Calls Tryd.prog 17 #[u] w fun e w' => e = .returned (.bool (valid l)) ∧ Below w.heap.size w w' := by
  obtain ⟨a, cap, rfl, hlc, hm, hc⟩ := h
  unfold maxLen at hm
  obtain ⟨n, hn⟩ : ∃ n, l.length = n := ⟨_, rfl⟩
  have HN := Lib.hid hn
  rw [hn] at hlc hc ⊢
  have HC := Lib.hid hc
  clear hn hc
  go_enter Tryd.func17, Tryd.ntmps17
  go_wp2
  go_loopw [3, 8] (fun x i wr => ∃ (k : Nat) (s : Int), k ≤ n ∧ x = .int .i64 s ∧ i = .int .i64 k ∧ -1 ≤ s ∧ Hid (valid l = valT s (l.drop k)) ∧ Hid (Below w.heap.size w wr)) (fun _ i _ => n - (intOf i).toNat)
  case atStart => exact ⟨0, -1, by omega, rfl, rfl, by omega, Lib.hid rfl, Below.refl _ _⟩
  case round =>
    obtain ⟨k, s, hk, rfl, rfl, hs, hv, hB⟩ := hrel
    by_cases hlt : k < n
    · obtain ⟨bb, off, rfl, hbb, hck⟩ := HC.out k hlt
      have hcr : ∀ j, j < 11 → wr.cell? ⟨bb, off + k * 11 + j, none⟩ = (elRo.enc (l.getD k roZ))[j]? := fun j hj => by rw [hB.out.cell (p := ⟨bb, _, none⟩) hbb]; exact hck j hj
      have hdr := drop_at (l := l) (k := k) (by rw [HN.out]; exact hlt)
      obtain ⟨y, hy⟩ : ∃ y, l.getD k roZ = y := ⟨_, rfl⟩
      rw [hy] at hcr hdr
      obtain ⟨⟨ys, yg⟩, ym, y0, y1, y2, y3, y4, y5, y6, y7⟩ := y
      have HV : Hid (valid l = valT s (((ys, yg), ym, y0, y1, y2, y3, y4, y5, y6, y7) :: l.drop (k + 1))) := Lib.hid (by rw [hv.out, hdr])
      have hbw : bb < wr.heap.size := Nat.lt_of_lt_of_le hbb hB.out.size
      obtain ⟨c0, c1, c2, c3, c4, c5, c6, c7, c8, c9, c10⟩ := cRo (O := off + k * 11) hcr
      clear hck hcr hdr hy hv
      have hcb := fun W => checkBeast_any ym y0 y1 y2 y3 y4 y5 y6 y7 W
      obtain ⟨z, hz⟩ : ∃ z, bErr ym [y0, y1, y2, y3, y4, y5, y6, y7] = z := ⟨_, rfl⟩
      simp only [hz] at hcb
      have HZ := Lib.hid hz
      have HCB := Lib.hid hcb
      clear hz hcb
      by_cases h1 : ys ≤ s
      · have HF : Hid (valid l = false) := Lib.hid (by rw [HV.out, valT, decide_eq_false (by omega : ¬ s < ys)]; rfl)
        go_wp2
        go_ret
        exact ⟨ret_bool HF.out.symm, nb_alloc hB.out _⟩
      by_cases h2 : 60 ≤ ys
      · have HF : Hid (valid l = false) := Lib.hid (by rw [HV.out, valT, roOk, inB, decide_eq_false (by omega : ¬ ys ≤ 59)]; simp)
        go_wp2
        go_ret
        exact ⟨ret_bool HF.out.symm, nb_alloc hB.out _⟩
      by_cases h3 : yg < 0
      · have HF : Hid (valid l = false) := Lib.hid (by rw [HV.out, valT, roOk, inB, inB, decide_eq_false (by omega : ¬ 0 ≤ yg)]; simp)
        go_wp2
        go_ret
        exact ⟨ret_bool HF.out.symm, nb_alloc hB.out _⟩
      by_cases h4 : 1000000 < yg
      · have HF : Hid (valid l = false) := Lib.hid (by rw [HV.out, valT, roOk, inB, inB, decide_eq_false (by omega : ¬ yg ≤ 1000000)]; simp)
        go_wp2
        go_ret
        exact ⟨ret_bool HF.out.symm, nb_alloc hB.out _⟩
      have HB2 : Hid (∀ o o', Below w.heap.size w ((wr.alloc o).alloc o')) := Lib.hid (fun o o' => nb_alloc (nb_alloc hB.out _) _)
      by_cases h5 : z = 0
      · subst h5
        have HT : Hid (valid l = valT ys (l.drop (k + 1))) := Lib.hid (by
          rw [HV.out, valT, roOk, inB, inB]
          simp only [beL, HZ.out, decide_eq_true (by omega : s < ys), decide_eq_true (by omega : 0 ≤ ys), decide_eq_true (by omega : ys ≤ 59), decide_eq_true (by omega : 0 ≤ yg), decide_eq_true (by omega : yg ≤ 1000000), decide_true, Bool.true_and])
        go_wp2_with (go_at_call 35; refine (HCB.out _).mono ?_; rintro e w' ⟨rfl, rfl⟩)
        go_roundw
        case rel => exact ⟨k + 1, ys, by omega, rfl, by go_num, by omega, HT, HB2.out _ _⟩
        case measure => simp [intOf]; omega
      · have HF : Hid (valid l = false) := Lib.hid (by
          rw [HV.out, valT, roOk]
          simp only [beL, HZ.out, decide_eq_false h5, Bool.and_false, Bool.false_and])
        have h5' : (z != 0) = true := by simpa using h5
        go_wp2_with (go_at_call 35; refine (HCB.out _).mono ?_; rintro e w' ⟨rfl, rfl⟩)
        go_ret
        exact ⟨ret_bool HF.out.symm, HB2.out _ _⟩
    · obtain rfl : k = n := by omega
      have HT : Hid (valid l = true) := Lib.hid (by rw [hv.out, List.drop_of_length_le (by rw [HN.out]; exact Nat.le_refl _)]; rfl)
      go_wp2
      go_ret
      exact ⟨ret_bool HT.out.symm, hB.out⟩

set_option maxHeartbeats 4000000 in
theorem get_any (b n : Nat) (M : Hd → Be) (h1 h2 : Int) (w : World) (hM : MapF w b n M) (hx : kHand.ok (h1, h2)) (hv : DVars w) :
    Calls Tryd.prog 21 #[.map (some b), .agg #[.int .i64 h1, .int .i64 h2]] w fun e w' => e = .returned (beV (M (h1, h2))) ∧ Below w.heap.size w w' := by
  have hX : Below w.heap.size w ((w.alloc (.cells #[.int .i64 h1, .int .i64 h2] 28)).alloc (.cells #[.int .i64 0, .int .i64 0, .int .i64 0, .int .i64 0, .int .i64 0, .int .i64 0, .int .i64 0, .int .i64 0, .int .i64 0] 31)) := nb_alloc (nb_alloc (Below.refl _ _) _) _
  have hlk := (hM.later hX).look (t := 46) (e := 31) Tryd.underlying46 (z := .agg #[.int .i64 0, .int .i64 0, .int .i64 0, .int .i64 0, .int .i64 0, .int .i64 0, .int .i64 0, .int .i64 0, .int .i64 0]) (Tryd.zeroValue31 _) h1 h2 hx
  obtain ⟨g0, g1, g2, g3, g4, g5, g6, g7, g8⟩ := hv.cells
  have hgl := hv.lt
  have HX := Lib.hid hX
  clear hM hx hv hX
  by_cases hM0 : M (h1, h2) = noB
  · rw [hM0] at hlk ⊢
    simp only [if_true, decide_true, Bool.not_true] at hlk
    clear hM0
    go_enter Tryd.func21, Tryd.ntmps21
    go_wp2
    refine bodyPost_ret (v := .agg #[.int .i64 (-1), .int .i64 0, .int .i64 0, .int .i64 0, .int .i64 0, .int .i64 0, .int .i64 0, .int .i64 0, .int .i64 0]) (by simp [results, Tryd.results21, go_sem]) rfl ⟨rfl, nb_alloc (nb_alloc (nb_alloc (Below.refl _ _) _) _) _⟩
  · simp only [hM0, if_false, decide_false, Bool.not_false] at hlk
    obtain ⟨y, hy⟩ : ∃ y, M (h1, h2) = y := ⟨_, rfl⟩
    rw [hy] at hlk ⊢
    clear hM0 hy
    obtain ⟨m, a0, a1, a2, a3, a4, a5, a6, a7⟩ := y
    go_enter Tryd.func21, Tryd.ntmps21
    go_wp2
    refine bodyPost_ret (v := .agg #[.int .i64 m, .int .i64 a0, .int .i64 a1, .int .i64 a2, .int .i64 a3, .int .i64 a4, .int .i64 a5, .int .i64 a6, .int .i64 a7]) (by simp [results, Tryd.results21, go_sem]) rfl ⟨rfl, nb_alloc (nb_alloc (nb_alloc (Below.refl _ _) _) _) _⟩
set_option maxHeartbeats 4000000 in
theorem store_any (u : Value) (l : List Ro) (w : World) (h : Reads elRo w u l) (hv : valid l = true) :
    Calls Tryd.prog 18 #[u] w fun e w' => e = .returned (.map (some w.heap.size)) ∧ MapF w' w.heap.size 60 (atB l) ∧ Below w.heap.size w w' := by
  obtain ⟨a, cap, rfl, hlc, hm, hc⟩ := h
  unfold maxLen at hm
  obtain ⟨n, hn⟩ : ∃ n, l.length = n := ⟨_, rfl⟩
  have HN := Lib.hid hn
  have hl := valid_len hv
  rw [hn] at hlc hc hl ⊢
  have HC := Lib.hid hc
  have HU := Lib.hid (valid_ups hv)
  have HOK : Hid (∀ r ∈ l, kHand.ok r.1 ∧ r.2 ≠ noB) := Lib.hid (fun r hr => by
    have := (valT_all hv r hr).2
    obtain ⟨⟨h1, h2⟩, h3, h4⟩ := roOk_hd this
    exact ⟨⟨⟨by omega, by omega⟩, by omega, by omega⟩, roOk_none this⟩)
  have hmk : ∀ x : World, (Instr.makeMap 46 none).run Tryd.prog x = .ok (.map (some x.heap.size)) (x.alloc (.map #[] 0)) := run_makeMap 46
  have HM0 := Lib.hid (MapF.new w)
  have HX := Lib.hid (nb_alloc (Below.refl w.heap.size w) (.map #[] 0))
  clear hn hc hv
  go_enter Tryd.func18, Tryd.ntmps18
  go_wp2
  clear hmk
  go_loopw [9] (fun i wr => ∃ k : Nat, k ≤ n ∧ i = .int .i64 k ∧ Hid (MapF wr w.heap.size k (atB (l.take k))) ∧ Hid (Below w.heap.size w wr)) (fun i _ => n - (intOf i).toNat)
  case atStart => exact ⟨0, by omega, rfl, HM0, HX⟩
  case round =>
    obtain ⟨k, hk, rfl, hM, hB⟩ := hrel
    by_cases hlt : k < n
    · obtain ⟨bb, off, rfl, hbb, hck⟩ := HC.out k hlt
      have hkl : k < l.length := by rw [HN.out]; exact hlt
      have hcr : ∀ j, j < 11 → wr.cell? ⟨bb, off + k * 11 + j, none⟩ = (elRo.enc (l.getD k roZ))[j]? := fun j hj => by rw [hB.out.cell (p := ⟨bb, _, none⟩) hbb]; exact hck j hj
      have hst := fun x => atB_step HU.out hkl x
      have hok := HOK.out _ (memD (d := roZ) hkl)
      obtain ⟨y, hy⟩ : ∃ y, l.getD k roZ = y := ⟨_, rfl⟩
      rw [hy] at hcr hst hok
      obtain ⟨⟨ys, yg⟩, ym, y0, y1, y2, y3, y4, y5, y6, y7⟩ := y
      have HST := Lib.hid hst
      have HO := Lib.hid hok
      have hbw : bb < wr.heap.size := Nat.lt_of_lt_of_le hbb hB.out.size
      obtain ⟨c0, c1, c2, c3, c4, c5, c6, c7, c8, c9, c10⟩ := cRo (O := off + k * 11) hcr
      clear hck hcr hy hst hok hkl
      have HM2 := Lib.hid (hM.out.later (nb_alloc (Below.refl _ _) (.cells #[.int .i64 ys, .int .i64 yg, .int .i64 ym, .int .i64 y0, .int .i64 y1, .int .i64 y2, .int .i64 y3, .int .i64 y4, .int .i64 y5, .int .i64 y6, .int .i64 y7] 33)))
      have HB2 := Lib.hid (nb_alloc hB.out (.cells #[.int .i64 ys, .int .i64 yg, .int .i64 ym, .int .i64 y0, .int .i64 y1, .int .i64 y2, .int .i64 y3, .int .i64 y4, .int .i64 y5, .int .i64 y6, .int .i64 y7] 33))
      go_wp2_with (at_mapUpdate; refine wpList_putF _ rfl _ _ _ 46 rfl 31 Tryd.underlying46 rfl HM2.out (by unfold maxLen; omega) (ys, yg) HO.out.1 (ym, y0, y1, y2, y3, y4, y5, y6, y7) HO.out.2 rfl rfl ?_)
      intro w3 hM3 hk3
      have HM3 := Lib.hid (hM3.congr (N := atB (l.take (k + 1))) (fun x => (HST.out x).symm))
      have HB3 := Lib.hid (HB2.out.trans (hk3.below HB2.out.size (fun b e => by omega)))
      clear hM3 hk3
      go_wp2
      go_roundw
      case rel => exact ⟨k + 1, by omega, by go_num, HM3, HB3⟩
      case measure => simp [intOf]; omega
    · obtain rfl : k = n := by omega
      have HE := Lib.hid (hM.out.mono hl)
      rw [List.take_of_length_le (by rw [HN.out]; exact Nat.le_refl _)] at HE
      go_wp2
      go_ret
      exact ⟨rfl, HE.out, hB.out⟩

def stepF (M : Hd → Be) (c : Ch) : Int := if c.2.1 = c.2.2 then 4 else if M c.1 = c.2.1 then 0 else 5
def nextF (M : Hd → Be) (c : Ch) : Hd → Be := if stepF M c = 0 then fun y => if y = c.1 then c.2.2 else M y else M
set_option maxHeartbeats 4000000 in
theorem change_any (b n : Nat) (M : Hd → Be) (s g m a0 a1 a2 a3 a4 a5 a6 a7 q b0 b1 b2 b3 b4 b5 b6 b7 : Int) (w : World) (hM : MapF w b n M) (hn : n < maxLen) (hx : kHand.ok (s, g)) (hv : DVars w) :
    Calls Tryd.prog 28 #[.map (some b), .agg #[.int .i64 s, .int .i64 g, .int .i64 m, .int .i64 a0, .int .i64 a1, .int .i64 a2, .int .i64 a3, .int .i64 a4, .int .i64 a5, .int .i64 a6, .int .i64 a7, .int .i64 q, .int .i64 b0, .int .i64 b1, .int .i64 b2, .int .i64 b3, .int .i64 b4, .int .i64 b5, .int .i64 b6, .int .i64 b7]] w fun e w' => e = .returned (.int .i64 (stepF M ((s, g), (m, a0, a1, a2, a3, a4, a5, a6, a7), q, b0, b1, b2, b3, b4, b5, b6, b7))) ∧ MapF w' b (n + 1) (nextF M ((s, g), (m, a0, a1, a2, a3, a4, a5, a6, a7), q, b0, b1, b2, b3, b4, b5, b6, b7)) ∧ Kept (fun q => q = b) w w' := by
  have HX := Lib.hid (nb_alloc (Below.refl w.heap.size w) (.cells #[.int .i64 s, .int .i64 g, .int .i64 m, .int .i64 a0, .int .i64 a1, .int .i64 a2, .int .i64 a3, .int .i64 a4, .int .i64 a5, .int .i64 a6, .int .i64 a7, .int .i64 q, .int .i64 b0, .int .i64 b1, .int .i64 b2, .int .i64 b3, .int .i64 b4, .int .i64 b5, .int .i64 b6, .int .i64 b7] 36))
  have HK0 : Hid (Kept (fun q => q = b) w (w.alloc (.cells #[.int .i64 s, .int .i64 g, .int .i64 m, .int .i64 a0, .int .i64 a1, .int .i64 a2, .int .i64 a3, .int .i64 a4, .int .i64 a5, .int .i64 a6, .int .i64 a7, .int .i64 q, .int .i64 b0, .int .i64 b1, .int .i64 b2, .int .i64 b3, .int .i64 b4, .int .i64 b5, .int .i64 b6, .int .i64 b7] 36))) := Lib.hid (Kept.alloc _ _ _)
  have HM := Lib.hid hM
  have HMs := Lib.hid (hM.mono (Nat.le_succ n))
  by_cases e1 : ((m, a0, a1, a2, a3, a4, a5, a6, a7) : Be) = (q, b0, b1, b2, b3, b4, b5, b6, b7)
  · have HE : Hid (stepF M ((s, g), (m, a0, a1, a2, a3, a4, a5, a6, a7), q, b0, b1, b2, b3, b4, b5, b6, b7) = 4) := Lib.hid (if_pos e1)
    have HN : Hid (nextF M ((s, g), (m, a0, a1, a2, a3, a4, a5, a6, a7), q, b0, b1, b2, b3, b4, b5, b6, b7) = M) := Lib.hid (if_neg (by rw [HE.out]; decide))
    have hq := eqBe (m, a0, a1, a2, a3, a4, a5, a6, a7) (q, b0, b1, b2, b3, b4, b5, b6, b7) true (decide_eq_true e1)
    dsimp only [beV] at hq
    go_enter Tryd.func28, Tryd.ntmps28
    go_wp2
    go_ret
    exact ⟨ret_int HE.out.symm, by rw [HN.out]; exact HMs.out.later HX.out, HK0.out⟩
  · have hq := eqBe (m, a0, a1, a2, a3, a4, a5, a6, a7) (q, b0, b1, b2, b3, b4, b5, b6, b7) false (decide_eq_false e1)
    dsimp only [beV] at hq
    have HE1 := Lib.hid e1
    have HGT := Lib.hid (fun W h1 h2 => get_any b n M s g W (h1 : MapF W b n M) hx h2)
    have HV := Lib.hid hv
    have HHX := Lib.hid hx
    obtain ⟨y, hy⟩ : ∃ y, M (s, g) = y := ⟨_, rfl⟩
    rw [hy] at HGT
    obtain ⟨n0, d0, d1, d2, d3, d4, d5, d6, d7⟩ := y
    clear hM hx hv
    have HGX : Hid (∀ X, Below w.heap.size w X → Calls Tryd.prog 21 #[.map (some b), .agg #[.int .i64 s, .int .i64 g]] X fun e w' => e = .returned (beV (n0, d0, d1, d2, d3, d4, d5, d6, d7)) ∧ Below X.heap.size X w') := Lib.hid (fun X hX => HGT.out X (HM.out.later hX) (HV.out.later hX))
    have hxb : (w.alloc (.cells #[.int .i64 s, .int .i64 g, .int .i64 m, .int .i64 a0, .int .i64 a1, .int .i64 a2, .int .i64 a3, .int .i64 a4, .int .i64 a5, .int .i64 a6, .int .i64 a7, .int .i64 q, .int .i64 b0, .int .i64 b1, .int .i64 b2, .int .i64 b3, .int .i64 b4, .int .i64 b5, .int .i64 b6, .int .i64 b7] 36)).heap[w.heap.size]? = some (.cells #[.int .i64 s, .int .i64 g, .int .i64 m, .int .i64 a0, .int .i64 a1, .int .i64 a2, .int .i64 a3, .int .i64 a4, .int .i64 a5, .int .i64 a6, .int .i64 a7, .int .i64 q, .int .i64 b0, .int .i64 b1, .int .i64 b2, .int .i64 b3, .int .i64 b4, .int .i64 b5, .int .i64 b6, .int .i64 b7] 36) := heap_alloc_new _ _
    have HXB := Lib.hid hxb
    have HGY : Hid (∀ y : Later (w.alloc (.cells #[.int .i64 s, .int .i64 g, .int .i64 m, .int .i64 a0, .int .i64 a1, .int .i64 a2, .int .i64 a3, .int .i64 a4, .int .i64 a5, .int .i64 a6, .int .i64 a7, .int .i64 q, .int .i64 b0, .int .i64 b1, .int .i64 b2, .int .i64 b3, .int .i64 b4, .int .i64 b5, .int .i64 b6, .int .i64 b7] 36)), Calls Tryd.prog 21 #[.map (some b), .agg #[.int .i64 s, .int .i64 g]] y.w fun e w' => e = .returned (beV (n0, d0, d1, d2, d3, d4, d5, d6, d7)) ∧ Below y.w.heap.size y.w w') := Lib.hid (fun y => HGX.out _ (nb_trans HX.out y.below))
    clear hxb HGT HGX
    go_enter Tryd.func28, Tryd.ntmps28
    go_wp2_with fail
    generalize (w.alloc (.cells #[.int .i64 s, .int .i64 g, .int .i64 m, .int .i64 a0, .int .i64 a1, .int .i64 a2, .int .i64 a3, .int .i64 a4, .int .i64 a5, .int .i64 a6, .int .i64 a7, .int .i64 q, .int .i64 b0, .int .i64 b1, .int .i64 b2, .int .i64 b3, .int .i64 b4, .int .i64 b5, .int .i64 b6, .int .i64 b7] 36)) = X at *
    have hpl : ∀ y : Later X, w.heap.size < y.w.heap.size := fun y => Nat.lt_of_lt_of_le (Array.getElem?_eq_some_iff.1 HXB.out).1 y.below.size
    have k0 : ∀ y : Later X, y.w.cell? ⟨w.heap.size, 0, none⟩ = some (.int .i64 s) := fun y => y.cell (by rw [cell_of_row _ _ _ _ _ _ HXB.out]; rfl)
    have k1 : ∀ y : Later X, y.w.cell? ⟨w.heap.size, 1, none⟩ = some (.int .i64 g) := fun y => y.cell (by rw [cell_of_row _ _ _ _ _ _ HXB.out]; rfl)
    have k2 : ∀ y : Later X, y.w.cell? ⟨w.heap.size, 2, none⟩ = some (.int .i64 m) := fun y => y.cell (by rw [cell_of_row _ _ _ _ _ _ HXB.out]; rfl)
    have k3 : ∀ y : Later X, y.w.cell? ⟨w.heap.size, 3, none⟩ = some (.int .i64 a0) := fun y => y.cell (by rw [cell_of_row _ _ _ _ _ _ HXB.out]; rfl)
    have k4 : ∀ y : Later X, y.w.cell? ⟨w.heap.size, 4, none⟩ = some (.int .i64 a1) := fun y => y.cell (by rw [cell_of_row _ _ _ _ _ _ HXB.out]; rfl)
    have k5 : ∀ y : Later X, y.w.cell? ⟨w.heap.size, 5, none⟩ = some (.int .i64 a2) := fun y => y.cell (by rw [cell_of_row _ _ _ _ _ _ HXB.out]; rfl)
    have k6 : ∀ y : Later X, y.w.cell? ⟨w.heap.size, 6, none⟩ = some (.int .i64 a3) := fun y => y.cell (by rw [cell_of_row _ _ _ _ _ _ HXB.out]; rfl)
    have k7 : ∀ y : Later X, y.w.cell? ⟨w.heap.size, 7, none⟩ = some (.int .i64 a4) := fun y => y.cell (by rw [cell_of_row _ _ _ _ _ _ HXB.out]; rfl)
    have k8 : ∀ y : Later X, y.w.cell? ⟨w.heap.size, 8, none⟩ = some (.int .i64 a5) := fun y => y.cell (by rw [cell_of_row _ _ _ _ _ _ HXB.out]; rfl)
    have k9 : ∀ y : Later X, y.w.cell? ⟨w.heap.size, 9, none⟩ = some (.int .i64 a6) := fun y => y.cell (by rw [cell_of_row _ _ _ _ _ _ HXB.out]; rfl)
    have k10 : ∀ y : Later X, y.w.cell? ⟨w.heap.size, 10, none⟩ = some (.int .i64 a7) := fun y => y.cell (by rw [cell_of_row _ _ _ _ _ _ HXB.out]; rfl)
    by_cases e2 : ((n0, d0, d1, d2, d3, d4, d5, d6, d7) : Be) = (m, a0, a1, a2, a3, a4, a5, a6, a7)
    · have hq2 := neBe (n0, d0, d1, d2, d3, d4, d5, d6, d7) (m, a0, a1, a2, a3, a4, a5, a6, a7) true (decide_eq_true e2)
      dsimp only [beV, Bool.not_true] at hq2
      have HS : Hid (stepF M ((s, g), (m, a0, a1, a2, a3, a4, a5, a6, a7), q, b0, b1, b2, b3, b4, b5, b6, b7) = 0) := Lib.hid (by rw [stepF, if_neg HE1.out, if_pos (hy.trans e2)])
      clear e1 e2 hy
      by_cases e3 : ((q, b0, b1, b2, b3, b4, b5, b6, b7) : Be) = (-1, 0, 0, 0, 0, 0, 0, 0, 0)
      · have hq3 := eqBe (q, b0, b1, b2, b3, b4, b5, b6, b7) (-1, 0, 0, 0, 0, 0, 0, 0, 0) true (decide_eq_true e3)
        have HNX : Hid (nextF M ((s, g), (m, a0, a1, a2, a3, a4, a5, a6, a7), q, b0, b1, b2, b3, b4, b5, b6, b7) = fun y => if y = (s, g) then noB else M y) := Lib.hid (by rw [nextF, if_pos HS.out, show (((s, g), (m, a0, a1, a2, a3, a4, a5, a6, a7), q, b0, b1, b2, b3, b4, b5, b6, b7) : Ch).2.2 = noB from e3])
        dsimp only [beV] at hq3
        refine wp_region_later (by kernel_rfl) (by kernel_rfl) ?_
        repeat (go_big_quiet_step ((go_at_call 21; exact Calls.later (HGY.out _))))
        refine wpQuiet_nil ?_
        rintro _ ⟨nq, rfl⟩
        have HVX := Lib.hid nq.below
        have HVW := Lib.hid (nb_trans HX.out nq.below)
        have HVB := Lib.hid ((nq.below.block _ (Array.getElem?_eq_some_iff.1 HXB.out).1).trans HXB.out)
        generalize nq.w = V at *
        clear k0 k1 k2 k3 k4 k5 k6 k7 k8 k9 k10 hpl HGY HXB hq hq2
        have hpv : w.heap.size < V.heap.size := (Array.getElem?_eq_some_iff.1 HVB.out).1
        have c0 : V.cell? ⟨w.heap.size, 0, none⟩ = some (.int .i64 s) := by rw [cell_of_row _ _ _ _ _ _ HVB.out]; rfl
        have c1 : V.cell? ⟨w.heap.size, 1, none⟩ = some (.int .i64 g) := by rw [cell_of_row _ _ _ _ _ _ HVB.out]; rfl
        have c11 : V.cell? ⟨w.heap.size, 11, none⟩ = some (.int .i64 q) := by rw [cell_of_row _ _ _ _ _ _ HVB.out]; rfl
        have c12 : V.cell? ⟨w.heap.size, 12, none⟩ = some (.int .i64 b0) := by rw [cell_of_row _ _ _ _ _ _ HVB.out]; rfl
        have c13 : V.cell? ⟨w.heap.size, 13, none⟩ = some (.int .i64 b1) := by rw [cell_of_row _ _ _ _ _ _ HVB.out]; rfl
        have c14 : V.cell? ⟨w.heap.size, 14, none⟩ = some (.int .i64 b2) := by rw [cell_of_row _ _ _ _ _ _ HVB.out]; rfl
        have c15 : V.cell? ⟨w.heap.size, 15, none⟩ = some (.int .i64 b3) := by rw [cell_of_row _ _ _ _ _ _ HVB.out]; rfl
        have c16 : V.cell? ⟨w.heap.size, 16, none⟩ = some (.int .i64 b4) := by rw [cell_of_row _ _ _ _ _ _ HVB.out]; rfl
        have c17 : V.cell? ⟨w.heap.size, 17, none⟩ = some (.int .i64 b5) := by rw [cell_of_row _ _ _ _ _ _ HVB.out]; rfl
        have c18 : V.cell? ⟨w.heap.size, 18, none⟩ = some (.int .i64 b6) := by rw [cell_of_row _ _ _ _ _ _ HVB.out]; rfl
        have c19 : V.cell? ⟨w.heap.size, 19, none⟩ = some (.int .i64 b7) := by rw [cell_of_row _ _ _ _ _ _ HVB.out]; rfl
        obtain ⟨g0, g1, g2, g3, g4, g5, g6, g7, g8⟩ := (HV.out.later HVW.out).cells
        have hgl := (HV.out.later HVW.out).lt
        have HMV := Lib.hid (HM.out.later HVW.out)
        have HKV : Hid (Kept (fun q => q = b) w V) := Lib.hid (Kept.ofBelow HVW.out)
        clear e3
        go_wp2_with (at_delete; refine wpList_delF _ rfl _ _ 46 rfl 31 Tryd.underlying46 rfl HMV.out (s, g) HHX.out rfl ?_)
        intro w3 hM3 hk3
        have HM3 := Lib.hid hM3
        have HK3 := Lib.hid (HKV.out.trans hk3 (fun i e => .inl e))
        clear hM3 hk3
        go_wp2
        go_ret
        exact ⟨ret_int HS.out.symm, by rw [HNX.out]; exact HM3.out, HK3.out⟩
      · have hq3 := eqBe (q, b0, b1, b2, b3, b4, b5, b6, b7) (-1, 0, 0, 0, 0, 0, 0, 0, 0) false (decide_eq_false e3)
        have HNX : Hid (nextF M ((s, g), (m, a0, a1, a2, a3, a4, a5, a6, a7), q, b0, b1, b2, b3, b4, b5, b6, b7) = fun y => if y = (s, g) then (q, b0, b1, b2, b3, b4, b5, b6, b7) else M y) := Lib.hid (by rw [nextF, if_pos HS.out])
        have HNB : Hid ((q, b0, b1, b2, b3, b4, b5, b6, b7) ≠ noB) := Lib.hid e3
        dsimp only [beV] at hq3
        refine wp_region_later (by kernel_rfl) (by kernel_rfl) ?_
        repeat (go_big_quiet_step ((go_at_call 21; exact Calls.later (HGY.out _))))
        refine wpQuiet_nil ?_
        rintro _ ⟨nq, rfl⟩
        have HVX := Lib.hid nq.below
        have HVW := Lib.hid (nb_trans HX.out nq.below)
        have HVB := Lib.hid ((nq.below.block _ (Array.getElem?_eq_some_iff.1 HXB.out).1).trans HXB.out)
        generalize nq.w = V at *
        clear k0 k1 k2 k3 k4 k5 k6 k7 k8 k9 k10 hpl HGY HXB hq hq2
        have hpv : w.heap.size < V.heap.size := (Array.getElem?_eq_some_iff.1 HVB.out).1
        have c0 : V.cell? ⟨w.heap.size, 0, none⟩ = some (.int .i64 s) := by rw [cell_of_row _ _ _ _ _ _ HVB.out]; rfl
        have c1 : V.cell? ⟨w.heap.size, 1, none⟩ = some (.int .i64 g) := by rw [cell_of_row _ _ _ _ _ _ HVB.out]; rfl
        have c11 : V.cell? ⟨w.heap.size, 11, none⟩ = some (.int .i64 q) := by rw [cell_of_row _ _ _ _ _ _ HVB.out]; rfl
        have c12 : V.cell? ⟨w.heap.size, 12, none⟩ = some (.int .i64 b0) := by rw [cell_of_row _ _ _ _ _ _ HVB.out]; rfl
        have c13 : V.cell? ⟨w.heap.size, 13, none⟩ = some (.int .i64 b1) := by rw [cell_of_row _ _ _ _ _ _ HVB.out]; rfl
        have c14 : V.cell? ⟨w.heap.size, 14, none⟩ = some (.int .i64 b2) := by rw [cell_of_row _ _ _ _ _ _ HVB.out]; rfl
        have c15 : V.cell? ⟨w.heap.size, 15, none⟩ = some (.int .i64 b3) := by rw [cell_of_row _ _ _ _ _ _ HVB.out]; rfl
        have c16 : V.cell? ⟨w.heap.size, 16, none⟩ = some (.int .i64 b4) := by rw [cell_of_row _ _ _ _ _ _ HVB.out]; rfl
        have c17 : V.cell? ⟨w.heap.size, 17, none⟩ = some (.int .i64 b5) := by rw [cell_of_row _ _ _ _ _ _ HVB.out]; rfl
        have c18 : V.cell? ⟨w.heap.size, 18, none⟩ = some (.int .i64 b6) := by rw [cell_of_row _ _ _ _ _ _ HVB.out]; rfl
        have c19 : V.cell? ⟨w.heap.size, 19, none⟩ = some (.int .i64 b7) := by rw [cell_of_row _ _ _ _ _ _ HVB.out]; rfl
        obtain ⟨g0, g1, g2, g3, g4, g5, g6, g7, g8⟩ := (HV.out.later HVW.out).cells
        have hgl := (HV.out.later HVW.out).lt
        have HMV := Lib.hid (HM.out.later HVW.out)
        have HKV : Hid (Kept (fun q => q = b) w V) := Lib.hid (Kept.ofBelow HVW.out)
        clear e3
        go_wp2_with (at_mapUpdate; refine wpList_putF _ rfl _ _ _ 46 rfl 31 Tryd.underlying46 rfl HMV.out hn (s, g) HHX.out (q, b0, b1, b2, b3, b4, b5, b6, b7) HNB.out rfl rfl ?_)
        intro w3 hM3 hk3
        have HM3 := Lib.hid hM3
        have HK3 := Lib.hid (HKV.out.trans hk3 (fun i e => .inl e))
        clear hM3 hk3
        go_wp2
        go_ret
        exact ⟨ret_int HS.out.symm, by rw [HNX.out]; exact HM3.out, HK3.out⟩
    · have hq2 := neBe (n0, d0, d1, d2, d3, d4, d5, d6, d7) (m, a0, a1, a2, a3, a4, a5, a6, a7) false (decide_eq_false e2)
      have HS : Hid (stepF M ((s, g), (m, a0, a1, a2, a3, a4, a5, a6, a7), q, b0, b1, b2, b3, b4, b5, b6, b7) = 5) := Lib.hid (by rw [stepF, if_neg HE1.out, if_neg (fun e => e2 (hy.symm.trans e))])
      have HN : Hid (nextF M ((s, g), (m, a0, a1, a2, a3, a4, a5, a6, a7), q, b0, b1, b2, b3, b4, b5, b6, b7) = M) := Lib.hid (if_neg (by rw [HS.out]; decide))
      dsimp only [beV, Bool.not_false] at hq2
      clear e1 e2 hy
      refine wp_region_later (by kernel_rfl) (by kernel_rfl) ?_
      repeat (go_big_quiet_step ((go_at_call 21; exact Calls.later (HGY.out _))))
      refine wpQuiet_nil ?_
      rintro _ ⟨nq, rfl⟩
      have HVX := Lib.hid nq.below
      have HVW := Lib.hid (nb_trans HX.out nq.below)
      have HVB := Lib.hid ((nq.below.block _ (Array.getElem?_eq_some_iff.1 HXB.out).1).trans HXB.out)
      generalize nq.w = V at *
      clear k0 k1 k2 k3 k4 k5 k6 k7 k8 k9 k10 hpl HGY HXB hq hq2
      have hpv : w.heap.size < V.heap.size := (Array.getElem?_eq_some_iff.1 HVB.out).1
      go_wp2
      go_ret
      exact ⟨ret_int HS.out.symm, by rw [HN.out]; exact HMs.out.later HVW.out, Kept.ofBelow HVW.out⟩
end Go.Proofs.YtnmlapoiilckhaaDoor

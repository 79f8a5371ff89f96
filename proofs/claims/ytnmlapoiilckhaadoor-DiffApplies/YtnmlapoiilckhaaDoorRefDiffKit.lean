/- Small contracts of the reference of package diff: less, None, beastAt, Copy of rows; a change in a block of its own. -/
import Derived.Test.YtnmlapoiilckhaaDoorDiffLaws
import Derived.Test.YtnmlapoiilckhaaDoorDiffEq
import Derived.Test.YtnmlapoiilckhaaDoorDiffProg
import Derived.Deep.MidRow
namespace Go.Proofs.YtnmlapoiilckhaaDoor
set_option maxRecDepth 8000
open Go.RowKit
set_option linter.unusedSimpArgs false
set_option linter.unusedVariables false

set_option maxHeartbeats 2000000 in
theorem less_any (a b c d : Int) (g : Bool) (w : World) (hg : decide (hlt (a, b) (c, d)) = g) :
    Calls Tryd.prog 27 #[.agg #[.int .i64 a, .int .i64 b], .agg #[.int .i64 c, .int .i64 d]] w fun e w' => e = .returned (.bool g) ∧ Below w.heap.size w w' := by
  have HB : Hid (∀ o o', Below w.heap.size w ((w.alloc o).alloc o')) := Lib.hid (fun o o' => nb_alloc (nb_alloc (Below.refl _ _) o) o')
  have HG : Hid (∀ x : Bool, (x = true ↔ hlt (a, b) (c, d)) → x = g) := Lib.hid (fun x hx => by
    rw [← hg]
    cases x
    · exact (decide_eq_false (fun h => by have := hx.2 h; cases this)).symm
    · exact (decide_eq_true (hx.1 rfl)).symm)
  clear hg
  by_cases h1 : a < c
  · go_enter Tryd.func27, Tryd.ntmps27
    go_wp2
    go_ret
    exact ⟨ret_bool (HG.out true ⟨fun _ => .inl h1, fun _ => rfl⟩), HB.out _ _⟩
  · cases h2 : (a == c)
    · have HNE : Hid (a ≠ c) := Lib.hid (by simpa using h2)
      go_enter Tryd.func27, Tryd.ntmps27
      go_wp2
      go_ret
      exact ⟨ret_bool (HG.out false ⟨fun h => (by cases h), fun h => (by have := HNE.out; unfold hlt at h; simp only at h; omega)⟩), HB.out _ _⟩
    · have HEQ : Hid (a = c) := Lib.hid (eq_of_beq h2)
      by_cases h3 : b < d
      · go_enter Tryd.func27, Tryd.ntmps27
        go_wp2
        go_ret
        exact ⟨ret_bool (HG.out true ⟨fun _ => .inr ⟨HEQ.out, h3⟩, fun _ => rfl⟩), HB.out _ _⟩
      · go_enter Tryd.func27, Tryd.ntmps27
        go_wp2
        go_ret
        exact ⟨ret_bool (HG.out false ⟨fun h => (by cases h), fun h => (by unfold hlt at h; simp only at h; omega)⟩), HB.out _ _⟩
theorem refNone_any (w : World) : Calls Tryd.prog 26 #[] w fun e w' => e = .returned (.agg #[.int .i64 (-1), .int .i64 0, .int .i64 0, .int .i64 0, .int .i64 0, .int .i64 0, .int .i64 0, .int .i64 0, .int .i64 0]) ∧ Below w.heap.size w w' := by
  go_enter Tryd.func26, Tryd.ntmps26
  go_wp2
  refine bodyPost_ret (v := .agg #[.int .i64 (-1), .int .i64 0, .int .i64 0, .int .i64 0, .int .i64 0, .int .i64 0, .int .i64 0, .int .i64 0, .int .i64 0]) (by simp [results, Tryd.results26, go_sem]) rfl ⟨rfl, nb_alloc (Below.refl _ _) _⟩

set_option maxHeartbeats 1000000 in
theorem copyRos_any (v : Value) (zs : List Ro) (w : World) (h : Reads elRo w v zs) (hs : zs.length * 88 ≤ 140737488351232) :
    Calls Tryd.prog 33 #[v] w fun e w' => ∃ v', e = .returned v' ∧ OwnsF elRo w' w.heap.size 33 v' zs ∧ Below w.heap.size w w' := by
  obtain ⟨i0, hi, hz0, hz1, hz2⟩ := info_parts infoRo
  obtain ⟨hm, h⟩ := h.open
  rcases h with ⟨a, cap, rfl, hz⟩ | ⟨b, off, cap, rfl, hb, hlc, hcm, hc⟩
  · obtain rfl : zs = [] := List.length_eq_zero_iff.1 (by omega)
    cases a with
    | none =>
      go_enter Tryd.func33, Tryd.ntmps33
      go_wp2
      go_ret
      exact ⟨_, rfl, OwnsF.nil _ _ _ _, Below.refl _ _⟩
    | some ad =>
      go_enter Tryd.func33, Tryd.ntmps33
      go_wp2_with (first | (at_builtin; refine wpList_append_own _ rfl _ _ 22 rfl w.heap.size 33 i0 (roV roZ) 11 88 Tryd.underlying22 hi hz0 hz1 hz2 rfl (by decide) _ _ _ rfl (World.ownsRow_nil w w.heap.size 33 11) ad 0 cap [] rfl rfl (fun j u hu => by simp at hu) (fun u hu => by simp at hu) (by decide) (by decide) (Nat.le_refl _) ?_))
      intro v' w2 hown hgr _
      have HB2 : Hid (Below w.heap.size w w2) := Lib.hid ((Below.refl _ _).grown hgr (Nat.le_refl _) (fun j hj => by cases hj))
      have HO2 := Lib.hid hown
      clear hown hgr
      go_wp2
      go_ret
      exact ⟨_, rfl, HO2.out, HB2.out⟩
  · have HC : Hid (∀ j u, (zs.flatMap elRo.enc)[j]? = some u → w.cell? ((⟨b, off, none⟩ : Addr).add j) = some u) := Lib.hid (fun j u hu => by
      have hj := (List.getElem?_eq_some_iff.1 hu).1
      rw [length_enc] at hj
      have hj2 : j < zs.length * 11 := hj
      have e1 : j / 11 * elRo.size + j % 11 = j := by show j / 11 * 11 + j % 11 = j; omega
      have hk : j / 11 < zs.length := by omega
      have hr : j % 11 < elRo.size := by show j % 11 < 11; omega
      rw [← e1, enc_at elRo zs _ _ hk hr, ← hc _ hk _ hr, Nat.add_assoc, e1] at hu
      rw [addr_add']
      exact hu)
    have HO : Hid (∀ u ∈ zs.flatMap elRo.enc, u.oneCell' = true) := Lib.hid (fun u hu => by obtain ⟨x, _, hx⟩ := List.mem_flatMap.1 hu; exact elRo.one x u hx)
    have HZ0 := Lib.hid hz0
    clear hc
    go_enter Tryd.func33, Tryd.ntmps33
    go_wp2_with (first | (at_builtin; refine wpList_append_own _ rfl _ _ 22 rfl w.heap.size 33 i0 (roV roZ) 11 88 Tryd.underlying22 hi hz0 hz1 hz2 rfl (by decide) _ _ _ rfl (World.ownsRow_nil w w.heap.size 33 11) ⟨b, off, none⟩ zs.length cap (zs.flatMap elRo.enc) rfl (length_enc elRo zs) HC.out HO.out ?c3 ?c4 (Nat.le_refl _) ?_))
    case c3 => omega
    case c4 => omega
    intro v' w2 hown hgr _
    have HB2 : Hid (Below w.heap.size w w2) := Lib.hid ((Below.refl _ _).grown hgr (Nat.le_refl _) (fun j hj => by cases hj))
    have HO2 := Lib.hid hown
    clear hown hgr
    go_wp2
    go_ret
    refine ⟨_, rfl, ?_, HB2.out⟩
    exact HO2.out

theorem ow_setCellsR (b : Nat) : ∀ (vs : List Value) (o : Nat) (w : World), Kept (fun q => q = b) w (w.setCells b o vs)
  | [], _, w => Kept.refl _ w
  | v :: vs, o, w => (Kept.setCell (F := fun q => q = b) w (p := ⟨b, o, none⟩) rfl v).trans (ow_setCellsR b vs (o + 1) _) (fun _ h => .inl h)
/-- cells stored one behind the other -/
def setMany (arr : Array Value) (o : Nat) : List Value → Array Value
  | [] => arr
  | v :: vs => setMany (arr.setIfInBounds o v) (o + 1) vs
theorem heap_setMany {T : TypeId} (b : Nat) : ∀ (vs : List Value) (o : Nat) (W : World) (arr : Array Value), W.heap[b]? = some (.cells arr T) → (W.setCells b o vs).heap[b]? = some (.cells (setMany arr o vs) T)
  | [], _, _, _, h => h
  | v :: vs, o, W, arr, h => heap_setMany b vs (o + 1) (W.setCell ⟨b, o, none⟩ v) (arr.setIfInBounds o v) (by simp [World.setCell, Array.getElem?_modify, h])
theorem put_at {W : World} {q : Nat} {h0 : Hd} {o n : Be} (s g : Int) (h : W.heap[q]? = some (.cells (elCh.enc (h0, o, n)).toArray 36)) : (W.setCells q 0 [.int .i64 s, .int .i64 g]).heap[q]? = some (.cells (elCh.enc ((s, g), o, n)).toArray 36) := by
  rw [heap_setMany _ _ _ _ _ h]
  rfl
theorem put_old {W : World} {q : Nat} {h0 : Hd} {o n : Be} (m a0 a1 a2 a3 a4 a5 a6 a7 : Int) (h : W.heap[q]? = some (.cells (elCh.enc (h0, o, n)).toArray 36)) : (W.setCells q 2 [.int .i64 m, .int .i64 a0, .int .i64 a1, .int .i64 a2, .int .i64 a3, .int .i64 a4, .int .i64 a5, .int .i64 a6, .int .i64 a7]).heap[q]? = some (.cells (elCh.enc (h0, (m, a0, a1, a2, a3, a4, a5, a6, a7), n)).toArray 36) := by
  rw [heap_setMany _ _ _ _ _ h]
  simp [setMany, elCh]
theorem put_now {W : World} {q : Nat} {h0 : Hd} {o n : Be} (m a0 a1 a2 a3 a4 a5 a6 a7 : Int) (h : W.heap[q]? = some (.cells (elCh.enc (h0, o, n)).toArray 36)) : (W.setCells q 11 [.int .i64 m, .int .i64 a0, .int .i64 a1, .int .i64 a2, .int .i64 a3, .int .i64 a4, .int .i64 a5, .int .i64 a6, .int .i64 a7]).heap[q]? = some (.cells (elCh.enc (h0, o, (m, a0, a1, a2, a3, a4, a5, a6, a7))).toArray 36) := by
  rw [heap_setMany _ _ _ _ _ h]
  simp [setMany, elCh]
set_option maxHeartbeats 4000000 in
theorem beastAt_any (u : Value) (l : List Ro) (s g : Int) (w : World) (h : Reads elRo w u l) : Calls Tryd.prog 30 #[u, .agg #[.int .i64 s, .int .i64 g]] w fun e w' => e = .returned (beV (atB l (s, g))) ∧ Below w.heap.size w w' := by
  obtain ⟨a, cap, rfl, hlc, hm, hc⟩ := h
  unfold maxLen at hm
  obtain ⟨n, hn⟩ : ∃ n, l.length = n := ⟨_, rfl⟩
  have HN := Lib.hid hn
  rw [hn] at hlc hc ⊢
  have HC := Lib.hid hc
  have HX := Lib.hid (nb_alloc (nb_alloc (Below.refl w.heap.size w) (.cells #[.int .i64 s, .int .i64 g] 28)) (.cells #[.int .i64 0, .int .i64 0, .int .i64 0, .int .i64 0, .int .i64 0, .int .i64 0, .int .i64 0, .int .i64 0, .int .i64 0] 31))
  have HX0 := Lib.hid (heap_alloc2_old w (.cells #[.int .i64 s, .int .i64 g] 28) (.cells #[.int .i64 0, .int .i64 0, .int .i64 0, .int .i64 0, .int .i64 0, .int .i64 0, .int .i64 0, .int .i64 0, .int .i64 0] 31))
  have HX1 := Lib.hid (heap_alloc2_new w (.cells #[.int .i64 s, .int .i64 g] 28) (.cells #[.int .i64 0, .int .i64 0, .int .i64 0, .int .i64 0, .int .i64 0, .int .i64 0, .int .i64 0, .int .i64 0, .int .i64 0] 31))
  clear hn hc
  go_enter Tryd.func30, Tryd.ntmps30
  go_wp2
  generalize (w.alloc (.cells #[.int .i64 s, .int .i64 g] 28)).alloc (.cells #[.int .i64 0, .int .i64 0, .int .i64 0, .int .i64 0, .int .i64 0, .int .i64 0, .int .i64 0, .int .i64 0, .int .i64 0] 31) = X at *
  go_loopw [9] (fun i wr => ∃ k : Nat, k ≤ n ∧ i = .int .i64 k ∧ Hid (atB l (s, g) = atB (l.drop k) (s, g)) ∧ Hid (Below X.heap.size X wr)) (fun i _ => n - (intOf i).toNat)
  case atStart => exact ⟨0, by omega, rfl, Lib.hid rfl, Below.refl _ _⟩
  case round =>
    obtain ⟨k, hk, rfl, hv, hB⟩ := hrel
    have hBW := Lib.hid (HX.out.trans (hB.out.mono HX.out.size))
    have hb0 := (hB.out.block _ (Array.getElem?_eq_some_iff.1 HX0.out).1).trans HX0.out
    have hb1 := (hB.out.block _ (Array.getElem?_eq_some_iff.1 HX1.out).1).trans HX1.out
    have HB1 := Lib.hid hb1
    have c0 : wr.cell? ⟨w.heap.size, 0, none⟩ = some (.int .i64 s) := by rw [cell_of_row _ _ _ _ _ _ hb0]; rfl
    have c1 : wr.cell? ⟨w.heap.size, 1, none⟩ = some (.int .i64 g) := by rw [cell_of_row _ _ _ _ _ _ hb0]; rfl
    have hl1 : w.heap.size + 1 < wr.heap.size := (Array.getElem?_eq_some_iff.1 hb1).1
    have hl0 : w.heap.size < wr.heap.size := by omega
    clear hb0 hb1
    by_cases hkn : k < n
    · obtain ⟨bb, off, rfl, hbb, hck⟩ := HC.out k hkn
      have hcr : ∀ j, j < 11 → wr.cell? ⟨bb, off + k * 11 + j, none⟩ = (elRo.enc (l.getD k roZ))[j]? := fun j hj => by rw [hBW.out.cell (p := ⟨bb, _, none⟩) hbb]; exact hck j hj
      have hdr := drop_at (l := l) (k := k) (by rw [HN.out]; exact hkn)
      obtain ⟨y, hy⟩ : ∃ y, l.getD k roZ = y := ⟨_, rfl⟩
      rw [hy] at hcr hdr
      obtain ⟨⟨ys, yg⟩, m, a0, a1, a2, a3, a4, a5, a6, a7⟩ := y
      have HV : Hid (atB l (s, g) = if (ys, yg) = (s, g) then (m, a0, a1, a2, a3, a4, a5, a6, a7) else atB (l.drop (k + 1)) (s, g)) := Lib.hid (by rw [hv.out, hdr]; rfl)
      have hbw : bb < wr.heap.size := Nat.lt_of_lt_of_le hbb hBW.out.size
      obtain ⟨d0, d1, d2, d3, d4, d5, d6, d7, d8, d9, d10⟩ := cRo (O := off + k * 11) hcr
      clear hck hcr hdr hy hv
      cases hs : (ys == s)
      · have HF : Hid (atB l (s, g) = atB (l.drop (k + 1)) (s, g)) := Lib.hid (by rw [HV.out, if_neg (fun e => by simp at hs; exact hs (Prod.ext_iff.1 e).1)])
        go_wp2
        go_roundw
        case rel => exact ⟨k + 1, by omega, by go_num, HF, nb_alloc hB.out _⟩
        case measure => simp [intOf]; omega
      · cases hg : (yg == g)
        · have HF : Hid (atB l (s, g) = atB (l.drop (k + 1)) (s, g)) := Lib.hid (by rw [HV.out, if_neg (fun e => by simp at hg; exact hg (Prod.ext_iff.1 e).2)])
          go_wp2
          go_roundw
          case rel => exact ⟨k + 1, by omega, by go_num, HF, nb_alloc hB.out _⟩
          case measure => simp [intOf]; omega
        · have HF : Hid (atB l (s, g) = (m, a0, a1, a2, a3, a4, a5, a6, a7)) := Lib.hid (by rw [HV.out, if_pos (Prod.ext (eq_of_beq hs) (eq_of_beq hg))])
          have HBV : Hid (Below w.heap.size w (wr.alloc (.cells #[.int .i64 ys, .int .i64 yg, .int .i64 m, .int .i64 a0, .int .i64 a1, .int .i64 a2, .int .i64 a3, .int .i64 a4, .int .i64 a5, .int .i64 a6, .int .i64 a7] 33))) := Lib.hid (nb_alloc hBW.out _)
          have HBB : Hid ((wr.alloc (.cells #[.int .i64 ys, .int .i64 yg, .int .i64 m, .int .i64 a0, .int .i64 a1, .int .i64 a2, .int .i64 a3, .int .i64 a4, .int .i64 a5, .int .i64 a6, .int .i64 a7] 33)).heap[w.heap.size + 1]? = some (.cells #[.int .i64 0, .int .i64 0, .int .i64 0, .int .i64 0, .int .i64 0, .int .i64 0, .int .i64 0, .int .i64 0, .int .i64 0] 31)) := Lib.hid (((nb_alloc (Below.refl wr.heap.size wr) _).block _ hl1).trans HB1.out)
          have HBQ : Hid (∀ vs, Hid (Below w.heap.size w (World.setCells (wr.alloc (.cells #[.int .i64 ys, .int .i64 yg, .int .i64 m, .int .i64 a0, .int .i64 a1, .int .i64 a2, .int .i64 a3, .int .i64 a4, .int .i64 a5, .int .i64 a6, .int .i64 a7] 33)) (w.heap.size + 1) 0 vs))) := Lib.hid (fun vs => Lib.hid (HBV.out.trans ((ow_setCellsR (w.heap.size + 1) vs 0 _).below HBV.out.size (fun b e => Nat.le_trans (Nat.le_succ _) (Nat.le_of_eq e.symm)))))
          have HQ : Hid (∀ vs, (World.setCells (wr.alloc (.cells #[.int .i64 ys, .int .i64 yg, .int .i64 m, .int .i64 a0, .int .i64 a1, .int .i64 a2, .int .i64 a3, .int .i64 a4, .int .i64 a5, .int .i64 a6, .int .i64 a7] 33)) (w.heap.size + 1) 0 vs).heap[w.heap.size + 1]? = some (.cells (setMany #[.int .i64 0, .int .i64 0, .int .i64 0, .int .i64 0, .int .i64 0, .int .i64 0, .int .i64 0, .int .i64 0, .int .i64 0] 0 vs) 31)) := Lib.hid (fun vs => heap_setMany _ _ _ _ _ HBB.out)
          have HTH : Hid (((wr.alloc (.cells #[.int .i64 ys, .int .i64 yg, .int .i64 m, .int .i64 a0, .int .i64 a1, .int .i64 a2, .int .i64 a3, .int .i64 a4, .int .i64 a5, .int .i64 a6, .int .i64 a7] 33))).there (w.heap.size + 1) 0 9) := Lib.hid (fun j hj => ⟨by rw [cell_of_row _ _ _ _ _ _ HBB.out, Nat.zero_add, Array.getElem?_eq_getElem (by simpa using hj)]; rfl, frozen_of_row _ _ _ _ _ HBB.out⟩)
          go_wp2_with (refine wpList_store_mid rfl 31 _ _ rfl _ _ _ rfl rfl ?m1 ?m2 ?m3 ?m4; all_goals refine Hid.out ?_)
          case m1 => exact HTH
          case m2 => exact Lib.hid (by kernel_rfl)
          case m3 => exact Lib.hid (by kernel_rfl)
          case m4 =>
            refine Lib.hid ?_
            have hq0 : setMany #[.int .i64 0, .int .i64 0, .int .i64 0, .int .i64 0, .int .i64 0, .int .i64 0, .int .i64 0, .int .i64 0, .int .i64 0] 0 (#[.int .i64 m, .int .i64 a0, .int .i64 a1, .int .i64 a2, .int .i64 a3, .int .i64 a4, .int .i64 a5, .int .i64 a6, .int .i64 a7] : Array Value).toList = #[.int .i64 m, .int .i64 a0, .int .i64 a1, .int .i64 a2, .int .i64 a3, .int .i64 a4, .int .i64 a5, .int .i64 a6, .int .i64 a7] := by simp [setMany]
            have hq := HQ.out (#[.int .i64 m, .int .i64 a0, .int .i64 a1, .int .i64 a2, .int .i64 a3, .int .i64 a4, .int .i64 a5, .int .i64 a6, .int .i64 a7] : Array Value).toList
            rw [hq0] at hq
            have HBF := HBQ.out (#[.int .i64 m, .int .i64 a0, .int .i64 a1, .int .i64 a2, .int .i64 a3, .int .i64 a4, .int .i64 a5, .int .i64 a6, .int .i64 a7] : Array Value).toList
            generalize World.setCells (wr.alloc (.cells #[.int .i64 ys, .int .i64 yg, .int .i64 m, .int .i64 a0, .int .i64 a1, .int .i64 a2, .int .i64 a3, .int .i64 a4, .int .i64 a5, .int .i64 a6, .int .i64 a7] 33)) (w.heap.size + 1) 0 (#[.int .i64 m, .int .i64 a0, .int .i64 a1, .int .i64 a2, .int .i64 a3, .int .i64 a4, .int .i64 a5, .int .i64 a6, .int .i64 a7] : Array Value).toList = Z at hq HBF ⊢
            have f0 : Z.cell? ⟨w.heap.size + 1, 0, none⟩ = some (.int .i64 m) := by rw [cell_of_row _ _ _ _ _ _ hq]; rfl
            have f1 : Z.cell? ⟨w.heap.size + 1, 1, none⟩ = some (.int .i64 a0) := by rw [cell_of_row _ _ _ _ _ _ hq]; rfl
            have f2 : Z.cell? ⟨w.heap.size + 1, 2, none⟩ = some (.int .i64 a1) := by rw [cell_of_row _ _ _ _ _ _ hq]; rfl
            have f3 : Z.cell? ⟨w.heap.size + 1, 3, none⟩ = some (.int .i64 a2) := by rw [cell_of_row _ _ _ _ _ _ hq]; rfl
            have f4 : Z.cell? ⟨w.heap.size + 1, 4, none⟩ = some (.int .i64 a3) := by rw [cell_of_row _ _ _ _ _ _ hq]; rfl
            have f5 : Z.cell? ⟨w.heap.size + 1, 5, none⟩ = some (.int .i64 a4) := by rw [cell_of_row _ _ _ _ _ _ hq]; rfl
            have f6 : Z.cell? ⟨w.heap.size + 1, 6, none⟩ = some (.int .i64 a5) := by rw [cell_of_row _ _ _ _ _ _ hq]; rfl
            have f7 : Z.cell? ⟨w.heap.size + 1, 7, none⟩ = some (.int .i64 a6) := by rw [cell_of_row _ _ _ _ _ _ hq]; rfl
            have f8 : Z.cell? ⟨w.heap.size + 1, 8, none⟩ = some (.int .i64 a7) := by rw [cell_of_row _ _ _ _ _ _ hq]; rfl
            have hzl : w.heap.size + 1 < Z.heap.size := (Array.getElem?_eq_some_iff.1 hq).1
            clear hq hq0
            go_wp2
            refine bodyPost_ret (v := .agg #[.int .i64 m, .int .i64 a0, .int .i64 a1, .int .i64 a2, .int .i64 a3, .int .i64 a4, .int .i64 a5, .int .i64 a6, .int .i64 a7]) ?b1 ?b2 ?b3
            case b1 => simp [results, Tryd.results30, go_sem, f0, f1, f2, f3, f4, f5, f6, f7, f8, hzl]
            case b2 => rfl
            case b3 => exact ⟨by rw [HF.out]; try rfl, HBF.out⟩
    · obtain rfl : k = n := by omega
      have HF : Hid (atB l (s, g) = noB) := Lib.hid (by rw [hv.out, List.drop_of_length_le (by rw [HN.out]; exact Nat.le_refl _)]; rfl)
      clear c0 c1
      go_wp2_with fail
      refine (refNone_any _).mono ?_
      rintro e V ⟨rfl, hbv⟩
      have HBV : Hid (Below w.heap.size w V) := Lib.hid (nb_trans hBW.out hbv)
      have HBB : Hid (V.heap[w.heap.size + 1]? = some (.cells #[.int .i64 0, .int .i64 0, .int .i64 0, .int .i64 0, .int .i64 0, .int .i64 0, .int .i64 0, .int .i64 0, .int .i64 0] 31)) := Lib.hid ((hbv.block _ hl1).trans HB1.out)
      clear hbv
      have HBQ : Hid (∀ vs, Hid (Below w.heap.size w (World.setCells V (w.heap.size + 1) 0 vs))) := Lib.hid (fun vs => Lib.hid (HBV.out.trans ((ow_setCellsR (w.heap.size + 1) vs 0 _).below HBV.out.size (fun b e => Nat.le_trans (Nat.le_succ _) (Nat.le_of_eq e.symm)))))
      have HQ : Hid (∀ vs, (World.setCells V (w.heap.size + 1) 0 vs).heap[w.heap.size + 1]? = some (.cells (setMany #[.int .i64 0, .int .i64 0, .int .i64 0, .int .i64 0, .int .i64 0, .int .i64 0, .int .i64 0, .int .i64 0, .int .i64 0] 0 vs) 31)) := Lib.hid (fun vs => heap_setMany _ _ _ _ _ HBB.out)
      have HTH : Hid ((V).there (w.heap.size + 1) 0 9) := Lib.hid (fun j hj => ⟨by rw [cell_of_row _ _ _ _ _ _ HBB.out, Nat.zero_add, Array.getElem?_eq_getElem (by simpa using hj)]; rfl, frozen_of_row _ _ _ _ _ HBB.out⟩)
      go_wp2_with (refine wpList_store_mid rfl 31 _ _ rfl _ _ _ rfl rfl ?m1 ?m2 ?m3 ?m4; all_goals refine Hid.out ?_)
      case m1 => exact HTH
      case m2 => exact Lib.hid (by kernel_rfl)
      case m3 => exact Lib.hid (by kernel_rfl)
      case m4 =>
        refine Lib.hid ?_
        have hq0 : setMany #[.int .i64 0, .int .i64 0, .int .i64 0, .int .i64 0, .int .i64 0, .int .i64 0, .int .i64 0, .int .i64 0, .int .i64 0] 0 (#[.int .i64 (-1), .int .i64 0, .int .i64 0, .int .i64 0, .int .i64 0, .int .i64 0, .int .i64 0, .int .i64 0, .int .i64 0] : Array Value).toList = #[.int .i64 (-1), .int .i64 0, .int .i64 0, .int .i64 0, .int .i64 0, .int .i64 0, .int .i64 0, .int .i64 0, .int .i64 0] := by simp [setMany]
        have hq := HQ.out (#[.int .i64 (-1), .int .i64 0, .int .i64 0, .int .i64 0, .int .i64 0, .int .i64 0, .int .i64 0, .int .i64 0, .int .i64 0] : Array Value).toList
        rw [hq0] at hq
        have HBF := HBQ.out (#[.int .i64 (-1), .int .i64 0, .int .i64 0, .int .i64 0, .int .i64 0, .int .i64 0, .int .i64 0, .int .i64 0, .int .i64 0] : Array Value).toList
        generalize World.setCells V (w.heap.size + 1) 0 (#[.int .i64 (-1), .int .i64 0, .int .i64 0, .int .i64 0, .int .i64 0, .int .i64 0, .int .i64 0, .int .i64 0, .int .i64 0] : Array Value).toList = Z at hq HBF ⊢
        have f0 : Z.cell? ⟨w.heap.size + 1, 0, none⟩ = some (.int .i64 (-1)) := by rw [cell_of_row _ _ _ _ _ _ hq]; rfl
        have f1 : Z.cell? ⟨w.heap.size + 1, 1, none⟩ = some (.int .i64 0) := by rw [cell_of_row _ _ _ _ _ _ hq]; rfl
        have f2 : Z.cell? ⟨w.heap.size + 1, 2, none⟩ = some (.int .i64 0) := by rw [cell_of_row _ _ _ _ _ _ hq]; rfl
        have f3 : Z.cell? ⟨w.heap.size + 1, 3, none⟩ = some (.int .i64 0) := by rw [cell_of_row _ _ _ _ _ _ hq]; rfl
        have f4 : Z.cell? ⟨w.heap.size + 1, 4, none⟩ = some (.int .i64 0) := by rw [cell_of_row _ _ _ _ _ _ hq]; rfl
        have f5 : Z.cell? ⟨w.heap.size + 1, 5, none⟩ = some (.int .i64 0) := by rw [cell_of_row _ _ _ _ _ _ hq]; rfl
        have f6 : Z.cell? ⟨w.heap.size + 1, 6, none⟩ = some (.int .i64 0) := by rw [cell_of_row _ _ _ _ _ _ hq]; rfl
        have f7 : Z.cell? ⟨w.heap.size + 1, 7, none⟩ = some (.int .i64 0) := by rw [cell_of_row _ _ _ _ _ _ hq]; rfl
        have f8 : Z.cell? ⟨w.heap.size + 1, 8, none⟩ = some (.int .i64 0) := by rw [cell_of_row _ _ _ _ _ _ hq]; rfl
        have hzl : w.heap.size + 1 < Z.heap.size := (Array.getElem?_eq_some_iff.1 hq).1
        clear hq hq0
        go_wp2
        refine bodyPost_ret (v := .agg #[.int .i64 (-1), .int .i64 0, .int .i64 0, .int .i64 0, .int .i64 0, .int .i64 0, .int .i64 0, .int .i64 0, .int .i64 0]) ?b1 ?b2 ?b3
        case b1 => simp [results, Tryd.results30, go_sem, f0, f1, f2, f3, f4, f5, f6, f7, f8, hzl]
        case b2 => rfl
        case b3 => exact ⟨by rw [HF.out]; try rfl, HBF.out⟩
end Go.Proofs.YtnmlapoiilckhaaDoor

/- Kill of package zoo: a range over a function, whose body kills. -/
import Derived.Test.YtcmpaohefihijabGreatDoorPZooBack
import Derived.Test.YtcmpaohefihijabGreatDoorPZooBond
import Derived.Stop.RegionWithIn
namespace Go.Proofs.YtcmpaohefihijabGreatDoor
set_option maxRecDepth 8000
set_option maxRecDepth 100000
open Go.RowKit Go.Shelf
attribute [local go_sem] Oper.semAt_some

/-- What the rounds of Kill keep: its boxes; the zoo without those that have been killed; from n0 on it uses only cells. -/
structure KilI (w : World) (n0 p : Nat) (a b : Int) (G0 F1 : Nat → Prop) (s : Zs) (pre : List Hd) (W : World) : Prop where
  bz : W.heap[w.heap.size]? = some (.cells #[.pointer (some ⟨p, 0, none⟩)] 25)
  bh : W.heap[w.heap.size + 1]? = some (.cells #[.int .i64 a, .int .i64 b] 34)
  zoo : ∃ F0 u vm, PzIs W p F0 F1 u vm (killN s pre) ∧ NewC n0 W F0 ∧ ∀ b, F0 b → G0 b ∨ n0 ≤ b
  kept : Kept (fun b => G0 b ∨ F1 b) w W
  size : n0 ≤ W.heap.size
section
variable {w W W' : World} {n0 p : Nat} {a b : Int} {G0 F1 : Nat → Prop} {s : Zs} {pre : List Hd}
theorem KilI.turned {row : Option Nat} (h : KilI w n0 p a b G0 F1 s pre W) (hn : w.heap.size + 2 ≤ n0) (hF : ∀ b, F1 b → b < w.heap.size) (hg : W.grownBy W' row) (hr : ∀ r, row = some r → n0 ≤ r ∧ ∃ o : Obj, W.heap[r]? = some o ∧ o.isCells = false) : KilI w n0 p a b G0 F1 s pre W' := by
  have hk : Kept (fun k => row = some k) W W' := Kept.grown hg (fun k e => e)
  have hz := h.zoo
  obtain ⟨F0, u, vm, h1, h2, h3⟩ := hz
  have hno : ∀ k, CellsAt W k → row ≠ some k := fun k ⟨cs, T, z, hc⟩ e => by
    obtain ⟨_, o, ho, hco⟩ := hr k e
    rw [hc] at ho; cases ho; cases hco
  have hF0 : ∀ k, F0 k → row ≠ some k := fun k hk e => (h2 k hk).elim (fun e2 => by have := (hr k e).1; omega) (fun e2 => hno k e2 e)
  refine ⟨own_blk h.bz hg hr (by omega), own_blk h.bh hg hr (by omega), ⟨F0, u, vm, h1.kept hk hF0 (fun k hk e => by have := (hr k e).1; have := hF k hk; omega), fun k hF => (h2 k hF).imp id (fun e => e.kept hk (hno k e)), h3⟩, h.kept.trans hk (fun k e => .inr (by have := (hr k e).1; omega)), Nat.le_trans h.size hk.size⟩
theorem KilI.later (h : KilI w n0 p a b G0 F1 s pre W) (hb : Below W.heap.size W W') : KilI w n0 p a b G0 F1 s pre W' := by
  obtain ⟨F0, u, vm, h1, h2, h3⟩ := h.zoo
  exact ⟨by rw [hb.block _ (Array.getElem?_eq_some_iff.1 h.bz).1]; exact h.bz, by rw [hb.block _ (Array.getElem?_eq_some_iff.1 h.bh).1]; exact h.bh, ⟨F0, u, vm, h1.later hb, h2.later h1.wld.lt hb, h3⟩, h.kept.trans (Kept.ofBelow (F := fun b => G0 b ∨ F1 b) hb) (fun _ h => .inl h), Nat.le_trans h.size hb.size⟩
end

theorem checkLive_no (p : Nat) (F : Nat → Prop) (s : Zs) (v : Value) (hs : List Hd) (w : World) (h : PzAt w p F s) (hr : Reads elHand w v hs) (hg : allLive s.l hs = false) :
    Calls Tryz.prog 57 #[.pointer (some ⟨p, 0, none⟩), v] w fun e w' => e = .returned (.int .i64 7) ∧ Below w.heap.size w w' := checkLive_any p F s v hs false w h hr hg
theorem checkLive_yes (p : Nat) (F : Nat → Prop) (s : Zs) (v : Value) (hs : List Hd) (w : World) (h : PzAt w p F s) (hr : Reads elHand w v hs) (hg : allLive s.l hs = true) :
    Calls Tryz.prog 57 #[.pointer (some ⟨p, 0, none⟩), v] w fun e w' => e = .returned (.int .i64 0) ∧ Below w.heap.size w w' := checkLive_any p F s v hs true w h hr hg
theorem und_ok {bs : List Bd} (h : FOk bs) {x y : Hd} (hu : Und bs x y) : okH x := by
  induction hu with
  | base hb => exact (h.ok _ hb).1
  | step hb _ _ => exact (h.ok _ hb).1

set_option maxHeartbeats 4000000 in
theorem zooKill_any (p : Nat) (F : Nat → Prop) (s s' : Zs) (a b x : Int) (w : World) (h : PzAt w p F s) (ok : ZOk s)
    (hx : (if liveH s.l (a, b) then (0 : Int) else 7) = x) (hs' : (if liveH s.l (a, b) then killZ s (a, b) else s) = s') :
    Calls Tryz.prog 36 #[.pointer (some ⟨p, 0, none⟩), .agg #[.int .i64 a, .int .i64 b]] w (PzPost w p F (.int .i64 x) s') := by
  refine (callsIn_wide (n := 3)).1 ?_
  have hro : Fence.wide.round = none := rfl
  have h13 : 1 ≤ 3 := by omega
  obtain ⟨X, hXe⟩ : ∃ X, ((w.alloc (.cells #[.pointer (some ⟨p, 0, none⟩)] 25)).alloc (.cells #[.int .i64 a, .int .i64 b] 34)).alloc (.cells #[.int .i64 a, .int .i64 b] 34) = X := ⟨_, rfl⟩
  have hX : Below w.heap.size w X := by rw [← hXe]; exact nb_alloc (nb_alloc (nb_alloc (Below.refl _ _) _) _) _
  have hsz : X.heap.size = w.heap.size + 3 := by rw [← hXe]; simp
  have hxz : X.heap[w.heap.size]? = some (.cells #[.pointer (some ⟨p, 0, none⟩)] 25) := by rw [← hXe]; exact (Below.heap_alloc _ _ _ (by simp; omega)).trans (heap_alloc2_old _ _ _)
  have hxh : X.heap[w.heap.size + 1]? = some (.cells #[.int .i64 a, .int .i64 b] 34) := by rw [← hXe]; exact (Below.heap_alloc _ _ _ (by simp)).trans (heap_alloc2_new _ _ _)
  have hxs : X.heap[w.heap.size + 1 + 1]? = some (.cells #[.int .i64 a, .int .i64 b] 34) := by
    have := heap_alloc_new ((w.alloc (.cells #[.pointer (some ⟨p, 0, none⟩)] 25)).alloc (.cells #[.int .i64 a, .int .i64 b] 34)) (.cells #[.int .i64 a, .int .i64 b] 34)
    rw [hXe, show ((w.alloc (.cells #[.pointer (some ⟨p, 0, none⟩)] 25)).alloc (.cells #[.int .i64 a, .int .i64 b] 34)).heap.size = w.heap.size + 1 + 1 by simp] at this
    exact this
  have HZ := Lib.hid h
  have HOK := Lib.hid ok
  have HX := Lib.hid hX
  have HXB : Hid (X.heap[w.heap.size]? = some (.cells #[.pointer (some ⟨p, 0, none⟩)] 25) ∧ X.heap[w.heap.size + 1]? = some (.cells #[.int .i64 a, .int .i64 b] 34) ∧ X.heap[w.heap.size + 1 + 1]? = some (.cells #[.int .i64 a, .int .i64 b] 34)) := Lib.hid ⟨hxz, hxh, hxs⟩
  have hplw := h.lt p h.at_
  obtain ⟨g, hg⟩ : ∃ g, liveH s.l (a, b) = g := ⟨_, rfl⟩
  have HG : Hid (allLive s.l [(a, b)] = g) := Lib.hid (by rw [← hg]; simp [allLive])
  rw [hg] at hx hs'
  have HP := Lib.hid hg
  clear h ok hg hX hxz hxh hxs
  refine callsIn_of_wp_marks Tryz.func36 rfl trivial ?_ hro
  simp only [Tryz.ntmps36, List.size_toArray, List.length_cons, List.length_nil, Nat.reduceAdd, Nat.reduceSub, Array.replicate_succ, Array.replicate_zero, List.push_toArray, List.append_toArray, List.nil_append, List.cons_append]
  cases g
  · gi_wp2_with (refine ⟨trivial, ?_⟩; gi_at_call 57; refine (callsIn_wide.2 (checkLive_no p F s _ [(a, b)] _ (HZ.out.later HX.out) (reads1 HXB.out.2.2) HG.out)).mono ?_; rintro e w1 ⟨rfl, hb1⟩)
    refine ⟨_, results_tmp rfl _ _ _, ?_⟩
    rw [← hs', ← hx]
    exact PzPost.same HZ.out (nb_trans HX.out hb1)
  · have HPX : Hid ((0 : Int) = x ∧ killZ s (a, b) = s') := Lib.hid ⟨hx, hs'⟩
    have HAB : Hid (okH (a, b)) := Lib.hid (HOK.out.okH HP.out)
    have hpX : p < X.heap.size := by omega
    clear hx hs'
    gi_wp2_with (refine ⟨trivial, ?_⟩; gi_at_call 57; refine (callsIn_wide.2 (checkLive_yes p F s _ [(a, b)] _ (HZ.out.later HX.out) (reads1 HXB.out.2.2) HG.out)).mono ?_; rintro e w1 ⟨rfl, hb1⟩)
    have HB1 : Hid (Below w.heap.size w w1) := Lib.hid (nb_trans HX.out hb1)
    have HQ : Hid (w1.heap[w.heap.size]? = some (.cells #[.pointer (some ⟨p, 0, none⟩)] 25) ∧ w1.heap[w.heap.size + 1]? = some (.cells #[.int .i64 a, .int .i64 b] 34)) := Lib.hid ⟨(hb1.block _ (by omega)).trans HXB.out.1, (hb1.block _ (by omega)).trans HXB.out.2.1⟩
    clear hb1 HXB hXe hsz hpX
    obtain ⟨F0, F1, u, vm, hz, hFe⟩ := HZ.out.open
    have HZI := Lib.hid hz
    have HFE := Lib.hid hFe
    have hF1 : ∀ k, F1 k → k < w.heap.size := hz.fam.lt
    have hF0 : ∀ k, F0 k → k < w.heap.size := hz.wld.lt
    obtain ⟨U, hU, hUl, hUC⟩ := pzUnder p F s a b w1.drew (HZ.out.later HB1.out.drew) HOK.out HAB.out
    have HU := Lib.hid hU
    have HUC := Lib.hid hUC
    have HUO : Hid (∀ y ∈ U, okH y) := Lib.hid (fun y hy => und_ok HOK.out.f ((hU y).1 hy))
    have hq0 := HQ.out.1
    have hq1 := HQ.out.2
    have kz : w1.cell? ⟨w.heap.size, 0, none⟩ = some (.pointer (some ⟨p, 0, none⟩)) := by rw [cell_of_row _ _ _ _ _ _ hq0]; rfl
    obtain ⟨k0, k1⟩ := hCells (a := a) (b := b) hq1
    have hl0 := (Array.getElem?_eq_some_iff.1 hq0).1
    have hl1 := (Array.getElem?_eq_some_iff.1 hq1).1
    have hpl : p < w1.heap.size := Nat.lt_of_lt_of_le hplw HB1.out.size
    clear hz hFe hU hUC hq0 hq1
    refine Code.wpIn_mono NoPanic.imp ?_
    gi_region_with (first
      | (refine ⟨trivial, ?_⟩; gi_at_call 59; refine (callsIn_wide.2 HUC.out).mono ?_; rintro e w2 ⟨v, rfl, ho, hb2⟩; have HO := Lib.hid ho; have HB2 := Lib.hid hb2; have hvs : ∃ a k c, v = .slice a k c := (by obtain ⟨va, vc, hve, -⟩ := ho.reads; exact ⟨_, _, _, hve⟩); clear ho hb2)
      | (refine ⟨trivial, ?_⟩; gi_at_call 58; refine (hback_in _ v _ hvs).mono ?_; rintro e w' ⟨rfl, rfl⟩))
    all_goals
      refine NoPanic.normal ?_
      clear kz k0 k1
      have hb0 : Below w2.heap.size w2 (w2.alloc (.cells #[v] 86)) := nb_alloc (Below.refl _ _) _
      have hsz0 : (w2.alloc (.cells #[v] 86)).heap.size = w2.heap.size + 1 := by simp
      have hbs : (w2.alloc (.cells #[v] 86)).heap[w2.heap.size]? = some (.cells #[v] 86) := heap_alloc_new _ _
      have hs2 : w1.heap.size ≤ w2.heap.size := HB2.out.size
      gi_wp2_with fail
      generalize w2.alloc (.cells #[v] 86) = W0 at *
      have hw0 : Below w1.heap.size w1 W0 := nb_trans ((Below.refl w1.heap.size w1).drew.trans HB2.out) hb0
      have hob : ∀ k, v.ownBlock = some k → w1.heap.size ≤ k ∧ k < w2.heap.size := fun k e => ⟨HO.out.ge e, HO.out.lt e⟩
      have hSS : ∀ k, (k = w2.heap.size ∨ v.ownBlock = some k) → k < W0.heap.size := fun k e => e.elim (fun e => by omega) (fun e => by have := hob k e; omega)
      have HI0 : Hid (KilI w W0.heap.size p a b F0 F1 s [] W0) := Lib.hid ⟨(hw0.block _ hl0).trans HQ.out.1, (hw0.block _ hl1).trans HQ.out.2, ⟨F0, u, vm, HZI.out.later (nb_trans HB1.out hw0), fun k hk => .inl (by have := hF0 k hk; have := hw0.size; omega), fun k hk => .inl hk⟩, Kept.ofBelow (nb_trans HB1.out hw0), Nat.le_refl _⟩
      have hn2 : w.heap.size + 2 ≤ W0.heap.size := by have := hw0.size; omega
      clear HB2 HUC hpl
      refine wpIn_rangeFunc_ownH hro h13 (gf := 94) (lb := #[.pointer (some ⟨w2.heap.size, 0, none⟩)]) rfl trivial (enters_of Tryz.func94 (by kernel_rfl) rfl)
        (hback_stops (3 - 1) (by omega) w2.heap.size (fun k => k = w2.heap.size ∨ v.ownBlock = some k) v U W0 hbs (.inl rfl) (fun k e => .inr e) (HO.out.reads.later hb0) HUO.out) KpS.trans (KpS.put hSS) (Below.refl _ _) (fun _ => rfl)
        (fun pre W => KilI w W0.heap.size p a b F0 F1 s (handsOf pre) W)
        (fun _ _ _ => False)
        (fun _ A B row hs hg hr => hs.turned hn2 hF1 hg hr)
        (fun _ _ _ _ _ hs _ _ => hs)
        HI0.out
        (fun x a' W => ∃ Bx, W0.heap.size ≤ Bx ∧ W.heap[Bx]? = some (.cells #[.int .i64 x.1.2.1, .int .i64 x.1.2.2] 34) ∧ a' = { tmps := #[.pointer (some ⟨p, 0, none⟩), .agg #[.int .i64 a, .int .i64 b], .pointer (some ⟨w.heap.size, 0, none⟩), .pointer (some ⟨w.heap.size + 1, 0, none⟩), .int .i64 0, .int .i64 0, undef, .pointer (some ⟨Bx, 0, none⟩), .pointer (some ⟨p, 0, none⟩), .agg #[.int .i64 a, .int .i64 b], .slice (some ⟨w.heap.size + 1 + 1, 0, none⟩) 1 1, .int .i64 0, .int .i64 0, .bool false, undef, .pointer (some ⟨p, 0, none⟩), .pointer (some ⟨p, 0, none⟩), .pointer (some ⟨p, 3, none⟩), .agg #[.int .i64 a, .int .i64 b], v, .func (.func 94) #[] #[.pointer (some ⟨w2.heap.size, 0, none⟩)], .int .i64 (x.1.1 : Int), .agg #[.int .i64 x.1.2.1, .int .i64 x.1.2.2], undef, undef, undef, undef, undef, undef], defers := [] })
        (fun x a' s A B row hs hg hr => by
          obtain ⟨Bx, h1, h2, h3⟩ := hs
          refine ⟨Bx, h1, ?_, h3⟩
          rw [hg.block Bx (Array.getElem?_eq_some_iff.1 h2).1 (fun e => ?_)]
          · exact h2
          · obtain ⟨_, o, ho, hc⟩ := hr Bx e.symm
            rw [h2] at ho; cases ho; cases hc) ?assign ?body ?done ?stop
      case assign =>
        rintro l pre x W K hI hK
        have hbA : Below W.heap.size W (W.alloc (.cells #[.int .i64 x.1.2.1, .int .i64 x.1.2.2] 34)) := nb_alloc (Below.refl _ _) _
        gi_wp2
        refine hK _ _ ((KeepsOthers.alloc _ _).from _) ⟨hbA.size, fun k e => hbA.block k (Nat.lt_of_lt_of_le (hSS k e) hI.size)⟩ (hI.later hbA) ⟨W.heap.size, hI.size, heap_alloc_new _ _, rfl⟩
      case body =>
        rintro l pre ⟨⟨xi, c1, c2⟩, hxo⟩ a' W hl ⟨r, hr⟩ hI ⟨Bx, hBx, hx, rfl⟩ hlt
        dsimp only at hx hxo
        have hxl := (Array.getElem?_eq_some_iff.1 hx).1
        have hbz := hI.bz
        have hzl := (Array.getElem?_eq_some_iff.1 hbz).1
        have cz : W.cell? ⟨w.heap.size, 0, none⟩ = some (.pointer (some ⟨p, 0, none⟩)) := by rw [cell_of_row _ _ _ _ _ _ hbz]; rfl
        obtain ⟨k0, k1⟩ := hCells (a := c1) (b := c2) hx
        have HII := Lib.hid hI
        obtain ⟨G0, u1, vm1, hz1, hn1, hg1⟩ := hI.zoo
        have HZ1 := Lib.hid hz1
        have HN1 := Lib.hid hn1
        have HG1 := Lib.hid hg1
        clear hI hbz hx hz1 hn1 hg1 hr
        gi_wp2_with (refine ⟨trivial, ?_⟩; gi_at_call 60; refine (callsIn_wide.2 (zooRemove_any p G0 F1 u1 vm1 _ c1 c2 W0.heap.size _ HN1.out HZ1.out (HOK.out.killN _) hxo.1 hxo.2)).mono ?_; rintro e w5 ⟨rfl, F5, u5, vm5, hz5, hk5, hm5, hc5⟩)
        have hsm : ∀ k, k < W0.heap.size → w.heap.size ≤ k → ¬ (G0 k ∨ F1 k) := fun k h1 h2 e => e.elim (fun e => (HG1.out k e).elim (fun e => by have := hF0 k e; omega) (fun e => by omega)) (fun e => by have := hF1 k e; omega)
        refine ⟨keepsFrom_of hk5 (fun k o hB ho hc e => ?_), ⟨hk5.size, fun k e => hk5.block k (Nat.lt_of_lt_of_le (hSS k e) HII.out.size) (hsm k (hSS k e) (by
          rcases e with e | e
          · have := HB1.out.size; omega
          · have := (hob k e).1; have := HB1.out.size; omega))⟩, ?_⟩
        · rcases e with e | e
          · rcases HN1.out k e with e2 | ⟨cs, T, z, e2⟩
            · omega
            · rw [ho] at e2; cases e2; cases hc
          · have := hF1 k e; omega
        · refine ⟨(hk5.block _ hzl (hsm _ (by omega) (Nat.le_refl _))).trans HII.out.bz, (hk5.block _ (Array.getElem?_eq_some_iff.1 HII.out.bh).1 (hsm _ (by omega) (by omega))).trans HII.out.bh, ⟨F5, u5, vm5, ?_, hc5, fun k hk => (hm5 k hk).elim (HG1.out k) (fun e => .inr (Nat.le_trans HII.out.size e))⟩, HII.out.kept.trans hk5 (fun k e => ?_), Nat.le_trans HII.out.size hk5.size⟩
          · have : killN s (handsOf (pre ++ [⟨(xi, c1, c2), hxo⟩])) = kill1 (killN s (handsOf pre)) (c1, c2) := by simp [handsOf, killN]
            rw [this]; exact hz5
          · rcases e with e | e
            · exact (HG1.out k e).imp .inl (fun e => by have := HB1.out.size; have := hw0.size; omega)
            · exact .inl (.inr e)
      case done =>
        rintro D ys W hD hS hI hK
        have hbz := hI.bz
        have hbh := hI.bh
        have hzl := (Array.getElem?_eq_some_iff.1 hbz).1
        have hhl := (Array.getElem?_eq_some_iff.1 hbh).1
        have cz : W.cell? ⟨w.heap.size, 0, none⟩ = some (.pointer (some ⟨p, 0, none⟩)) := by rw [cell_of_row _ _ _ _ _ _ hbz]; rfl
        obtain ⟨k0, k1⟩ := hCells (a := a) (b := b) hbh
        have HII := Lib.hid hI
        have HK := Lib.hid hK
        obtain ⟨G0, u1, vm1, hz1, hn1, hg1⟩ := hI.zoo
        have HZ1 := Lib.hid hz1
        have HN1 := Lib.hid hn1
        have HG1 := Lib.hid hg1
        have HDS : Hid (handsOf ys = U.reverse) := Lib.hid hS
        clear hI hbz hbh hz1 hn1 hg1 hK hS
        gi_wp2_with (refine ⟨trivial, ?_⟩; gi_at_call 60; refine (callsIn_wide.2 (zooRemove_any p G0 F1 u1 vm1 _ a b W0.heap.size _ HN1.out HZ1.out (HOK.out.killN _) HAB.out.1 HAB.out.2)).mono ?_; rintro e w5 ⟨rfl, F5, u5, vm5, hz5, hk5, hm5, hc5⟩)
        have hDl := (Array.getElem?_eq_some_iff.1 HK.out).1
        have hK5 : w5.heap[D]? = some (.deferred (some [])) := (hk5.block D hDl (fun e => by
          rcases e with e | e
          · rcases HN1.out D e with e2 | ⟨cs, T, z, e2⟩
            · omega
            · rw [HK.out] at e2; cases e2
          · have := hF1 D e; omega)).trans HK.out
        have hkD : Kept (fun k => k = D) w5 (w5.putObj D (.deferred none)) := Kept.grown (grownBy_putObj' w5 D (.deferred none)) (fun i e => by cases e; rfl)
        have hF5 : ∀ k, F5 k → k ≠ D := fun k hk e => by
          subst e
          rcases hc5 k hk with e2 | ⟨cs, T, z, e2⟩
          · omega
          · rw [hK5] at e2; cases e2
        have hst : kill1 (killN s (handsOf ys)) (a, b) = killZ s (a, b) := by
          rw [HDS.out, ← killN_killZ (K := U.reverse ++ [(a, b)]) (fun y => by rw [List.mem_append, List.mem_reverse, List.mem_singleton, HU.out y]; exact Or.comm)]
          simp [killN]
        rw [hst] at hz5
        refine ⟨by simp, .inl ⟨_, _, rfl, run_takeDeferred hK5, ?_⟩⟩
        refine ⟨_, results_tmp rfl _ _ _, ?_⟩
        rw [← HPX.out.1, ← HPX.out.2, HFE.out]
        have hws : w.heap.size ≤ W0.heap.size := by omega
        refine ⟨rfl, fun k => F5 k ∨ F1 k, ⟨F5, F1, u5, vm5, hz5.kept hkD hF5 (fun k hk e => by have := hF1 k hk; omega), fun _ => Iff.rfl⟩, (HII.out.kept.trans hk5 (fun k e => ?_)).trans hkD (fun k e => .inr (by omega)), fun k hk => ?_⟩
        · rcases e with e | e
          · exact (HG1.out k e).imp .inl (fun e => by omega)
          · exact .inl (.inr e)
        · rcases hk with hk | hk
          · rcases hm5 k hk with e | e
            · exact (HG1.out k e).imp .inl (fun e => by omega)
            · exact .inr (by have := HII.out.size; omega)
          · exact .inl (.inr hk)
      case stop =>
        rintro D c pre W _ _ h _
        exact h.elim
end Go.Proofs.YtcmpaohefihijabGreatDoor

/- The contract of Invert of package diff. -/
import Derived.Test.YtcmpaohefihijabGreatDoorDiffBackC
namespace Go.Proofs.YtcmpaohefihijabGreatDoor
set_option maxRecDepth 8000
set_option maxRecDepth 100000
open Go.RowKit Go.Shelf
attribute [local go_sem] Oper.semAt_some

theorem own_blkC {W W' : World} {row : Option Nat} {B k : Nat} {o : Obj} (h : W.heap[k]? = some o) (hg : W.grownBy W' row) (hr : ∀ r, row = some r → B ≤ r ∧ ∃ o : Obj, W.heap[r]? = some o ∧ o.isCells = false) (hk : k < B) : W'.heap[k]? = some o := by
  rw [hg.block k (Array.getElem?_eq_some_iff.1 h).1 (fun e => by have := (hr k e.symm).1; omega)]; exact h
theorem keepsFromC {B : Nat} {G : Nat → Prop} {W W' : World} (hk : Kept G W W') (h : ∀ k o, B ≤ k → W.heap[k]? = some o → o.isCells = false → ¬ G k) : KeepsFrom B W W' :=
  ⟨hk.size, fun k o hB ho hc => by rw [hk.block k (Array.getElem?_eq_some_iff.1 ho).1 (h k o hB ho hc)]; exact ho⟩
/-- What the loop keeps: the box of the changes so far, turned round. -/
def InvJ (w : World) (bl B : Nat) (pre : List IxC) (W : World) : Prop :=
  ∃ u, W.heap[bl]? = some (.cells #[u] 23) ∧ OwnsF elCh W w.heap.size 44 u ((chsOf pre).map swapC) ∧ (∀ k, u.ownBlock = some k → k < bl ∨ B ≤ k) ∧ Below w.heap.size w W ∧ B ≤ W.heap.size
theorem InvJ.own {w : World} {bl B : Nat} (hb : bl < B) (hw : w.heap.size ≤ B) : OwnFrom B (InvJ w bl B) := by
  rintro s A C row ⟨u, h1, h2, h3, h4, h5⟩ hg hr
  refine ⟨u, own_blkC h1 hg hr hb, h2.kept (Kept.grown (F := fun k => row = some k) hg (fun k e => e)) (fun k e e2 => ?_), h3, h4.grown hg h4.size (fun k e => Nat.le_trans hw (hr k e).1), Nat.le_trans h5 hg.size⟩
  obtain ⟨_, o, ho, hc⟩ := hr k e2
  obtain ⟨c, hcc⟩ := h2.owns.isC e
  rw [ho] at hcc
  cases hcc
  cases hc
set_option maxHeartbeats 4000000 in
theorem invert_any (v : Value) (c : List Ch) (w : World) (h : Reads elCh w v c) (hs : c.length * 160 ≤ 140737488351232) :
    Calls Tryz.prog 9 #[v] w fun e w' => ∃ u, e = .returned u ∧ OwnsF elCh w' w.heap.size 44 u (invC c) ∧ Below w.heap.size w w' := by
  refine (callsIn_wide (n := 3)).1 ?_
  obtain ⟨i0, hi, hz0, hz1, hz2⟩ := info_parts infoCh
  have hro : Fence.wide.round = none := rfl
  have h13 : 1 ≤ 3 := by omega
  have HR := Lib.hid h
  have hown : 0 < c.length → ∀ k, v.ownBlock = some k → k < w.heap.size := fun h0 k e => by
    obtain ⟨a, cap, rfl, _, _, hc⟩ := h
    obtain ⟨b, off, rfl, hb, _⟩ := hc 0 h0
    simp [Value.ownBlock] at e
    omega
  obtain ⟨va, vc, hve, -⟩ := h
  obtain ⟨n, hn⟩ : ∃ n, c.length = n := ⟨_, rfl⟩
  have hvs : ∃ a k c, v = .slice a k c := ⟨_, _, _, hve⟩
  have HN := Lib.hid hn
  rw [hn] at hve hs
  have HOW := Lib.hid hown
  obtain ⟨V, hV⟩ : ∃ V, v = V := ⟨_, rfl⟩
  clear hown hn
  refine callsIn_of_wp_marks Tryz.func9 rfl trivial ?_ hro
  simp only [Tryz.ntmps9, List.size_toArray, List.length_cons, List.length_nil, Nat.reduceAdd, Nat.reduceSub, Array.replicate_succ, Array.replicate_zero, List.push_toArray, List.append_toArray, List.nil_append, List.cons_append]
  subst hve
  clear hV V
  gi_wp2_with (first | (gi_at_make; refine wpListIn_make_own _ rfl _ _ 23 rfl w.heap.size 44 i0 (chV chZ) 20 Tryz.underlying23 hi hz0 hz1 .i64 .i64 _ n rfl rfl rfl ?c1 ?c2 ?c3 ?_))
  case c1 => rw [hz2]; omega
  case c2 => unfold maxLen; omega
  case c3 => exact Nat.le_refl _
  intro w1 hown1 hgr1
  have hb1 : Below w.heap.size w w1 := (Below.refl _ _).grown hgr1 (Nat.le_refl _) (fun k hk => by cases hk)
  have HO1 : Hid (OwnsF elCh w1 w.heap.size 44 (.slice (some ⟨w.heap.size, 0, none⟩) 0 n) []) := Lib.hid hown1
  have hgl : w.heap.size < w1.heap.size := HO1.out.lt rfl
  have HB1 := Lib.hid hb1
  clear hown1 hgr1 hb1
  gi_wp2_with (refine ⟨trivial, ?_⟩; gi_at_call 20; refine (cback_in _ _ _ hvs).mono ?_; rintro e w' ⟨rfl, rfl⟩)
  have hX : Below w1.heap.size w1 ((w1.alloc (.cells #[.slice (some ⟨w.heap.size, 0, none⟩) 0 n] 23)).alloc (.cells #[.slice va n vc] 23)) := nb_alloc (nb_alloc (Below.refl _ _) _) _
  have hsz0 : ((w1.alloc (.cells #[.slice (some ⟨w.heap.size, 0, none⟩) 0 n] 23)).alloc (.cells #[.slice va n vc] 23)).heap.size = w1.heap.size + 2 := by simp
  have hlb : ((w1.alloc (.cells #[.slice (some ⟨w.heap.size, 0, none⟩) 0 n] 23)).alloc (.cells #[.slice va n vc] 23)).heap[w1.heap.size]? = some (.cells #[.slice (some ⟨w.heap.size, 0, none⟩) 0 n] 23) := heap_alloc2_old _ _ _
  have hbs : ((w1.alloc (.cells #[.slice (some ⟨w.heap.size, 0, none⟩) 0 n] 23)).alloc (.cells #[.slice va n vc] 23)).heap[w1.heap.size + 1]? = some (.cells #[.slice va n vc] 23) := heap_alloc2_new _ _ _
  generalize (w1.alloc (.cells #[.slice (some ⟨w.heap.size, 0, none⟩) 0 n] 23)).alloc (.cells #[.slice va n vc] 23) = W0 at *
  have hw0 : Below w.heap.size w W0 := nb_trans HB1.out hX
  have hws := HB1.out.size
  have hSS : ∀ k, (k = w1.heap.size + 1 ∨ (0 < c.length ∧ (Value.slice va n vc).ownBlock = some k)) → k < W0.heap.size := fun k e => e.elim (fun e => by omega) (fun e => by have := HOW.out e.1 k e.2; omega)
  refine wpIn_rangeFunc_ownH hro h13 (gf := 45) (lb := #[.pointer (some ⟨w1.heap.size + 1, 0, none⟩)]) rfl trivial (enters_of Tryz.func45 (by kernel_rfl) rfl)
    (cback_stops (3 - 1) (by omega) (w1.heap.size + 1) (fun k => k = w1.heap.size + 1 ∨ (0 < c.length ∧ (Value.slice va n vc).ownBlock = some k)) (.slice va n vc) c W0 hbs (.inl rfl) (fun h k e => .inr ⟨h, e⟩) (HR.out.later hw0)) KpB.trans (KpB.put hSS) (Below.refl _ _) (fun _ => rfl)
    (InvJ w w1.heap.size W0.heap.size)
    (fun _ _ _ => False)
    (InvJ.own (by omega) hw0.size)
    (fun _ _ _ _ _ hs _ _ => hs)
    ⟨_, hlb, HO1.out.later hX, fun k e => .inl (by simp [Value.ownBlock] at e; omega), hw0, Nat.le_refl _⟩
    (fun x a' W => ∃ Bx, W0.heap.size ≤ Bx ∧ W.heap[Bx]? = some (.cells (elCh.enc x.2).toArray 44) ∧ a' = { tmps := #[.slice va n vc, undef, .slice none 0 0, .pointer (some ⟨w1.heap.size, 0, none⟩), undef, .pointer (some ⟨Bx, 0, none⟩), .slice va n vc, .int .i64 (n : Int), .slice (some ⟨w.heap.size, 0, none⟩) 0 n, .slice va n vc, .func (.func 45) #[] #[.pointer (some ⟨w1.heap.size + 1, 0, none⟩)], .int .i64 (x.1 : Int), chV x.2, undef, undef, undef, undef, undef, undef, undef, undef, undef, undef, undef], defers := [] })
    (fun x a' s A C row hs hg hr => by
      obtain ⟨Bx, h1, h2, h3⟩ := hs
      refine ⟨Bx, h1, ?_, h3⟩
      rw [hg.block Bx (Array.getElem?_eq_some_iff.1 h2).1 (fun e => ?_)]
      · exact h2
      · obtain ⟨_, o, ho, hc⟩ := hr Bx e.symm
        rw [h2] at ho; cases ho; cases hc) ?assign ?body ?done ?stop
  case assign =>
    rintro l pre x W K ⟨u, h1, h2, h3, h4, h5⟩ hK
    have hst := st_new x.2 W
    have hbA : Below W.heap.size W (W.alloc (.cells (elCh.enc x.2).toArray 44)) := nb_alloc (Below.refl _ _) _
    have HK2 := Lib.hid (fun a' h => hK a' (W.alloc (.cells (elCh.enc x.2).toArray 44)) ((KeepsOthers.alloc _ _).from _) ⟨hbA.size, fun k e => hbA.block k (hSS k e |> fun h => by omega)⟩ ⟨u, by rw [hbA.block _ (Array.getElem?_eq_some_iff.1 h1).1]; exact h1, h2.later hbA, h3, nb_trans h4 hbA, Nat.le_trans h5 hbA.size⟩ h)
    have HXB := Lib.hid (heap_alloc_new W (.cells (elCh.enc x.2).toArray 44))
    obtain ⟨Y, hY⟩ : ∃ Y, chV x.2 = Y := ⟨_, rfl⟩
    have HY := Lib.hid hY
    rw [hY] at hst
    simp only [hY]
    clear hK hbA h1 h2 h3 h4 hY
    gi_wp2_with (refine wpListIn_stY rfl 44 _ _ rfl _ rfl Y rfl hst ?_)
    refine HK2.out _ ⟨W.heap.size, h5, HXB.out, by rw [HY.out]; rfl⟩
  case body =>
    rintro l pre ⟨xi, ⟨s, g⟩, ⟨m, a0, a1, a2, a3, a4, a5, a6, a7⟩, q, b0, b1, b2, b3, b4, b5, b6, b7⟩ a' W hl ⟨r, hr⟩ ⟨u, h1, h2, h3, h4, h5⟩ ⟨Bx, hBx, hx, rfl⟩ hlt
    dsimp only at hx
    have hxl := (Array.getElem?_eq_some_iff.1 hx).1
    have h1l := (Array.getElem?_eq_some_iff.1 h1).1
    have cu : W.cell? ⟨w1.heap.size, 0, none⟩ = some u := by rw [cell_of_row _ _ _ _ _ _ h1]; rfl
    have hcl : ∀ j, j < 20 → W.cell? ⟨Bx, j, none⟩ = (elCh.enc ((s, g), (m, a0, a1, a2, a3, a4, a5, a6, a7), q, b0, b1, b2, b3, b4, b5, b6, b7))[j]? := fun j hj => by rw [cell_of_row _ _ _ _ _ _ hx]; simp
    have k0 : W.cell? ⟨Bx, 0, none⟩ = some (.int .i64 s) := hcl 0 (by decide)
    have k1 : W.cell? ⟨Bx, 1, none⟩ = some (.int .i64 g) := hcl 1 (by decide)
    have hldO := ld_old (c := ((s, g), (m, a0, a1, a2, a3, a4, a5, a6, a7), q, b0, b1, b2, b3, b4, b5, b6, b7)) hcl
    have hldN := ld_now (c := ((s, g), (m, a0, a1, a2, a3, a4, a5, a6, a7), q, b0, b1, b2, b3, b4, b5, b6, b7)) hcl
    have hbsy := run_bsY ((s, g), (q, b0, b1, b2, b3, b4, b5, b6, b7), m, a0, a1, a2, a3, a4, a5, a6, a7) W
    dsimp only [beV] at hldO hldN
    dsimp only [chV] at hbsy
    have hdl : ((chsOf pre).map swapC).length < n := by rw [List.length_map, chsOf, List.length_map, ← HN.out]; exact hlt
    have HON : Hid (OwnsF elCh (W.alloc (.cells (elCh.enc ((s, g), (q, b0, b1, b2, b3, b4, b5, b6, b7), m, a0, a1, a2, a3, a4, a5, a6, a7)).toArray 44)) w.heap.size 44 u ((chsOf pre).map swapC)) := Lib.hid (h2.later (nb_alloc (Below.refl _ _) _))
    have HNB := Lib.hid (heap_alloc_new W (.cells (elCh.enc ((s, g), (q, b0, b1, b2, b3, b4, b5, b6, b7), m, a0, a1, a2, a3, a4, a5, a6, a7)).toArray 44))
    have HBX := Lib.hid (nb_alloc (Below.refl W.heap.size W) (.cells (elCh.enc ((s, g), (q, b0, b1, b2, b3, b4, b5, b6, b7), m, a0, a1, a2, a3, a4, a5, a6, a7)).toArray 44))
    have HLC : Hid ((elCh.enc ((s, g), (q, b0, b1, b2, b3, b4, b5, b6, b7), m, a0, a1, a2, a3, a4, a5, a6, a7)).length = 1 * 20) := Lib.hid (elCh.len _)
    have HONE := Lib.hid (elCh.one ((s, g), (q, b0, b1, b2, b3, b4, b5, b6, b7), m, a0, a1, a2, a3, a4, a5, a6, a7))
    obtain ⟨CC, hCC⟩ : ∃ CC, (((s, g), (q, b0, b1, b2, b3, b4, b5, b6, b7), m, a0, a1, a2, a3, a4, a5, a6, a7) : Ch) = CC := ⟨_, rfl⟩
    have HSW : Hid ((chsOf (pre ++ [(xi, ((s, g), (m, a0, a1, a2, a3, a4, a5, a6, a7), q, b0, b1, b2, b3, b4, b5, b6, b7))])).map swapC = (chsOf pre).map swapC ++ [CC]) := Lib.hid (by rw [← hCC]; simp [chsOf, swapC])
    rw [hCC] at hbsy HON HNB HBX HLC HONE
    have H1 := Lib.hid h1
    have H3 := Lib.hid h3
    have H4 := Lib.hid h4
    have HGE : Hid (∀ k, u.ownBlock = some k → w.heap.size ≤ k ∧ k < W.heap.size) := Lib.hid (fun k e => ⟨h2.ge e, h2.lt e⟩)
    have H2C := Lib.hid (fun k (e : u.ownBlock = some k) => h2.owns.isC e)
    generalize (chsOf pre).map swapC = L at *
    clear hcl hx h1 h2 h3 h4 hCC hr
    gi_wp2_with (first | ((with_reducible show wpListIn _ _ _ _ _ _ _ _); refine wpListIn_ldY rfl 37 _ rfl _ rfl (.agg #[.int .i64 m, .int .i64 a0, .int .i64 a1, .int .i64 a2, .int .i64 a3, .int .i64 a4, .int .i64 a5, .int .i64 a6, .int .i64 a7]) ?_ ?_; focus exact hldO) | ((with_reducible show wpListIn _ _ _ _ _ _ _ _); refine wpListIn_ldY rfl 37 _ rfl _ rfl (.agg #[.int .i64 q, .int .i64 b0, .int .i64 b1, .int .i64 b2, .int .i64 b3, .int .i64 b4, .int .i64 b5, .int .i64 b6, .int .i64 b7]) ?_ ?_; focus exact hldN) | ((with_reducible show wpListIn _ _ _ _ _ _ _ _); refine wpListIn_bsY (v := .slice (some ⟨W.heap.size, 0, none⟩) 1 1) (w2 := W.alloc (.cells (elCh.enc CC).toArray 44)) rfl 23 _ rfl _ rfl ?_ ?_; focus exact hbsy) | (gi_at_builtin; refine wpListIn_append_own_at _ rfl _ _ 23 rfl w.heap.size 44 i0 (chV chZ) 20 160 Tryz.underlying23 hi hz0 hz1 hz2 rfl (by decide) _ L.length (L.flatMap elCh.enc) rfl HON.out ⟨W.heap.size, 0, none⟩ 1 1 (elCh.enc CC) rfl HLC.out (World.news_of_block HNB.out) HONE.out (by unfold maxLen; omega) (by omega) (by have := HBX.out.size; omega) ?_))
    intro u' w3 hown hgr hnil hat
    have HO3 : Hid (OwnsF elCh w3 w.heap.size 44 u' (L ++ [CC])) := Lib.hid (OwnsF.snoc hown)
    obtain ⟨ua, uc, hue, -⟩ := HO3.out.reads
    obtain ⟨ulen, hul⟩ : ∃ ulen, (L ++ [CC]).length = ulen := ⟨_, rfl⟩
    rw [hul] at hue
    clear hul
    have hub : ∀ k, u.ownBlock = some k → k ≠ w1.heap.size := fun k e => by have := H3.out k e; omega
    have hub' : ∀ k, u'.ownBlock = some k → k < w1.heap.size ∨ W0.heap.size ≤ k := fun k e => by
      rcases hat with h | h
      · exact H3.out k (h ▸ e)
      · rw [h] at e
        have := HBX.out.size
        simp at e
        omega
    have hb3 : w3.heap[w1.heap.size]? = some (.cells #[u] 23) := by
      rw [hgr.block _ (Nat.lt_of_lt_of_le h1l HBX.out.size) (fun e => hub _ e.symm rfl), HBX.out.block _ h1l]; exact H1.out
    have hl3 := (Array.getElem?_eq_some_iff.1 hb3).1
    have c3 : w3.cell? ⟨w1.heap.size, 0, none⟩ = some u := by rw [cell_of_row _ _ _ _ _ _ hb3]; rfl
    have f3 : w3.frozen? ⟨w1.heap.size, 0, none⟩ = false := frozen_of_row _ _ _ _ _ hb3
    have HB3 := Lib.hid hb3
    have kA : Kept (fun k => k = w1.heap.size ∨ u.ownBlock = some k) W w3 := (Kept.ofBelow HBX.out).trans (Kept.grown (F := fun k => k = w1.heap.size ∨ u.ownBlock = some k) hgr (fun k e => .inr e)) (fun i e => .inl e)
    have HKA := Lib.hid kA
    have HUB := Lib.hid hub'
    have HSET : Hid (∀ x, (w3.setCell ⟨w1.heap.size, 0, none⟩ x).heap[w1.heap.size]? = some (.cells #[x] 23)) := Lib.hid (fun x => by simp [World.setCell, Array.getElem?_modify, HB3.out])
    have HNE : Hid (∀ k, u'.ownBlock = some k → k ≠ w1.heap.size) := Lib.hid (fun k e => by have := hub' k e; omega)
    rw [hue] at HO3 HUB HNE ⊢
    clear hown hgr hnil hat hub hub' hb3 kA hue cu k0 k1 hldO hldN hbsy
    gi_wp2
    have kD : Kept (fun k => k = w1.heap.size ∨ u.ownBlock = some k) W (w3.setCell ⟨w1.heap.size, 0, none⟩ (.slice ua ulen uc)) := HKA.out.trans (Kept.setCell (F := fun k => k = w1.heap.size ∨ u.ownBlock = some k) w3 (p := ⟨w1.heap.size, 0, none⟩) (.inl rfl) _) (fun i e => .inl e)
    refine ⟨keepsFromC kD (fun k o hB ho hc e => ?_), ⟨kD.size, fun k e => kD.block k ?_ (fun e2 => ?_)⟩, ⟨.slice ua ulen uc, HSET.out _, ?_, HUB.out, H4.out.trans (kD.below H4.out.size (fun k e => ?_)), Nat.le_trans h5 kD.size⟩⟩
    · rcases e with e | e
      · omega
      · obtain ⟨cc, hcc⟩ := H2C.out k e
        rw [ho] at hcc
        cases hcc
        cases hc
    · have := hSS k e; omega
    · rcases e with e | e
      · rcases e2 with e2 | e2
        · omega
        · have := H3.out k e2; omega
      · have h9 := HOW.out e.1 k e.2
        rcases e2 with e2 | e2
        · omega
        · have := HGE.out k e2; omega
    · rw [HSW.out]
      exact HO3.out.kept (Kept.setCell (F := fun k => k = w1.heap.size) w3 (p := ⟨w1.heap.size, 0, none⟩) rfl _) (fun k e => HNE.out k e)
    · rcases e with e | e
      · omega
      · exact (HGE.out k e).1
  case done =>
    rintro D ys W hD hS ⟨u, h1, h2, h3, h4, h5⟩ hK
    have h1l := (Array.getElem?_eq_some_iff.1 h1).1
    have cu : W.cell? ⟨w1.heap.size, 0, none⟩ = some u := by rw [cell_of_row _ _ _ _ _ _ h1]; rfl
    have hgp := grownBy_putObj' W D (.deferred none)
    have hJ := InvJ.own (w := w) (bl := w1.heap.size) (B := W0.heap.size) (by omega) hw0.size ys W (W.putObj D (.deferred none)) (some D) ⟨u, h1, h2, h3, h4, h5⟩ hgp (fun r e => by cases e; exact ⟨hD, _, hK, rfl⟩)
    obtain ⟨u2, g1, g2, -, g4, -⟩ := hJ
    have hu : u2 = u := by
      have := own_blkC h1 hgp (B := W0.heap.size) (fun r e => by cases e; exact ⟨hD, _, hK, rfl⟩) (by omega)
      rw [g1] at this
      simpa using this
    subst hu
    have c2 : (W.putObj D (.deferred none)).cell? ⟨w1.heap.size, 0, none⟩ = some u2 := by rw [cell_of_row _ _ _ _ _ _ g1]; rfl
    have HEND : Hid (OwnsF elCh (W.putObj D (.deferred none)) w.heap.size 44 u2 (invC c) ∧ Below w.heap.size w (W.putObj D (.deferred none))) := Lib.hid ⟨by rw [invC, ← List.map_reverse, ← hS]; exact g2, g4⟩
    have gl := (Array.getElem?_eq_some_iff.1 g1).1
    clear h1 h2 h3 h4 h5 g1 g2 g4
    gi_wp2
    refine ⟨by simp, .inl ⟨_, _, rfl, run_takeDeferred hK, ?_⟩⟩
    refine ⟨_, results_tmp rfl _ _ _, ?_⟩
    exact ⟨_, rfl, HEND.out⟩
  case stop =>
    rintro D c pre W _ _ h _
    exact h.elim
end Go.Proofs.YtcmpaohefihijabGreatDoor


/- The contract of the reference's Take. -/
import Derived.Test.YtlaahlphfkadjaaGreatGroundE
import Derived.Deep.RegionLaw
namespace Go.Proofs.YtlaahlphfkadjaaGreat
set_option maxRecDepth 8000
open Go.RowKit

theorem infoBool : (Tryz.prog.info? 4).map (fun i => (i.zero, i.size, i.bytes)) = some (some (.bool false), 1, 1) := by kernel_rfl

def RTakePost (w : World) (q : Nat) (T : TypeId) (rest : List Value) (G : Nat → Prop) (l : List (Int × Bool)) (e : Ending) (w' : World) : Prop :=
  e = .returned (.tuple #[.agg #[.int .i64 (takeH l).1, .int .i64 (takeH l).2], .int .i64 (takeE l)]) ∧ ∃ G', RefAt w' q T rest G' (takeL l) ∧ Kept G w w' ∧ Moves w G G'

/-- The flag of slot i is written. -/
theorem refAt_flag {w : World} {q g c g' c' i : Nat} {T : TypeId} {rest : List Value} {G : Nat → Prop} {l : List (Int × Bool)} {x : Bool}
    (hq : w.heap[q]? = some (.cells (.slice (some ⟨g, 0, none⟩) l.length c :: .slice (some ⟨g', 0, none⟩) l.length c' :: rest).toArray T (0, 0)))
    (hg : Owns elInt w 3 (.slice (some ⟨g, 0, none⟩) l.length c) (gensL l)) (hl : Owns elBool w 4 (.slice (some ⟨g', 0, none⟩) l.length c') (livesL l))
    (hG : G q) (hGg : G g) (hGg' : G g') (n1 : g ≠ q) (n2 : g' ≠ q) (n3 : g ≠ g') (hlt : ∀ k, G k → k < w.heap.size) (hi : i < l.length) :
    RefAt (w.setCell ⟨g', i, none⟩ (.bool x)) q T rest G (l.set i ((l.getD i slotZ).1, x)) ∧ Kept G w (w.setCell ⟨g', i, none⟩ (.bool x)) := by
  have k1 : Kept (fun k => k = g') w (w.setCell ⟨g', i, none⟩ (.bool x)) := Kept.setCell (F := fun k => k = g') w (p := ⟨g', i, none⟩) rfl _
  refine ⟨⟨.slice (some ⟨g, 0, none⟩) l.length c, .slice (some ⟨g', 0, none⟩) l.length c', ?_, ?_, ?_, hG, ?_, ?_, fun k hk => by simpa using hlt k hk⟩, ?_⟩
  · rw [heap_setCell_other _ _ _ _ (Ne.symm n2)]; exact hq
  · have h1 := hg.kept k1 (fun k hk => by simp [Value.ownBlock] at hk; subst hk; exact n3)
    rw [gensL_set]
    have e : (gensL l).set i (l.getD i slotZ).1 = gensL l := by
      rw [← gensL_at]
      refine List.ext_getElem? fun j => ?_
      by_cases e : i = j
      · subst e; rw [List.getElem?_set_self (by rw [gensL_len]; exact hi), List.getD_eq_getElem?_getD, List.getElem?_eq_getElem (by rw [gensL_len]; exact hi)]; rfl
      · rw [List.getElem?_set_ne e]
    rw [e]; exact h1
  · have h1 := hl.stored1 rfl i x (.bool x) (by rw [livesL_len]; exact hi) rfl
    rw [livesL_set]; exact h1
  · intro k hk; simp [Value.ownBlock] at hk; subst hk; exact ⟨hGg, n1⟩
  · intro k hk; simp [Value.ownBlock] at hk; subst hk; exact ⟨hGg', n2, by simp [Value.ownBlock]; exact n3⟩
  · exact k1.mono (G := G) (fun k e => by rw [e]; exact .inl hGg')

/-- What the walk reads, without parting the empty case. -/
theorem RefAt.cells' {w : World} {q : Nat} {T : TypeId} {rest : List Value} {G : Nat → Prop} {l : List (Int × Bool)} (h : RefAt w q T rest G l) :
    ∃ a c a' c', w.heap[q]? = some (.cells (.slice a l.length c :: .slice a' l.length c' :: rest).toArray T (0, 0)) ∧ Owns elInt w 3 (.slice a l.length c) (gensL l) ∧ Owns elBool w 4 (.slice a' l.length c') (livesL l) ∧ G q ∧
      (∀ k, (Value.slice a l.length c).ownBlock = some k → G k ∧ k ≠ q) ∧ (∀ k, (Value.slice a' l.length c').ownBlock = some k → G k ∧ k ≠ q ∧ (Value.slice a l.length c).ownBlock ≠ some k) ∧ (∀ k, G k → k < w.heap.size) ∧
      w.cell? ⟨q, 0, none⟩ = some (.slice a l.length c) ∧ w.cell? ⟨q, 1, none⟩ = some (.slice a' l.length c') ∧
      ∀ k, k < l.length → ∃ b b', a = some ⟨b, 0, none⟩ ∧ a' = some ⟨b', 0, none⟩ ∧ b < w.heap.size ∧ b' < w.heap.size ∧ w.cell? ⟨b, k, none⟩ = some (.int .i64 (l.getD k slotZ).1) ∧ w.cell? ⟨b', k, none⟩ = some (.bool (l.getD k slotZ).2) := by
  have h' := h
  obtain ⟨vg, vl, hq, hg, hl, hG, hvg, hvl, hlt⟩ := h
  have q0 : w.cell? ⟨q, 0, none⟩ = some vg := by rw [cell_of_row _ _ _ _ _ _ hq]; simp
  have q1 : w.cell? ⟨q, 1, none⟩ = some vl := by rw [cell_of_row _ _ _ _ _ _ hq]; simp
  obtain ⟨a, c, rfl, _⟩ := hg.reads
  obtain ⟨a', c', rfl, _⟩ := hl.reads
  rw [gensL_len] at q0 hq hg hvg hvl
  rw [livesL_len] at q1 hq hl hvl
  refine ⟨a, c, a', c', hq, hg, hl, hG, hvg, hvl, hlt, q0, q1, fun k hk => ?_⟩
  obtain ⟨g, d, g', d', _, _, _, _, hGg, hGg', _, _, _, _, p0, p1, x0, x1, _, _⟩ := h'.open hk
  rw [q0] at p0
  rw [q1] at p1
  simp only [Option.some.injEq, Value.slice.injEq] at p0 p1
  obtain ⟨rfl, _, rfl⟩ := p0
  obtain ⟨rfl, _, rfl⟩ := p1
  exact ⟨g, g', rfl, rfl, hlt g hGg, hlt g' hGg', x0, x1⟩


/-- The two rows are appended to, and written back. -/
theorem refTake_end {w W w1 w2 : World} {q k c c' g1 g2 cap1 cap2 : Nat} {a a' : Option Addr} {T : TypeId} {rest : List Value} {G : Nat → Prop} {l : List (Int × Bool)}
    (hn : l.length = k) (hq : W.heap[q]? = some (.cells (.slice a k c :: .slice a' k c' :: rest).toArray T (0, 0))) (hBW : Below w.heap.size w W) (hGw : ∀ b, G b → b < w.heap.size) (hGq : G q) (hWs : W.heap.size = w.heap.size + 1)
    (hvg : ∀ b, (Value.slice a k c).ownBlock = some b → G b ∧ b ≠ q) (hvl : ∀ b, (Value.slice a' k c').ownBlock = some b → G b ∧ b ≠ q ∧ (Value.slice a k c).ownBlock ≠ some b)
    (h1 : Grew W w1 (.slice a k c) g1) (o1 : w1.ownsRow 0 3 1 (.slice (some ⟨g1, 0, none⟩) (k + 1) cap1) (k + 1) ((gensL l).flatMap elInt.enc ++ [.int .i64 0]))
    (h2 : Grew w1 w2 (.slice a' k c') g2) (o2 : w2.ownsRow 0 4 1 (.slice (some ⟨g2, 0, none⟩) (k + 1) cap2) (k + 1) ((livesL l).flatMap elBool.enc ++ [.bool true])) (y : World)
    (hy : Kept (fun b => b = w.heap.size) ((w2.setCell ⟨q, 0, none⟩ (.slice (some ⟨g1, 0, none⟩) (k + 1) cap1)).setCell ⟨q, 1, none⟩ (.slice (some ⟨g2, 0, none⟩) (k + 1) cap2)) y) :
    RefAt y q T rest (fun b => G b ∨ b = g1 ∨ b = g2) (l ++ [(0, true)]) ∧ Kept G w y ∧ Moves w G (fun b => G b ∨ b = g1 ∨ b = g2) := by
  have hqw := hGw q hGq
  have e1 : g1 ≠ q ∧ g1 ≠ w.heap.size ∧ (G g1 ∨ w.heap.size ≤ g1) := by
    rcases h1.at_ with e | e
    · have := hvg g1 e; have := hGw g1 this.1; exact ⟨(hvg g1 e).2, by omega, .inl (hvg g1 e).1⟩
    · exact ⟨by omega, by omega, .inr (by omega)⟩
  have l1 := h1.lt
  have e2 : g2 ≠ q ∧ g2 ≠ w.heap.size ∧ (G g2 ∨ w.heap.size ≤ g2) ∧ g1 ≠ g2 := by
    have := h1.size
    rcases h2.at_ with e | e
    · have hh := hvl g2 e; have := hGw g2 hh.1
      refine ⟨hh.2.1, by omega, .inl hh.1, fun ee => ?_⟩
      rcases h1.at_ with e' | e'
      · exact hh.2.2 (by rw [← ee]; exact e')
      · omega
    · exact ⟨by omega, by omega, .inr (by omega), by omega⟩
  have hne1 : (Value.slice a' k c').ownBlock ≠ some g1 := fun e => by
    have hh := hvl g1 e; have := hGw g1 hh.1
    rcases h1.at_ with e' | e'
    · exact hh.2.2 e'
    · omega
  have o1' : w2.ownsRow 0 3 1 (.slice (some ⟨g1, 0, none⟩) (k + 1) cap1) (k + 1) ((gensL l).flatMap elInt.enc ++ [.int .i64 0]) :=
    ownsRow_block o1 (fun g hg => by simp [Value.ownBlock] at hg; subst hg; exact h2.far g1 l1 hne1)
  have hq2 : w2.heap[q]? = some (.cells (.slice a k c :: .slice a' k c' :: rest).toArray T (0, 0)) := by
    rw [h2.far q (by have := h1.size; omega) (fun e => (hvl q e).2.1 rfl), h1.far q (by omega) (fun e => (hvg q e).2 rfl)]; exact hq
  have k2 : Kept (fun b => b = q) w2 ((w2.setCell ⟨q, 0, none⟩ (.slice (some ⟨g1, 0, none⟩) (k + 1) cap1)).setCell ⟨q, 1, none⟩ (.slice (some ⟨g2, 0, none⟩) (k + 1) cap2)) :=
    (Kept.setCell (F := fun b => b = q) w2 (p := ⟨q, 0, none⟩) rfl _).trans (Kept.setCell (F := fun b => b = q) _ (p := ⟨q, 1, none⟩) rfl _) (fun _ h => .inl h)
  have hq3 : ((w2.setCell ⟨q, 0, none⟩ (.slice (some ⟨g1, 0, none⟩) (k + 1) cap1)).setCell ⟨q, 1, none⟩ (.slice (some ⟨g2, 0, none⟩) (k + 1) cap2)).heap[q]? = some (.cells (.slice (some ⟨g1, 0, none⟩) (k + 1) cap1 :: .slice (some ⟨g2, 0, none⟩) (k + 1) cap2 :: rest).toArray T (0, 0)) := by
    rw [heap_setCell_same _ _ _ _ _ _ (heap_setCell_same _ _ _ _ _ _ hq2)]; simp
  have hmv : Moves w G (fun b => G b ∨ b = g1 ∨ b = g2) := fun b hb => by
    rcases hb with hb | rfl | rfl
    · exact .inl hb
    · exact e1.2.2
    · exact e2.2.2.1
  have s2 := h2.size
  have s1 := h1.size
  have l2 := h2.lt
  have sy := hy.size
  have s3 := k2.size
  refine ⟨⟨.slice (some ⟨g1, 0, none⟩) (k + 1) cap1, .slice (some ⟨g2, 0, none⟩) (k + 1) cap2, ?_, ?_, ?_, .inl hGq, ?_, ?_, ?_⟩, ?_, hmv⟩
  · rw [hy.block q (by omega) (by omega)]; exact hq3
  · have : Owns elInt w2 3 (.slice (some ⟨g1, 0, none⟩) (k + 1) cap1) (gensL (l ++ [(0, true)])) := by
      unfold Owns; simp only [gensL, List.map_append, List.flatMap_append, List.length_append, List.length_map, hn]; exact o1'
    exact (this.kept k2 (fun b hb => by simp [Value.ownBlock] at hb; subst hb; exact e1.1)).kept hy (fun b hb => by simp [Value.ownBlock] at hb; subst hb; exact e1.2.1)
  · have : Owns elBool w2 4 (.slice (some ⟨g2, 0, none⟩) (k + 1) cap2) (livesL (l ++ [(0, true)])) := by
      unfold Owns; simp only [livesL, List.map_append, List.flatMap_append, List.length_append, List.length_map, hn]; exact o2
    exact (this.kept k2 (fun b hb => by simp [Value.ownBlock] at hb; subst hb; exact e2.1)).kept hy (fun b hb => by simp [Value.ownBlock] at hb; subst hb; exact e2.2.1)
  · intro b hb; simp [Value.ownBlock] at hb; subst hb; exact ⟨.inr (.inl rfl), e1.1⟩
  · intro b hb; simp [Value.ownBlock] at hb; subst hb; exact ⟨.inr (.inr rfl), e2.1, by simp [Value.ownBlock]; exact e2.2.2.2⟩
  · intro b hb
    rcases hb with hb | rfl | rfl
    · have := hGw b hb; omega
    · omega
    · omega
  · exact ((((Kept.ofBelow hBW).trans (h1.kept (F := G) (fun b hb => (hvg b hb).1)) (fun _ h => .inl h)).trans (h2.kept (F := G) (fun b hb => (hvl b hb).1)) (fun _ h => .inl h)).trans (k2.mono (G := G) (fun b e => by rw [e]; exact .inl hGq)) (fun _ h => .inl h)).trans hy (fun b e => .inr (by omega))

set_option maxHeartbeats 4000000 in
theorem refTake_any (q : Nat) (T : TypeId) (rest : List Value) (G : Nat → Prop) (l : List (Int × Bool)) (w : World) (h : RefAt w q T rest G l) (ok : SlotOk l) :
    Calls Tryz.prog 70 #[.pointer (some ⟨q, 0, none⟩)] w (RTakePost w q T rest G l) := by
  have HS := Lib.hid (h.later (nb_alloc (Below.refl _ _) (.cells #[.int .i64 0, .int .i64 0] 43)))
  have HS0 := Lib.hid h
  have hlen := ok.len
  have hqw := h.lt q (by obtain ⟨_, _, _, _, _, hG, _⟩ := h; exact hG)
  obtain ⟨a, c, a', c', hq0, hgO, hlO, hGq, hvg, hvl, hltG, q0, q1, hall⟩ := HS.out.cells'
  clear ok h
  have HQ0 := Lib.hid hq0
  have HGO := Lib.hid hgO
  have HLO := Lib.hid hlO
  have HVG := Lib.hid hvg
  have HVL := Lib.hid hvl
  clear hq0 hgO hlO hvg hvl
  generalize hn : l.length = n at *
  have HN := Lib.hid hn
  clear hn
  have hBW : Below w.heap.size w (w.alloc (.cells #[.int .i64 0, .int .i64 0] 43)) := nb_alloc (Below.refl _ _) _
  have HBW := Lib.hid hBW
  clear hBW
  all_goals
    go_enter Tryz.func70, Tryz.ntmps70
    go_wp2
    go_loop [11] (fun i => ∃ k : Nat, k ≤ n ∧ i = .int .i64 k ∧ Hid (∀ j, j < k → freeB (l.getD j slotZ) = false)) (fun i => n - (intOf i).toNat)
    case atStart => exact ⟨0, by omega, rfl, fun j hj => by omega⟩
    case round =>
      obtain ⟨k, hk, rfl, hno⟩ := hrel
      by_cases hltk : k < n
      · first
          | omega
          | (obtain ⟨b, b', rfl, rfl, hb, hb', c0, c1⟩ := hall k hltk
             clear hall
             have HF : Hid (freeB (l.getD k slotZ) = true → firstFree l = k) := Lib.hid (fun hf => firstFree_eq (by rw [HN.out]; exact hltk) hno.out hf)
             generalize hx : l.getD k slotZ = x at *
             have HX := Lib.hid hx
             clear hx
             obtain ⟨x1, x2⟩ := x
             cases x2
             · cases hd : decide (x1 < 1000000)
               · go_wp2
                 go_round
                 case rel => exact ⟨k + 1, by omega, by go_num, fun j hj => if e : j = k then by rw [e, HX.out, freeB, hd]; rfl else hno.out j (by omega)⟩
                 case measure => simp [intOf]; omega
               · have hff : firstFree l = k := HF.out (by rw [freeB, hd]; rfl)
                 have hffl : firstFree l < l.length := by rw [hff, HN.out]; exact hltk
                 have HRES := Lib.hid (ret_take (takeH_old hffl) (takeE_old hffl))
                 have HL := Lib.hid (takeL_old hffl)
                 rw [hff, HX.out] at HRES HL
                 clear hff hffl
                 obtain ⟨g, d, g', d', hq, hg, hl', hG, hGg, hGg', n1, n2, n3, hlt, p0, p1, x0, x1', f0, f1⟩ := HS0.out.open (show k < l.length by rw [HN.out]; exact hltk)
                 rw [HN.out] at p0 p1
                 have hgw : g' < w.heap.size := HS0.out.lt g' hGg'
                 have hB0 : Below w.heap.size w (w.alloc (.cells #[.int .i64 0, .int .i64 0] 43)) := nb_alloc (Below.refl _ _) _
                 rw [hB0.cell (p := ⟨q, 0, none⟩) hqw, p0] at q0
                 rw [hB0.cell (p := ⟨q, 1, none⟩) hqw, p1] at q1
                 simp only [Option.some.injEq, Value.slice.injEq, Addr.mk.injEq, true_and, and_true] at q0 q1
                 obtain ⟨rfl, rfl⟩ := q0
                 obtain ⟨rfl, rfl⟩ := q1
                 have fz : (w.alloc (.cells #[.int .i64 0, .int .i64 0] 43)).frozen? ⟨g', k, none⟩ = false := by rw [hB0.frozen (p := ⟨g', k, none⟩) hgw]; exact f1
                 have HD := Lib.hid (refAt_flag (x := true) hq hg hl' hG hGg hGg' n1 n2 n3 hlt (show k < l.length by rw [HN.out]; exact hltk))
                 rw [HX.out] at HD x0 x1'
                 clear hq hg hl' hlt hB0
                 have m1 : ¬ g' = w.heap.size := by omega
                 have m2 : ¬ w.heap.size = g' := by omega
                 have m3 : ¬ g' = q := n2
                 have m4 : ¬ q = g' := Ne.symm n2
                 go_wp2
                 refine bodyPost_ret (v := .tuple #[.agg #[.int .i64 k, .int .i64 x1], .int .i64 0]) (by simp [results, Tryz.results70, go_sem]) rfl ⟨HRES.out, G, ?_⟩
                 obtain ⟨hs, hkp⟩ := HD.out
                 exact ⟨by rw [HL.out]; exact hs.later (nb_alloc (Below.refl _ _) _), hkp.trans (Kept.alloc G _ _) (fun _ h => .inl h), Moves.refl _ _⟩
             · go_wp2
               go_round
               case rel => exact ⟨k + 1, by omega, by go_num, fun j hj => if e : j = k then by rw [e, HX.out]; rfl else hno.out j (by omega)⟩
               case measure => simp [intOf]; omega)
      · obtain rfl : k = n := by omega
        have hff : ¬ firstFree l < l.length := by rw [firstFree_none (by rw [HN.out]; exact hno.out)]; omega
        by_cases hk60 : k = 60
        · have hno60 : ¬ l.length < 60 := by rw [HN.out]; omega
          have HRES := Lib.hid (ret_take (takeH_no hff hno60) (takeE_no hff hno60))
          have HL := Lib.hid (takeL_no hff hno60)
          have h60 : ((k : Int) == 60) = true := by rw [hk60]; rfl
          clear hff hno60 hk60
          go_wp2
          refine bodyPost_ret (v := .tuple #[.agg #[.int .i64 0, .int .i64 0], .int .i64 2]) (by simp [results, Tryz.results70, go_sem]) rfl ⟨HRES.out, G, ?_⟩
          exact ⟨by rw [HL.out]; exact HS0.out.later (nb_alloc (Below.refl _ _) _), Kept.alloc G _ _, Moves.refl _ _⟩
        · have h60 : ((k : Int) == 60) = false := by rw [beq_eq_false_iff_ne]; omega
          have hno60 : l.length < 60 := by rw [HN.out]; omega
          have HRES := Lib.hid (ret_take (takeH_new hff hno60) (takeE_new hff hno60))
          have HL := Lib.hid (takeL_new hff hno60)
          clear hff hno60 hk60 hall
          go_wp2_with fail
          have r0 : (w.alloc (.cells #[.int .i64 0, .int .i64 0] 43)).heap[w.heap.size]? = some (.cells #[.int .i64 0, .int .i64 0] 43) := heap_alloc_new w _
          have hWs : (w.alloc (.cells #[.int .i64 0, .int .i64 0] 43)).heap.size = w.heap.size + 1 := by simp
          have HR0 := Lib.hid r0
          have HWS := Lib.hid hWs
          clear r0 hWs
          generalize w.alloc (.cells #[.int .i64 0, .int .i64 0] 43) = W at *
          rw [HN.out] at HRES
          have hqW : q < W.heap.size := by rw [HWS.out]; omega
          have HA : Hid (∀ x, Below W.heap.size W x → x.ownsRow 0 3 1 (.slice a k c) k ((gensL l).flatMap elInt.enc)) := Lib.hid (fun x hx => by
            have := HGO.out.later hx; unfold Owns at this; rw [gensL_len, HN.out] at this; exact this)
          have HB : Hid (∀ x, Below W.heap.size W x → x.ownsRow 0 4 1 (.slice a' k c') k ((livesL l).flatMap elBool.enc)) := Lib.hid (fun x hx => by
            have := HLO.out.later hx; unfold Owns at this; rw [livesL_len, HN.out] at this; exact this)
          obtain ⟨iI, hiI, hzI0, hzI1, hzI2⟩ := info_parts infoInt
          obtain ⟨iB, hiB, hzB0, hzB1, hzB2⟩ := info_parts infoBool
          have h63 : k + 1 ≤ maxLen := by unfold maxLen; omega
          have hby : (k + 1) * 8 ≤ 140737488355328 := by omega
          have hby1 : (k + 1) * 1 ≤ 140737488355328 := by omega
          have H63 := Lib.hid h63
          have HBY := Lib.hid hby
          have HBY1 := Lib.hid hby1
          clear h63 hby hby1
          have HVGW : Hid (∀ b, (Value.slice a k c).ownBlock = some b → b < W.heap.size) := Lib.hid (fun b hb => hltG b (HVG.out b hb).1)
          have HVLW : Hid (∀ b, (Value.slice a' k c').ownBlock = some b → b < W.heap.size) := Lib.hid (fun b hb => hltG b (HVL.out b hb).1)
          have HCQ : Hid (∀ x : World, x.heap[q]? = W.heap[q]? → x.cell? ⟨q, 0, none⟩ = some (.slice a k c) ∧ x.cell? ⟨q, 1, none⟩ = some (.slice a' k c') ∧ x.frozen? ⟨q, 0, none⟩ = false ∧ x.frozen? ⟨q, 1, none⟩ = false) := Lib.hid (fun x hx => by
            rw [HQ0.out] at hx
            exact ⟨by rw [cell_of_row _ _ _ _ _ _ hx]; simp, by rw [cell_of_row _ _ _ _ _ _ hx]; simp, frozen_of_row _ _ _ _ _ hx, frozen_of_row _ _ _ _ _ hx⟩)
          have HRR : Hid (∀ x : World, x.heap[w.heap.size]? = W.heap[w.heap.size]? → x.cell? ⟨w.heap.size, 0, none⟩ = some (.int .i64 0) ∧ x.cell? ⟨w.heap.size, 1, none⟩ = some (.int .i64 0) ∧ x.frozen? ⟨w.heap.size, 0, none⟩ = false ∧ x.frozen? ⟨w.heap.size, 1, none⟩ = false) := Lib.hid (fun x hx => by
            rw [HR0.out] at hx
            exact ⟨by rw [cell_of_row _ _ _ _ _ _ hx]; simp, by rw [cell_of_row _ _ _ _ _ _ hx]; simp, frozen_of_row _ _ _ _ _ hx, frozen_of_row _ _ _ _ _ hx⟩)
          have hrq : ¬ w.heap.size = q := by omega
          have hqr : ¬ q = w.heap.size := by omega
          go_region_law (first
            | ((refine step_append_lies _ (by rfl) _ _ 26 (by rfl) 0 3 iI (.int .i64 0) 1 8 Tryz.underlying26 hiI hzI0 hzI1 hzI2 rfl (by decide) (.slice a k c) k ((gensL l).flatMap elInt.enc) (by rfl) (HA.out _ (by first | exact nb_alloc (Below.refl _ _).drew _ | exact nb_alloc (nb_alloc (Below.refl _ _).drew _) _)) _ 1 1 [.int .i64 0] (by rfl) rfl (World.news_of_block (by first | exact heap_alloc_new _ _ | exact heap_alloc2_new _ _ _ | exact heap_alloc2_old _ _ _)) (by intro u hu; simp at hu; subst hu; rfl) (by decide) H63.out HBY.out (Nat.zero_le _) _ rfl ?_; intro g1 cap1 w1 hown1 hgr1 hat1 hlt1
                have HG1 : Hid (Grew W w1 (.slice a k c) g1) := Lib.hid (Grew.of (by first | exact nb_alloc (Below.refl _ _).drew _ | exact nb_alloc (nb_alloc (Below.refl _ _).drew _) _) hgr1 hat1 hlt1)
                have HN1 := Lib.hid (fun b o => Grew.new (b := b) (o := o) HVGW.out hgr1)
                obtain ⟨cq0, cq1, fq0, fq1⟩ := HCQ.out w1 (HG1.out.far q hqW (fun e => (HVG.out q e).2 rfl))
                have HB1 : Hid (∀ y, Below w1.heap.size w1 y → y.ownsRow 0 4 1 (.slice a' k c') k ((livesL l).flatMap elBool.enc)) := Lib.hid (fun y hy => ownsRow_block (HB.out W (Below.refl _ _)) (fun g hg => by rw [hy.block g (Nat.lt_of_lt_of_le (HVLW.out g hg) HG1.out.size), HG1.out.far g (HVLW.out g hg) (HVL.out g hg).2.2]))
                have hqw1 : q < w1.heap.size := Nat.lt_of_lt_of_le hqW HG1.out.size
                have hrw1 : w.heap.size < w1.heap.size := Nat.lt_of_lt_of_le (by rw [HWS.out]; omega) HG1.out.size
                have HO1 := Lib.hid hown1
                clear hown1 hgr1 hat1 hlt1))
            | ((refine step_append_lies _ (by rfl) _ _ 27 (by rfl) 0 4 iB (.bool false) 1 1 Tryz.underlying27 hiB hzB0 hzB1 hzB2 rfl (by decide) (.slice a' k c') k ((livesL l).flatMap elBool.enc) (by rfl) (HB1.out _ (by first | exact Below.refl _ _ | exact nb_alloc (Below.refl _ _) _)) _ 1 1 [.bool true] (by rfl) rfl (World.news_of_block (by first | exact heap_alloc_new _ _ | exact HN1.out _ _ (by simp) (heap_alloc2_new _ _ _) | exact HN1.out _ _ (by simp) (heap_alloc2_old _ _ _))) (by intro u hu; simp at hu; subst hu; rfl) (by decide) H63.out HBY1.out (Nat.zero_le _) _ rfl ?_; intro g2 cap2 w2 hown2 hgr2 hat2 hlt2
                have HG2 : Hid (Grew w1 w2 (.slice a' k c') g2) := Lib.hid (Grew.of (by first | exact Below.refl _ _ | exact nb_alloc (Below.refl _ _) _) hgr2 hat2 hlt2)
                obtain ⟨dq0, dq1, ff0, ff1⟩ := HCQ.out w2 (by rw [HG2.out.far q hqw1 (fun e => (HVL.out q e).2.1 rfl), HG1.out.far q hqW (fun e => (HVG.out q e).2 rfl)])
                have HO2 := Lib.hid hown2
                obtain ⟨rr0, rr1, rf0, rf1⟩ := HRR.out w2 (by rw [HG2.out.far w.heap.size hrw1 (fun e => by have := HS0.out.lt _ (HVL.out _ e).1; omega), HG1.out.far w.heap.size (by rw [HWS.out]; omega) (fun e => by have := HS0.out.lt _ (HVG.out _ e).1; omega)])
                clear hown2 hgr2 hat2 hlt2 cq0 cq1 fq0 fq1)))
          all_goals
            clear q0 q1
            go_wp2
            refine bodyPost_ret (v := .tuple #[.agg #[.int .i64 k, .int .i64 0], .int .i64 0]) (by simp [results, Tryz.results70, go_sem, rr0, rr1]) rfl ⟨HRES.out, fun b => G b ∨ b = g1 ∨ b = g2, ?_⟩
            rw [HL.out]
            exact refTake_end HN.out HQ0.out HBW.out HS0.out.lt hGq HWS.out HVG.out HVL.out HG1.out HO1.out HG2.out HO2.out _ (kept_two _ _ _ _)
end Go.Proofs.YtlaahlphfkadjaaGreat

/- After any sequence of calls, Rows returns the results of the reference: the statement WorldRows. No condition. -/
import Derived.Test.YtakoejopgdaknaaGroundA
import Derived.Test.YtakoejopgdaknaaLawDid
import Derived.Test.YtakoejopgdaknaaRefZooGet
import Derived.Test.YtakoejopgdaknaaRowEq
namespace Go.Proofs.Ytakoejopgdaknaa
set_option maxRecDepth 8000
open Go.ChangeShapes Go.WideShapes Go.ChangeAt Go.RowKit
set_option linter.unusedVariables false

structure BothW (B : World) (wr : World) (p q : Nat) (F G : Nat → Prop) (s : List (Int × Bool) × List Rw) : Prop where
  wld : WldAt wr p F s.1 (· ∈ s.2)
  zoo : ZooAt wr q G s.1 s.2 (.slice none 0 0)
  ap : ∀ b, F b → ¬ G b
  fb : ∀ b, F b → B.heap.size ≤ b
  gb : ∀ b, G b → B.heap.size ≤ b
  below : Below B.heap.size B wr
theorem BothW.later {B wr x : World} {p q : Nat} {F G : Nat → Prop} {s : List (Int × Bool) × List Rw} (h : BothW B wr p q F G s) (hb : Below wr.heap.size wr x) : BothW B x p q F G s :=
  ⟨h.wld.later hb, h.zoo.later hb, h.ap, h.fb, h.gb, nb_trans h.below hb⟩
theorem killE_neg {l : List (Int × Bool)} {rows : List Rw} (ok : WOk l rows) : killE rows (-1) 0 = 7 := by
  have : hasH rows (-1) 0 = false := by
    rw [ok.has]
    cases h : liveB l (-1) 0
    · rfl
    · have := (liveB_iff.1 h).1; omega
  rw [killE, this]; rfl

set_option maxRecDepth 100000 in
set_option maxHeartbeats 8000000 in
theorem worldRows_walk (u0 : Value) (z0 : List Opm) (j0 : ∀ x ∈ z0, OpOk x) (a1 b1 c1 : Int) (i1 : I64 a1) (j1 : I64 b1) (k1 : I64 c1) (w : World) (i0 : Reads elOp w u0 z0) :
    Calls Try.prog 4 #[u0, .agg #[.int .i64 a1, .int .i64 b1, .int .i64 c1]] w fun e w' => e = .returned (.bool true) ∧ Below w.heap.size w w' := by
  have HJ := Lib.hid j0
  have HI1 := Lib.hid i1
  clear i1 j1 k1
  have hX : Below w.heap.size w (w.alloc (.cells #[.int .i64 a1, .int .i64 b1, .int .i64 c1] 50)) := nb_alloc (Below.refl _ _) _
  have HX := Lib.hid hX
  have HXB : Hid ((w.alloc (.cells #[.int .i64 a1, .int .i64 b1, .int .i64 c1] 50)).heap[w.heap.size]? = some (.cells #[.int .i64 a1, .int .i64 b1, .int .i64 c1] 50)) := Lib.hid (heap_alloc_new _ _)
  have hxl := (Array.getElem?_eq_some_iff.1 HXB.out).1
  replace i0 := i0.later hX
  clear hX
  obtain ⟨hm, hop⟩ := i0.open
  unfold maxLen at hm
  obtain ⟨n, hn⟩ : ∃ n, z0.length = n := ⟨_, rfl⟩
  have HN := Lib.hid hn
  rw [hn] at hm hop
  clear i0 j0 hn
  rcases hop with ⟨a, cap, rfl, hz0⟩ | ⟨b, off, cap, rfl, hb, hlc, hcm, hcc⟩
  all_goals
    go_enter Try.func4, Try.ntmps4
    go_wp2_with fail
    generalize w.alloc (.cells #[.int .i64 a1, .int .i64 b1, .int .i64 c1] 50) = X at *
    refine (worldNew_any _).mono ?_
    rintro e w1 ⟨rfl, hw1⟩
    have HBT : Hid (BothW X (w1.alloc (.cells #[.slice none 0 0, .slice none 0 0, .slice none 0 0, .slice none 0 0] 33)) X.heap.size w1.heap.size (fun b => b = X.heap.size) (fun b => b = w1.heap.size) ([], [])) := Lib.hid (by
      have hs : w1.heap.size = X.heap.size + 1 := by rw [← hw1]; simp
      have hb1 : Below X.heap.size X w1 := by rw [← hw1]; exact nb_alloc (Below.refl _ _) _
      refine ⟨(WldAt.congr (by rw [← hw1]; exact WldAt.new X) (fun r => by simp)).later (nb_alloc (Below.refl _ _) _), ZooAt.new w1, fun b e e2 => by omega, fun b e => by omega, fun b e => by omega, nb_alloc hb1 _⟩)
    clear hw1
    go_wp2
    generalize hq : w1.heap.size = q at *
    clear hq
    generalize w1.alloc (.cells #[.slice none 0 0, .slice none 0 0, .slice none 0 0, .slice none 0 0] 33) = w2 at *
    go_loopw [20] (fun i wr => ∃ (t : Nat) (F G : Nat → Prop), t ≤ n ∧ i = .int .i64 t ∧ Hid (BothW X wr X.heap.size q F G (madeW (z0.take t)))) (fun i _ => n - (intOf i).toNat)
    case atStart => exact ⟨0, _, _, by omega, rfl, HBT⟩
    case round =>
      obtain ⟨t, F, G, htn, rfl, hT⟩ := hrel
      by_cases hlt : t < n
      · first
          | omega
          | (obtain ⟨o, ho⟩ : ∃ o, z0.getD t opZ = o := ⟨_, rfl⟩
             have htl : t < z0.length := by rw [HN.out]; exact hlt
             have hcr : ∀ jj, jj < 16 → wr.cell? ⟨b, off + t * 16 + jj, none⟩ = (elOp.enc o)[jj]? := fun jj hjj => by rw [hT.out.below.cell (p := ⟨b, _, none⟩) hb, ← ho]; exact hcc t hlt jj hjj
             have y0 : wr.cell? ⟨b, off + t * 16, none⟩ = some (.int .i64 o.d) := hcr 0 (by decide)
             have y1 : wr.cell? ⟨b, off + t * 16 + 1, none⟩ = some (.int .i64 o.m) := hcr 1 (by decide)
             have y2 : wr.cell? ⟨b, off + t * 16 + 2, none⟩ = some (.int .i64 (o.f 0)) := hcr 2 (by decide)
             have y3 : wr.cell? ⟨b, off + t * 16 + 3, none⟩ = some (.int .i64 (o.f 1)) := hcr 3 (by decide)
             have y4 : wr.cell? ⟨b, off + t * 16 + 4, none⟩ = some (.int .i64 (o.f 2)) := hcr 4 (by decide)
             have y5 : wr.cell? ⟨b, off + t * 16 + 5, none⟩ = some (.int .i64 (o.f 3)) := hcr 5 (by decide)
             have y6 : wr.cell? ⟨b, off + t * 16 + 6, none⟩ = some (.int .i64 (o.f 4)) := hcr 6 (by decide)
             have y7 : wr.cell? ⟨b, off + t * 16 + 7, none⟩ = some (.int .i64 (o.f 5)) := hcr 7 (by decide)
             have y8 : wr.cell? ⟨b, off + t * 16 + 8, none⟩ = some (.int .i64 (o.f 6)) := hcr 8 (by decide)
             have y9 : wr.cell? ⟨b, off + t * 16 + 9, none⟩ = some (.int .i64 (o.f 7)) := hcr 9 (by decide)
             have y10 : wr.cell? ⟨b, off + t * 16 + 10, none⟩ = some (.int .i64 o.a) := hcr 10 (by decide)
             have y11 : wr.cell? ⟨b, off + t * 16 + 11, none⟩ = some (.int .i64 o.b) := hcr 11 (by decide)
             have y12 : wr.cell? ⟨b, off + t * 16 + 12, none⟩ = some (.int .i64 o.ta) := hcr 12 (by decide)
             have y13 : wr.cell? ⟨b, off + t * 16 + 13, none⟩ = some (.int .i64 o.tb) := hcr 13 (by decide)
             have y14 : wr.cell? ⟨b, off + t * 16 + 14, none⟩ = some (.int .i64 o.k) := hcr 14 (by decide)
             have y15 : wr.cell? ⟨b, off + t * 16 + 15, none⟩ = some (.int .i64 o.n) := hcr 15 (by decide)
             have HTK : Hid (madeW (z0.take (t + 1)) = stepW (madeW (z0.take t)) o) := Lib.hid (by rw [take_snocD z0 t opZ htl, ho, madeW_snoc])
             have HOP : Hid (OpOk o) := Lib.hid (HJ.out o (by rw [← ho]; exact mem_getD htl))
             have HOK : Hid (WOk (madeW (z0.take t)).1 (madeW (z0.take t)).2) := Lib.hid (WOk.made _)
             have HOK5 : Hid (WOk (madeW (z0.take (t + 1))).1 (madeW (z0.take (t + 1))).2) := Lib.hid (WOk.made _)
             obtain ⟨s, hs⟩ : ∃ s, madeW (z0.take t) = s := ⟨_, rfl⟩
             rw [hs] at hT HTK HOK
             have hbw : b < wr.heap.size := Nat.lt_of_lt_of_le hb hT.out.below.size
             have HTA := Lib.hid (hT.out.later (nb_alloc (Below.refl _ _) (.cells #[.int .i64 o.d, .int .i64 o.m, .int .i64 (o.f 0), .int .i64 (o.f 1), .int .i64 (o.f 2), .int .i64 (o.f 3), .int .i64 (o.f 4), .int .i64 (o.f 5), .int .i64 (o.f 6), .int .i64 (o.f 7), .int .i64 o.a, .int .i64 o.b, .int .i64 o.ta, .int .i64 o.tb, .int .i64 o.k, .int .i64 o.n] 40)))
             have HBX : Hid ((wr.alloc (.cells #[.int .i64 o.d, .int .i64 o.m, .int .i64 (o.f 0), .int .i64 (o.f 1), .int .i64 (o.f 2), .int .i64 (o.f 3), .int .i64 (o.f 4), .int .i64 (o.f 5), .int .i64 (o.f 6), .int .i64 (o.f 7), .int .i64 o.a, .int .i64 o.b, .int .i64 o.ta, .int .i64 o.tb, .int .i64 o.k, .int .i64 o.n] 40)).heap[wr.heap.size]? = some (.cells #[.int .i64 o.d, .int .i64 o.m, .int .i64 (o.f 0), .int .i64 (o.f 1), .int .i64 (o.f 2), .int .i64 (o.f 3), .int .i64 (o.f 4), .int .i64 (o.f 5), .int .i64 (o.f 6), .int .i64 (o.f 7), .int .i64 o.a, .int .i64 o.b, .int .i64 o.ta, .int .i64 o.tb, .int .i64 o.k, .int .i64 o.n] 40)) := Lib.hid (heap_alloc_new _ _)
             have HNB : Hid (¬ F wr.heap.size ∧ ¬ G wr.heap.size) := Lib.hid ⟨fun h => by have := hT.out.wld.lt _ h; omega, fun h => by have := hT.out.zoo.lt _ h; omega⟩
             clear hcr hcc ho hs hT
             go_wp2_with fail
             generalize wr.alloc (.cells #[.int .i64 o.d, .int .i64 o.m, .int .i64 (o.f 0), .int .i64 (o.f 1), .int .i64 (o.f 2), .int .i64 (o.f 3), .int .i64 (o.f 4), .int .i64 (o.f 5), .int .i64 (o.f 6), .int .i64 (o.f 7), .int .i64 o.a, .int .i64 o.b, .int .i64 o.ta, .int .i64 o.tb, .int .i64 o.k, .int .i64 o.n] 40) = A at *
             refine (did_any X.heap.size q F G s.1 s.2 _ o _ HTA.out.wld HTA.out.zoo HTA.out.ap HOK.out HOP.out).mono ?_
             rintro e w5 ⟨rfl, F5, G5, h5, z5, ap5, k5, m5, n5⟩
             have hT5 : BothW X w5 X.heap.size q F5 G5 (madeW (z0.take (t + 1))) := by
               rw [HTK.out]
               refine ⟨h5, z5, ap5, ?_, ?_, ?_⟩
               · exact m5.above HTA.out.below.size HTA.out.fb
               · exact n5.above HTA.out.below.size HTA.out.gb
               · exact HTA.out.below.trans (k5.below HTA.out.below.size (fun b' hb' => hb'.elim (HTA.out.fb b') (HTA.out.gb b')))
             have HT5 := Lib.hid hT5
             obtain ⟨s5, hs5⟩ : ∃ s5, madeW (z0.take (t + 1)) = s5 := ⟨_, rfl⟩
             rw [hs5] at HT5 HOK5 hT5
             have HS5 := Lib.hid hs5
             clear hs5
             have hx5 : w5.heap[w.heap.size]? = some (.cells #[.int .i64 a1, .int .i64 b1, .int .i64 c1] 50) := by rw [hT5.below.block _ hxl]; exact HXB.out
             have hx5l := (Array.getElem?_eq_some_iff.1 hx5).1
             have k0 : w5.cell? ⟨w.heap.size, 0, none⟩ = some (.int .i64 a1) := by rw [cell_of_row _ _ _ _ _ _ hx5]; rfl
             have k1 : w5.cell? ⟨w.heap.size, 1, none⟩ = some (.int .i64 b1) := by rw [cell_of_row _ _ _ _ _ _ hx5]; rfl
             have k2 : w5.cell? ⟨w.heap.size, 2, none⟩ = some (.int .i64 c1) := by rw [cell_of_row _ _ _ _ _ _ hx5]; rfl
             have HX5 := Lib.hid hx5
             clear h5 z5 ap5 k5 m5 n5 hT5 hx5 y0 y1 y2 y3 y4 y5 y6 y7 y8 y9 y10 y11 y12 y13 y14 y15
             go_wp2_with fail
             refine (worldRows_any _ F5 s5.1 s5.2 a1 b1 c1 _ HT5.out.wld HOK5.out).mono ?_
             rintro e w6 ⟨v6, rfl, ho6, hb6⟩
             have HT6 := Lib.hid (HT5.out.later hb6)
             have HO6 := Lib.hid ho6.reads
             have hx6 : w6.heap[w.heap.size]? = some (.cells #[.int .i64 a1, .int .i64 b1, .int .i64 c1] 50) := by rw [hb6.block _ hx5l]; exact HX5.out
             have hx6l := (Array.getElem?_eq_some_iff.1 hx6).1
             have l0 : w6.cell? ⟨w.heap.size, 0, none⟩ = some (.int .i64 a1) := by rw [cell_of_row _ _ _ _ _ _ hx6]; rfl
             have l1 : w6.cell? ⟨w.heap.size, 1, none⟩ = some (.int .i64 b1) := by rw [cell_of_row _ _ _ _ _ _ hx6]; rfl
             have l2 : w6.cell? ⟨w.heap.size, 2, none⟩ = some (.int .i64 c1) := by rw [cell_of_row _ _ _ _ _ _ hx6]; rfl
             obtain ⟨x, hx⟩ : ∃ x, qErr a1 b1 c1 = x := ⟨_, rfl⟩
             rw [hx]
             have HQE := Lib.hid hx
             clear ho6 hb6 hx6 k0 k1 k2 hx
             go_wp2_with fail
             refine (refRows_any q G5 s5.1 s5.2 _ a1 b1 c1 _ HT6.out.zoo HOK5.out HI1.out).mono ?_
             rintro e w7 ⟨v7, rfl, ho7, hb7⟩
             rw [HQE.out]
             have HT7 := Lib.hid (HT6.out.later hb7)
             have HO7 := Lib.hid ho7.reads
             have HO67 := Lib.hid (HO6.out.later hb7)
             have hne : (x != x) = false := by simp
             clear ho7 hb7 l0 l1 l2
             go_wp2_with fail
             refine (eqRow_same v6 v7 _ _ HO67.out HO7.out).mono ?_
             rintro e w8 ⟨rfl, hb8⟩
             have HT8 := Lib.hid (HT7.out.later hb8)
             clear hb8
             go_wp2
             go_roundw
             case rel => exact ⟨t + 1, F5, G5, by omega, by go_num, by rw [HS5.out]; exact HT8⟩
             case measure => simp [intOf]; omega)
      · obtain rfl : t = n := by omega
        have HE := Lib.hid (killE_neg (WOk.made (z0.take t)))
        have HOKE := Lib.hid (WOk.made (z0.take t))
        generalize madeW (z0.take t) = s at *
        go_wp2_with fail
        refine (worldKill_any _ F s.1 s.2 (-1) 0 _ hT.out.wld HOKE.out ⟨by decide, by decide⟩ ⟨by decide, by decide⟩).mono ?_
        rintro e w9 ⟨rfl, F9, h9, hk9, hm9⟩
        rw [HE.out]
        have HBN : Hid (Below w.heap.size w w9) := Lib.hid (nb_trans HX.out (hT.out.below.trans (hk9.below hT.out.below.size hT.out.fb)))
        clear h9 hk9 hm9
        go_wp2
        go_ret
        exact ⟨rfl, HBN.out⟩

namespace worldRows
theorem own : ownKnob Try.prog.godebug = none := by kernel_rfl
theorem laidOut : laidOutB Try.prog = true := by kernel_rfl

set_option maxRecDepth 100000 in
set_option maxHeartbeats 4000000 in
theorem lifted (os : Os) (started : os.Started) (H : Type) (enc : TypeId × Value → H) :
    ReturnsInHanded {} Try.checked os 4 .any (Rows.worldRowsSpec.pre6 enc Try.prog Try.f4 Rows.worldRowsRow.domain false) (Rows.worldRowsSpec.post enc Try.prog Try.f4 false true false false) := by
  refine returnsInHanded_of_change (C := Try.checked) own started (by kernel_rfl) Try.func4
    (ChangeSpec.witness6 (enc := enc) (C := Try.checked) false ⟨#[], #[.slice none 0 0, .agg #[.int .i64 0, .int .i64 0, .int .i64 0]], []⟩ 8 (by kernel_rfl) (by kernel_rfl) (by kernel_rfl) (by kernel_rfl)) ?_
  intro W base args ds gs before hval0 hW hcnd _
  have hval : ∀ (j : Nat) t v, Try.f4.params[j]? = some t → args[j]? = some v → Value.okWide Try.prog W .any base t v := hval0
  have hW' := hW
  obtain ⟨p, q, hA0, hV, rfl, hfz, hnd⟩ := hW
  have hA : DataW.TrodAll enc Try.prog W 0 (fun _ => true) true Try.f4.params.toList args.toList ds p := hA0
  rw [Try.params4] at hA hval
  obtain ⟨v0, vs0, d0, ds0, p0, q0, hargs, rfl, rfl, h0, r0⟩ := trodAll_cons hA
  obtain ⟨v1, vs1, d1, ds1, p1, q1, rfl, rfl, rfl, h1, r1⟩ := trodAll_cons r0
  obtain ⟨rfl, rfl, rfl⟩ := trodAll_nil r1
  obtain rfl : args = #[v0, v1] := by cases args; simp_all
  obtain ⟨rfl, rfl⟩ := trodVars_none hV
  have k0' := h0
  have lt0 : ∀ x ∈ p0, x.block < W.heap.size := by obtain ⟨m, hm⟩ := h0; exact DataW.trod_lt m _ _ _ hm
  have k1' := h1
  have lt1 : ∀ x ∈ p1, x.block < W.heap.size := by obtain ⟨m, hm⟩ := h1; exact DataW.trod_lt m _ _ _ hm
  obtain ⟨z0, i0, j0⟩ : ∃ zs, Reads elOp W v0 zs ∧ ∀ x ∈ zs, OpOk x := by
    obtain ⟨a0, len0, cap0, rfl⟩ := okWide_slice Try.underlying22 (hval 0 22 v0 rfl rfl)
    exact Reads_ofP elOp OpOk Try.underlying22 (by kernel_rfl) op_dec h0
  obtain ⟨a1, b1, c1, rfl, i1, j1, k1⟩ : ∃ a b c : Int, v1 = .agg #[.int .i64 a, .int .i64 b, .int .i64 c] ∧ I64 a ∧ I64 b ∧ I64 c := by
    obtain ⟨c0, c1, c2, y0, y1, y2, m, rfl, _, _, hy0, hy1, hy2⟩ := Go.Joins.open_agg3 Try.underlying50 (by kernel_rfl) (show Try.prog.cellsOf 50 = 3 by kernel_rfl) (hval 1 50 v1 rfl rfl) h1
    obtain ⟨a, e0, _, wa⟩ := DataW.trod_int Try.underlying3 hy0
    obtain ⟨b, e1, _, wb⟩ := DataW.trod_int Try.underlying3 hy1
    obtain ⟨c, e2, _, wc⟩ := DataW.trod_int Try.underlying3 hy2
    simp at e0 e1 e2
    exact ⟨a, b, c, by rw [e0, e1, e2], I64_of wa, I64_of wb, I64_of wc⟩
  clear hA0 hval0
  refine (worldRows_walk v0 z0 j0 a1 b1 c1 i1 j1 k1 W i0).mono fun e W' ⟨he, bel⟩ => ?_
  subst he
  exact ⟨_, rfl, _, _, _, [], _, [], hW', trodAll_mk1 (shut_bool Try.underlying4 _), (trodAll_cons_mk (Below.trod laidOut (by kernel_rfl) (of_decide_eq_true (by kernel_rfl)) k0' bel lt0) (trodAll_cons_mk (Below.trod laidOut (by kernel_rfl) (of_decide_eq_true (by kernel_rfl)) k1' bel lt1) trodAll_mk0)), rfl, bel.frame _, fun h => by cases h⟩
end worldRows

theorem worldRows_proved : Rows.WorldRowsSaid :=
  OpenClaim.holds_of_wide 4 Try.f4 rfl rfl rfl rfl rfl rfl rfl ⟨rfl, rfl, rfl, rfl, rfl⟩ rfl rfl rfl rfl rfl (by kernel_rfl) Try.func4 (by kernel_rfl)
    (of_decide_eq_true (by kernel_rfl)) (by unfold Func.isWrapper; first | (rw [if_pos (by decide +kernel)]; kernel_rfl) | (rw [if_neg (by decide +kernel)]; exact ⟨rfl, rfl⟩))
    (fun os started H enc _ => worldRows.lifted os started H enc)

end Go.Proofs.Ytakoejopgdaknaa

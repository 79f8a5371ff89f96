
/- For any lists of operations, one after the other, All returns the results of the reference: the statement ZooAlls. No condition. -/
import Derived.Test.YtlaahlphfkadjaaGreatGroundA
import Derived.Test.YtlaahlphfkadjaaGreatBothZoo
import Derived.Test.YtlaahlphfkadjaaGreatRefAll
import Derived.Test.YtlaahlphfkadjaaGreatKeepSame
import Derived.Test.YtlaahlphfkadjaaGreatZooRefTell
namespace Go.Proofs.YtlaahlphfkadjaaGreat
set_option maxRecDepth 8000
open Go.ChangeShapes Go.WideShapes Go.ChangeAt Go.RowKit
set_option linter.unusedVariables false

/-- The state before the t-th of two lists. -/
noncomputable def stA (a b : List Opm) (t : Nat) : Zs := match t with
  | 0 => zNil
  | 1 => allZ zNil a
  | _ => allZ (allZ zNil a) b
theorem stA_ok (a b : List Opm) (t : Nat) : ZOk (stA a b t) := by
  match t with
  | 0 => exact ZOk.done []
  | 1 => exact (ZOk.done []).all _
  | _ + 2 => exact ((ZOk.done []).all _).all _

set_option maxRecDepth 100000 in
set_option maxHeartbeats 16000000 in
theorem zooAlls_walk (u0 : Value) (z0 : List Opm) (j0 : ∀ x ∈ z0, OpOk x) (u1 : Value) (z1 : List Opm) (j1 : ∀ x ∈ z1, OpOk x) (w : World) (i0 : Reads elOp w u0 z0) (i1 : Reads elOp w u1 z1) :
    Calls Tryz.prog 3 #[u0, u1] w fun e w' => e = .returned (.bool true) ∧ Below w.heap.size w w' := by
  have HI0 := Lib.hid i0
  have HI1 := Lib.hid i1
  have HJ0 := Lib.hid j0
  have HJ1 := Lib.hid j1
  obtain ⟨ua, uc, hue, -⟩ := i0
  subst hue
  obtain ⟨ub, ud, hue, -⟩ := i1
  subst hue
  clear j0 j1
  go_enter Tryz.func3, Tryz.ntmps3
  go_wp2_with fail
  refine (zooNew_any _).mono ?_
  rintro e w1 ⟨rfl, hw1⟩
  have HBT := Lib.hid ((BothZ.start hw1).later (nb_alloc (Below.refl _ _) (.cells #[.slice ua z0.length uc, .slice ub z1.length ud] 22)))
  have HSB : Hid (((w1.alloc (.cells #[.slice none 0 0, .slice none 0 0, .slice none 0 0, .slice none 0 0] 33)).alloc (.cells #[.slice ua z0.length uc, .slice ub z1.length ud] 22)).heap[w1.heap.size + 1]? = some (.cells #[.slice ua z0.length uc, .slice ub z1.length ud] 22)) := Lib.hid (heap_alloc2_new _ _ _)
  have hsw : w1.heap.size = w.heap.size + 1 := by rw [← hw1]; simp
  have HNF : Hid (¬ (w1.heap.size + 1 = w.heap.size) ∧ ¬ (w1.heap.size + 1 = w1.heap.size)) := Lib.hid ⟨by omega, by omega⟩
  clear hw1 hsw
  go_wp2
  generalize (w1.alloc (.cells #[.slice none 0 0, .slice none 0 0, .slice none 0 0, .slice none 0 0] 33)).alloc (.cells #[.slice ua z0.length uc, .slice ub z1.length ud] 22) = w2 at *
  generalize hq : w1.heap.size = q at *
  clear hq
  go_loopw [24] (fun i wr => ∃ (t : Nat) (F G : Nat → Prop), t ≤ 2 ∧ i = .int .i64 t ∧ Hid (BothZ w wr w.heap.size q F G (stA z0 z1 t) (stA z0 z1 t)) ∧ Hid (wr.heap[q + 1]? = some (.cells #[.slice ua z0.length uc, .slice ub z1.length ud] 22)) ∧ Hid (¬ F (q + 1) ∧ ¬ G (q + 1))) (fun i _ => 2 - (intOf i).toNat)
  case atStart => exact ⟨0, _, _, by omega, rfl, HBT, HSB, HNF⟩
  case round =>
    obtain ⟨t, F, G, htn, rfl, hT, hS, hN⟩ := hrel
    by_cases hlt : t < 2
    · as_aux_lemma =>
      obtain ⟨a, n, c, os, HRD, HJ, HST, hcell⟩ : ∃ a n c os, Hid (Reads elOp w (.slice a n c) os) ∧ Hid (∀ o ∈ os, OpOk o) ∧ Hid (stA z0 z1 (t + 1) = allZ (stA z0 z1 t) os) ∧ wr.cell? ⟨q + 1, t, none⟩ = some (.slice a n c) := by
        obtain rfl | rfl : t = 0 ∨ t = 1 := by omega
        · exact ⟨_, _, _, z0, HI0, HJ0, Lib.hid rfl, (cell_of_row _ _ _ _ _ _ hS.out).trans rfl⟩
        · exact ⟨_, _, _, z1, HI1, HJ1, Lib.hid rfl, (cell_of_row _ _ _ _ _ _ hS.out).trans rfl⟩
      have HOK := Lib.hid (stA_ok z0 z1 t)
      obtain ⟨s, hs⟩ : ∃ s, stA z0 z1 t = s := ⟨_, rfl⟩
      rw [hs] at hT HST HOK
      obtain ⟨s5, hs5⟩ : ∃ s5, allZ s os = s5 := ⟨_, rfl⟩
      have HS5 : Hid (allZ s os = s5 ∧ ZOk s5) := Lib.hid ⟨hs5, by rw [← hs5]; exact HOK.out.all os⟩
      rw [hs5] at HST
      obtain ⟨nn, hnn⟩ : ∃ x : Int, (allN s os : Int) = x := ⟨_, rfl⟩
      obtain ⟨de, hde⟩ : ∃ x, allE s os = x := ⟨_, rfl⟩
      have HHD : Hid ((allN s os : Int) = nn ∧ allE s os = de) := Lib.hid ⟨hnn, hde⟩
      have hsl := (Array.getElem?_eq_some_iff.1 hS.out).1
      have ht0 : (0 : Int) ≤ (t : Int) := by omega
      have ht2 : (t : Int) < 2 := by omega
      clear hs hs5 hnn hde
      go_wp2_with fail
      clear hcell
      refine (zooAll_any w.heap.size F s _ os _ hT.out.pz HOK.out (HRD.out.later hT.out.below) HJ.out).mono ?_
      rintro e w5 hp
      rw [HHD.out.1, HHD.out.2, HS5.out.1] at hp
      obtain ⟨rfl, F5, hT5, hk5, hm5⟩ := hT.out.turnP hp
      have HT5 := Lib.hid hT5
      have HQ5 : Hid (w5.heap[q + 1]? = some (.cells #[.slice ua z0.length uc, .slice ub z1.length ud] 22) ∧ ¬ F5 (q + 1)) := Lib.hid ⟨(hk5.block _ hsl hN.out.1).trans hS.out, fun e => by
        rcases hm5 _ e with e1 | e1
        · exact hN.out.1 e1
        · omega⟩
      have hsl5 := (Array.getElem?_eq_some_iff.1 HQ5.out.1).1
      clear hp hT5 hk5 hm5 hsl
      go_wp2_with fail
      refine (zfAll_any q G s _ os _ HT5.out.zf HOK.out (HRD.out.later HT5.out.below) HJ.out).mono ?_
      rintro e w6 hp
      rw [HHD.out.1, HHD.out.2, HS5.out.1] at hp
      obtain ⟨rfl, G6, hT6, hk6, hm6⟩ := HT5.out.turnQ hp
      have HT7 := Lib.hid hT6
      have HQ6 : Hid (w6.heap[q + 1]? = some (.cells #[.slice ua z0.length uc, .slice ub z1.length ud] 22) ∧ ¬ G6 (q + 1)) := Lib.hid ⟨(hk6.block _ hsl5 hN.out.2).trans HQ5.out.1, fun e => by
        rcases hm6 _ e with e1 | e1
        · exact hN.out.2 e1
        · omega⟩
      have hsl6 := (Array.getElem?_eq_some_iff.1 HQ6.out.1).1
      have e1 : (nn == nn) = true := by simp
      have e3 : (de == de) = true := by simp
      clear hp hT6 hk6 hm6 hsl5
      go_wp2_with fail
      clear e1 e3
      refine (zooState_any w.heap.size F5 s5 _ HT7.out.pz HS5.out.2).mono ?_
      rintro e w8 ⟨xg, xr, xb, rfl, hxt, hb8⟩
      have HXT := Lib.hid hxt
      have HB8 := Lib.hid hb8
      clear hxt hb8
      go_wp2_with fail
      refine (zfState q G6 s5 _ (HT7.out.later HB8.out).zf HS5.out.2).mono ?_
      rintro e w9 ⟨yg, yr, yb, rfl, hyt, hb9⟩
      have HYT := Lib.hid hyt
      have HB9 := Lib.hid hb9
      clear hyt hb9
      go_wp2_with fail
      refine (sameSt_any _ (HXT.out.later HB9.out) HYT.out).mono ?_
      rintro e w10 ⟨rfl, hb10⟩
      have HBB := Lib.hid (nb_trans HB8.out (nb_trans HB9.out hb10))
      have HNX : Hid (BothZ w w10 w.heap.size q F5 G6 (stA z0 z1 (t + 1)) (stA z0 z1 (t + 1))) := Lib.hid (by rw [HST.out]; exact HT7.out.later HBB.out)
      have HNS : Hid (w10.heap[q + 1]? = some (.cells #[.slice ua z0.length uc, .slice ub z1.length ud] 22)) := Lib.hid ((HBB.out.block _ hsl6).trans HQ6.out.1)
      clear hb10 hsl6
      go_wp2
      go_roundw
      case rel => exact ⟨t + 1, F5, G6, by omega, by go_num, HNX, HNS, Lib.hid ⟨HQ5.out.2, HQ6.out.2⟩⟩
      case measure => simp [intOf]; omega
    · as_aux_lemma =>
      obtain rfl : t = 2 := by omega
      have HZE : Hid (doE (stA z0 z1 2) opZ = 1 ∧ doZ (stA z0 z1 2) opZ = stA z0 z1 2 ∧ doH (stA z0 z1 2) opZ = (0, 0)) := Lib.hid (doE_none (.inl (by decide)))
      have HOK := Lib.hid (stA_ok z0 z1 2)
      obtain ⟨s, hs⟩ : ∃ s, stA z0 z1 2 = s := ⟨_, rfl⟩
      rw [hs] at hT HZE HOK
      clear hs
      go_wp2_with fail
      refine (zooDo_any w.heap.size F s opZ _ hT.out.pz HOK.out ⟨⟨by decide, by decide⟩, ⟨by decide, by decide⟩, ⟨by decide, by decide⟩, ⟨by decide, by decide⟩⟩).mono ?_
      rintro e w9 hp
      rw [HZE.out.1, HZE.out.2.2] at hp
      obtain ⟨rfl, F9, hT9, -, -⟩ := hT.out.turnP hp
      have HEND : Hid (Below w.heap.size w (w9.alloc (.cells #[.int .i64 0, .int .i64 0] 43))) := Lib.hid (nb_alloc hT9.below _)
      clear hp hT9
      go_wp2
      go_ret
      exact ⟨rfl, HEND.out⟩

namespace zooAlls
theorem own : ownKnob Tryz.prog.godebug = none := by kernel_rfl
theorem laidOut : laidOutB Tryz.prog = true := by kernel_rfl

set_option maxRecDepth 100000 in
set_option maxHeartbeats 4000000 in
theorem lifted (os : Os) (started : os.Started) (H : Type) (enc : TypeId × Value → H) :
    ReturnsInHanded {} Tryz.checked os 3 .any (Rows.zooAllsSpec.pre6 enc Tryz.prog Tryz.f3 Rows.zooAllsRow.domain false) (Rows.zooAllsSpec.post enc Tryz.prog Tryz.f3 false true false false) := by
  refine returnsInHanded_of_change (C := Tryz.checked) own started (by kernel_rfl) Tryz.func3
    (ChangeSpec.witness6 (enc := enc) (C := Tryz.checked) false ⟨#[], #[.slice none 0 0, .slice none 0 0], []⟩ 8 (by kernel_rfl) (by kernel_rfl) (by kernel_rfl) (by kernel_rfl)) ?_
  intro W base args ds gs before hval0 hW hcnd _
  have hval : ∀ (j : Nat) t v, Tryz.f3.params[j]? = some t → args[j]? = some v → Value.okWide Tryz.prog W .any base t v := hval0
  have hW' := hW
  obtain ⟨p, q, hA0, hV, rfl, hfz, hnd⟩ := hW
  have hA : DataW.TrodAll enc Tryz.prog W 0 (fun _ => true) true Tryz.f3.params.toList args.toList ds p := hA0
  rw [Tryz.params3] at hA hval
  obtain ⟨v0, vs0, d0, ds0, p0, q0, hargs, rfl, rfl, h0, r0⟩ := trodAll_cons hA
  obtain ⟨v1, vs1, d1, ds1, p1, q1, rfl, rfl, rfl, h1, r1⟩ := trodAll_cons r0
  obtain ⟨rfl, rfl, rfl⟩ := trodAll_nil r1
  obtain rfl : args = #[v0, v1] := by cases args; simp_all
  obtain ⟨rfl, rfl⟩ := trodVars_none hV
  have k0' := h0
  have lt0 : ∀ x ∈ p0, x.block < W.heap.size := by obtain ⟨m, hm⟩ := h0; exact DataW.trod_lt m _ _ _ hm
  have k1' := h1
  have lt1 : ∀ x ∈ p1, x.block < W.heap.size := by obtain ⟨m, hm⟩ := h1; exact DataW.trod_lt m _ _ _ hm
  obtain ⟨z0, i0, j0⟩ : ∃ zs, Reads elOp W v0 zs ∧ ∀ x ∈ zs, OpOk x := by
    obtain ⟨a0, len0, cap0, rfl⟩ := okWide_slice Tryz.underlying22 (hval 0 22 v0 rfl rfl)
    exact Reads_ofP elOp OpOk Tryz.underlying22 (by kernel_rfl) op_dec h0
  obtain ⟨z1, i1, j1⟩ : ∃ zs, Reads elOp W v1 zs ∧ ∀ x ∈ zs, OpOk x := by
    obtain ⟨a0, len0, cap0, rfl⟩ := okWide_slice Tryz.underlying22 (hval 1 22 v1 rfl rfl)
    exact Reads_ofP elOp OpOk Tryz.underlying22 (by kernel_rfl) op_dec h1
  clear hA0 hval0
  refine (zooAlls_walk v0 z0 j0 v1 z1 j1 W i0 i1).mono fun e W' ⟨he, bel⟩ => ?_
  subst he
  exact ⟨_, rfl, _, _, _, [], _, [], hW', trodAll_mk1 (shut_bool Tryz.underlying4 _), (trodAll_cons_mk (Below.trod laidOut (by kernel_rfl) (of_decide_eq_true (by kernel_rfl)) k0' bel lt0) (trodAll_cons_mk (Below.trod laidOut (by kernel_rfl) (of_decide_eq_true (by kernel_rfl)) k1' bel lt1) trodAll_mk0)), rfl, bel.frame _, fun h => by cases h⟩
end zooAlls

theorem zooAlls_proved : Rows.ZooAllsSaid :=
  OpenClaim.holds_of_wide 3 Tryz.f3 rfl rfl rfl rfl rfl rfl rfl ⟨rfl, rfl, rfl, rfl, rfl⟩ rfl rfl rfl rfl rfl (by kernel_rfl) Tryz.func3 (by kernel_rfl)
    (of_decide_eq_true (by kernel_rfl)) (by unfold Func.isWrapper; first | (rw [if_pos (by decide +kernel)]; kernel_rfl) | (rw [if_neg (by decide +kernel)]; exact ⟨rfl, rfl⟩))
    (fun os started H enc _ => zooAlls.lifted os started H enc)

end Go.Proofs.YtlaahlphfkadjaaGreat

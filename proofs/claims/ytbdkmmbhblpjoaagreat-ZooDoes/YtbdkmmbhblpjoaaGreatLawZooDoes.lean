/- After any sequence of operations, a zoo returns the results of the reference: the statement ZooDoes. No condition. -/
import Derived.Test.YtbdkmmbhblpjoaaGreatGroundA
import Derived.Test.YtbdkmmbhblpjoaaGreatOpCells
import Derived.Test.YtbdkmmbhblpjoaaGreatBothZoo
import Derived.Test.YtbdkmmbhblpjoaaGreatRefDo
import Derived.Test.YtbdkmmbhblpjoaaGreatKeepSame
import Derived.Test.YtbdkmmbhblpjoaaGreatZooRefTell
namespace Go.Proofs.YtbdkmmbhblpjoaaGreat
set_option maxRecDepth 8000
open Go.ChangeShapes Go.WideShapes Go.ChangeAt Go.RowKit
set_option linter.unusedVariables false

set_option maxRecDepth 100000 in
set_option maxHeartbeats 16000000 in
theorem zooDoes_walk (u0 : Value) (z0 : List Opm) (j0 : ∀ x ∈ z0, OpOk x) (w : World) (i0 : Reads elOp w u0 z0) :
    Calls Tryz.prog 3 #[u0] w fun e w' => e = .returned (.bool true) ∧ Below w.heap.size w w' := by
  have HJ := Lib.hid j0
  obtain ⟨ua, uc, hue, hlc, hm, hcc⟩ := i0
  subst hue
  unfold maxLen at hm
  obtain ⟨n, hn⟩ : ∃ n, z0.length = n := ⟨_, rfl⟩
  have HN := Lib.hid hn
  rw [hn] at hlc hcc ⊢
  have hmn : n ≤ 9223372036854775807 := by omega
  have HCC := Lib.hid hcc
  clear j0 hn hcc
  go_enter Tryz.func3, Tryz.ntmps3
  go_wp2_with fail
  refine (zooNew_any _).mono ?_
  rintro e w1 ⟨rfl, hw1⟩
  have HBT := Lib.hid (BothZ.start hw1)
  clear hw1
  go_wp2
  generalize hq : w1.heap.size = q at *
  clear hq
  generalize w1.alloc (.cells #[.slice none 0 0, .slice none 0 0, .slice none 0 0, .slice none 0 0] 33) = w2 at *
  go_loopw [20] (fun i wr => ∃ (t : Nat) (F G : Nat → Prop), t ≤ n ∧ i = .int .i64 t ∧ Hid (BothZ w wr w.heap.size q F G (doneZ (z0.take t)) (doneZ (z0.take t)))) (fun i _ => n - (intOf i).toNat)
  case atStart => exact ⟨0, _, _, by omega, rfl, HBT⟩
  case round =>
    obtain ⟨t, F, G, htn, rfl, hT⟩ := hrel
    by_cases hlt : t < n
    · as_aux_lemma =>
      obtain ⟨bb, off, rfl, hbb, hck⟩ := HCC.out t hlt
      obtain ⟨o, ho⟩ : ∃ o, z0.getD t opZ = o := ⟨_, rfl⟩
      have htl : t < z0.length := by rw [HN.out]; exact hlt
      have hcr : ∀ jj, jj < 16 → wr.cell? ⟨bb, off + t * 16 + jj, none⟩ = (elOp.enc o)[jj]? := fun jj hjj => by rw [(hT.out.below).cell (p := ⟨bb, _, none⟩) hbb, ← ho]; exact hck jj hjj
      obtain ⟨c0, c1, c2, c3, c4, c5, c6, c7, c8, c9, c10, c11, c12, c13, c14, c15⟩ := opRow hcr
      have HTK : Hid (doneZ (z0.take (t + 1)) = doZ (doneZ (z0.take t)) o) := Lib.hid (by rw [take_snocD z0 t opZ htl, ho, doneZ_snoc])
      have HOP : Hid (OpOk o) := Lib.hid (HJ.out o (by rw [← ho]; exact memD htl))
      have HOK : Hid (ZOk (doneZ (z0.take t))) := Lib.hid (ZOk.done _)
      obtain ⟨s, hs⟩ : ∃ s, doneZ (z0.take t) = s := ⟨_, rfl⟩
      rw [hs] at hT HTK HOK
      obtain ⟨s5, hs5⟩ : ∃ s5, doZ s o = s5 := ⟨_, rfl⟩
      have HS5 : Hid (doZ s o = s5 ∧ ZOk s5) := Lib.hid ⟨hs5, by rw [← hs5]; exact HOK.out.step o⟩
      rw [hs5] at HTK
      obtain ⟨⟨h1, h2⟩, hh⟩ : ∃ x, doH s o = x := ⟨_, rfl⟩
      obtain ⟨de, hde⟩ : ∃ x, doE s o = x := ⟨_, rfl⟩
      have HHD : Hid (doH s o = (h1, h2) ∧ doE s o = de) := Lib.hid ⟨hh, hde⟩
      have hbw : bb < wr.heap.size := Nat.lt_of_lt_of_le hbb (hT.out.below).size
      have HTA := Lib.hid (hT.out.later (nb_alloc (Below.refl _ _) (.cells #[.int .i64 o.d, .int .i64 o.m, .int .i64 (o.f 0), .int .i64 (o.f 1), .int .i64 (o.f 2), .int .i64 (o.f 3), .int .i64 (o.f 4), .int .i64 (o.f 5), .int .i64 (o.f 6), .int .i64 (o.f 7), .int .i64 o.a, .int .i64 o.b, .int .i64 o.ta, .int .i64 o.tb, .int .i64 o.k, .int .i64 o.n] 40)))
      have HXO : Hid ((wr.alloc (.cells #[.int .i64 o.d, .int .i64 o.m, .int .i64 (o.f 0), .int .i64 (o.f 1), .int .i64 (o.f 2), .int .i64 (o.f 3), .int .i64 (o.f 4), .int .i64 (o.f 5), .int .i64 (o.f 6), .int .i64 (o.f 7), .int .i64 o.a, .int .i64 o.b, .int .i64 o.ta, .int .i64 o.tb, .int .i64 o.k, .int .i64 o.n] 40)).heap[wr.heap.size]? = some (.cells #[.int .i64 o.d, .int .i64 o.m, .int .i64 (o.f 0), .int .i64 (o.f 1), .int .i64 (o.f 2), .int .i64 (o.f 3), .int .i64 (o.f 4), .int .i64 (o.f 5), .int .i64 (o.f 6), .int .i64 (o.f 7), .int .i64 o.a, .int .i64 o.b, .int .i64 o.ta, .int .i64 o.tb, .int .i64 o.k, .int .i64 o.n] 40)) := Lib.hid (heap_alloc_new _ _)
      have HNF : Hid (¬ F wr.heap.size ∧ ¬ G wr.heap.size) := Lib.hid ⟨fun e => by have := hT.out.pz.lt _ e; omega, fun e => by have := hT.out.zf.lt _ e; omega⟩
      clear hcr hck ho hs hs5 hh hde htl
      go_wp2_with fail
      generalize wr.alloc (.cells #[.int .i64 o.d, .int .i64 o.m, .int .i64 (o.f 0), .int .i64 (o.f 1), .int .i64 (o.f 2), .int .i64 (o.f 3), .int .i64 (o.f 4), .int .i64 (o.f 5), .int .i64 (o.f 6), .int .i64 (o.f 7), .int .i64 o.a, .int .i64 o.b, .int .i64 o.ta, .int .i64 o.tb, .int .i64 o.k, .int .i64 o.n] 40) = A at *
      clear c0 c1 c2 c3 c4 c5 c6 c7 c8 c9 c10 c11 c12 c13 c14 c15
      refine (zooDo_any w.heap.size F s o _ HTA.out.pz HOK.out HOP.out).mono ?_
      rintro e w5 hp
      rw [HHD.out.1, HHD.out.2, HS5.out.1] at hp
      obtain ⟨rfl, F5, hT5, hk5, hm5⟩ := HTA.out.turnP hp
      have HT5 := Lib.hid hT5
      have hq5 : w5.heap[wr.heap.size]? = some (.cells #[.int .i64 o.d, .int .i64 o.m, .int .i64 (o.f 0), .int .i64 (o.f 1), .int .i64 (o.f 2), .int .i64 (o.f 3), .int .i64 (o.f 4), .int .i64 (o.f 5), .int .i64 (o.f 6), .int .i64 (o.f 7), .int .i64 o.a, .int .i64 o.b, .int .i64 o.ta, .int .i64 o.tb, .int .i64 o.k, .int .i64 o.n] 40) := (hk5.block _ (Array.getElem?_eq_some_iff.1 HXO.out).1 HNF.out.1).trans HXO.out
      have HQ5 := Lib.hid hq5
      have HV : Hid (Below w5.heap.size w5 (w5.alloc (.cells #[.int .i64 h1, .int .i64 h2] 38))) := Lib.hid (nb_alloc (Below.refl _ _) _)
      have HVA : Hid ((w5.alloc (.cells #[.int .i64 h1, .int .i64 h2] 38)).heap[w5.heap.size]? = some (.cells #[.int .i64 h1, .int .i64 h2] 38)) := Lib.hid (heap_alloc_new _ _)
      obtain ⟨m0, m1, m2, m3, m4, m5, m6, m7, m8, m9, m10, m11, m12, m13, m14, m15⟩ := opCells hq5
      have hlm := (Array.getElem?_eq_some_iff.1 hq5).1
      clear hp hT5 hk5 hm5 hq5
      go_wp2_with fail
      generalize w5.alloc (.cells #[.int .i64 h1, .int .i64 h2] 38) = V at *
      clear m0 m1 m2 m3 m4 m5 m6 m7 m8 m9 m10 m11 m12 m13 m14 m15
      have HNG : Hid (¬ G w5.heap.size) := Lib.hid (fun e => by have := HT5.out.zf.lt _ e; omega)
      refine (zfDo_any q G s o _ (HT5.out.later HV.out).zf HOK.out).mono ?_
      rintro e w6 hp
      rw [HHD.out.1, HHD.out.2, HS5.out.1] at hp
      obtain ⟨rfl, G6, hT6, hk6, hm6⟩ := (HT5.out.later HV.out).turnQ hp
      have hqa : w6.heap[w5.heap.size]? = some (.cells #[.int .i64 h1, .int .i64 h2] 38) := (hk6.block _ (Array.getElem?_eq_some_iff.1 HVA.out).1 HNG.out).trans HVA.out
      have HT7 := Lib.hid (hT6.later (nb_alloc (Below.refl _ _) (.cells #[.int .i64 h1, .int .i64 h2] 38)))
      have a0 : w6.cell? ⟨w5.heap.size, 0, none⟩ = some (.int .i64 h1) := (cell_of_row _ _ _ _ _ _ hqa).trans rfl
      have a1 : w6.cell? ⟨w5.heap.size, 1, none⟩ = some (.int .i64 h2) := (cell_of_row _ _ _ _ _ _ hqa).trans rfl
      have hla := (Array.getElem?_eq_some_iff.1 hqa).1
      have hla' : w5.heap.size < w6.heap.size + 1 := by omega
      have e1 : (h1 == h1) = true := by simp
      have e2 : (h2 == h2) = true := by simp
      have e3 : (de == de) = true := by simp
      clear hp hT6 hk6 hm6 hqa
      go_wp2_with fail
      generalize w6.alloc (.cells #[.int .i64 h1, .int .i64 h2] 38) = U at *
      clear a0 a1 e1 e2 e3
      refine (zooState_any w.heap.size F5 s5 _ HT7.out.pz HS5.out.2).mono ?_
      rintro e w8 ⟨xg, xr, xb, rfl, hxt, hb8⟩
      have HXT := Lib.hid hxt
      have HB8 := Lib.hid hb8
      clear hxt hb8
      go_wp2_with fail
      refine (zfState q G6 s5 _ (HT7.out.later HB8.out).zf HS5.out.2).mono ?_
      rintro e w9 ⟨yg, yr, yb, rfl, hyt, hb9⟩
      have HYT := Lib.hid hyt
      have HB9 := Lib.hid hb9
      clear hyt hb9
      go_wp2_with fail
      refine (sameSt_any _ (HXT.out.later HB9.out) HYT.out).mono ?_
      rintro e w10 ⟨rfl, hb10⟩
      have HNX : Hid (BothZ w w10 w.heap.size q F5 G6 (doneZ (z0.take (t + 1))) (doneZ (z0.take (t + 1)))) := Lib.hid (by rw [HTK.out]; exact HT7.out.later (nb_trans HB8.out (nb_trans HB9.out hb10)))
      clear hb10
      go_wp2
      go_roundw
      case rel => exact ⟨t + 1, F5, G6, by omega, by go_num, HNX⟩
      case measure => simp [intOf]; omega
    · as_aux_lemma =>
      obtain rfl : n = t := by omega
      have HZE : Hid (doE (doneZ (z0.take n)) opZ = 1 ∧ doZ (doneZ (z0.take n)) opZ = doneZ (z0.take n) ∧ doH (doneZ (z0.take n)) opZ = (0, 0)) := Lib.hid (doE_none (.inl (by decide)))
      have HOK : Hid (ZOk (doneZ (z0.take n))) := Lib.hid (ZOk.done _)
      obtain ⟨s, hs⟩ : ∃ s, doneZ (z0.take n) = s := ⟨_, rfl⟩
      rw [hs] at hT HZE HOK
      clear hs

      go_wp2_with fail
      refine (zooDo_any w.heap.size F s opZ _ hT.out.pz HOK.out ⟨⟨by decide, by decide⟩, ⟨by decide, by decide⟩, ⟨by decide, by decide⟩, ⟨by decide, by decide⟩⟩).mono ?_
      rintro e w9 hp
      rw [HZE.out.1, HZE.out.2.2] at hp
      obtain ⟨rfl, F9, hT9, -, -⟩ := hT.out.turnP hp
      have HEND : Hid (Below w.heap.size w (w9.alloc (.cells #[.int .i64 0, .int .i64 0] 38))) := Lib.hid (nb_alloc hT9.below _)
      clear hp hT9
      go_wp2
      go_ret
      exact ⟨rfl, HEND.out⟩

namespace zooDoes
theorem own : ownKnob Tryz.prog.godebug = none := by kernel_rfl
theorem laidOut : laidOutB Tryz.prog = true := by kernel_rfl

set_option maxRecDepth 100000 in
set_option maxHeartbeats 4000000 in
theorem lifted (os : Os) (started : os.Started) (H : Type) (enc : TypeId × Value → H) :
    ReturnsInHanded {} Tryz.checked os 3 .any (Rows.zooDoesSpec.pre6 enc Tryz.prog Tryz.f3 Rows.zooDoesRow.domain false) (Rows.zooDoesSpec.post enc Tryz.prog Tryz.f3 false true false false) := by
  refine returnsInHanded_of_change (C := Tryz.checked) own started (by kernel_rfl) Tryz.func3
    (ChangeSpec.witness6 (enc := enc) (C := Tryz.checked) false ⟨#[], #[.slice none 0 0], []⟩ 8 (by kernel_rfl) (by kernel_rfl) (by kernel_rfl) (by kernel_rfl)) ?_
  intro W base args ds gs before hval0 hW hcnd _
  have hval : ∀ (j : Nat) t v, Tryz.f3.params[j]? = some t → args[j]? = some v → Value.okWide Tryz.prog W .any base t v := hval0
  have hW' := hW
  obtain ⟨p, q, hA0, hV, rfl, hfz, hnd⟩ := hW
  have hA : DataW.TrodAll enc Tryz.prog W 0 (fun _ => true) true Tryz.f3.params.toList args.toList ds p := hA0
  rw [Tryz.params3] at hA hval
  obtain ⟨v0, vs0, d0, ds0, p0, q0, hargs, rfl, rfl, h0, r0⟩ := trodAll_cons hA
  obtain ⟨rfl, rfl, rfl⟩ := trodAll_nil r0
  obtain rfl : args = #[v0] := by cases args; simp_all
  obtain ⟨rfl, rfl⟩ := trodVars_none hV
  have k0' := h0
  have lt0 : ∀ x ∈ p0, x.block < W.heap.size := by obtain ⟨m, hm⟩ := h0; exact DataW.trod_lt m _ _ _ hm
  obtain ⟨z0, i0, j0⟩ : ∃ zs, Reads elOp W v0 zs ∧ ∀ x ∈ zs, OpOk x := by
    obtain ⟨a0, len0, cap0, rfl⟩ := okWide_slice Tryz.underlying22 (hval 0 22 v0 rfl rfl)
    exact Reads_ofP elOp OpOk Tryz.underlying22 (by kernel_rfl) op_dec h0
  clear hA0 hval0
  refine (zooDoes_walk v0 z0 j0 W i0).mono fun e W' ⟨he, bel⟩ => ?_
  subst he
  exact ⟨_, rfl, _, _, _, [], _, [], hW', trodAll_mk1 (shut_bool Tryz.underlying4 _), (trodAll_cons_mk (Below.trod laidOut (by kernel_rfl) (of_decide_eq_true (by kernel_rfl)) k0' bel lt0) trodAll_mk0), rfl, bel.frame _, fun h => by cases h⟩
end zooDoes

theorem zooDoes_proved : Rows.ZooDoesSaid :=
  OpenClaim.holds_of_wide 3 Tryz.f3 rfl rfl rfl rfl rfl rfl rfl ⟨rfl, rfl, rfl, rfl, rfl⟩ rfl rfl rfl rfl rfl (by kernel_rfl) Tryz.func3 (by kernel_rfl)
    (of_decide_eq_true (by kernel_rfl)) (by unfold Func.isWrapper; first | (rw [if_pos (by decide +kernel)]; kernel_rfl) | (rw [if_neg (by decide +kernel)]; exact ⟨rfl, rfl⟩))
    (fun os started H enc _ => zooDoes.lifted os started H enc)

end Go.Proofs.YtbdkmmbhblpjoaaGreat

/- What a zoo refuses changes nothing: the statement ZooRefused. No condition. -/
import Derived.Test.YtdpjpckknncleaaGreatGroundA
import Derived.Test.YtdpjpckknncleaaGreatKeptZoo
namespace Go.Proofs.YtdpjpckknncleaaGreat
set_option maxRecDepth 8000
open Go.ChangeShapes Go.WideShapes Go.ChangeAt Go.RowKit
set_option linter.unusedVariables false

set_option maxRecDepth 100000 in
set_option maxHeartbeats 8000000 in
theorem zooRefused_walk (u0 : Value) (z0 : List Opm) (j0 : ∀ x ∈ z0, OpOk x) (o1 : Opm) (i1 : OpOk o1) (w : World) (i0 : Reads elOp w u0 z0) :
    Calls Tryz.prog 8 #[u0, .agg #[.int .i64 o1.d, .int .i64 o1.m, .int .i64 (o1.f 0), .int .i64 (o1.f 1), .int .i64 (o1.f 2), .int .i64 (o1.f 3), .int .i64 (o1.f 4), .int .i64 (o1.f 5), .int .i64 (o1.f 6), .int .i64 (o1.f 7), .int .i64 o1.a, .int .i64 o1.b, .int .i64 o1.ta, .int .i64 o1.tb, .int .i64 o1.k, .int .i64 o1.n]] w fun e w' => e = .returned (.bool true) ∧ Below w.heap.size w w' := by
  have HR := Lib.hid i0
  have HOS := Lib.hid j0
  have HOP := Lib.hid i1
  obtain ⟨oa, oc, hue, -⟩ := i0
  subst hue
  have HX : Hid (Below w.heap.size w (w.alloc (.cells #[.int .i64 o1.d, .int .i64 o1.m, .int .i64 (o1.f 0), .int .i64 (o1.f 1), .int .i64 (o1.f 2), .int .i64 (o1.f 3), .int .i64 (o1.f 4), .int .i64 (o1.f 5), .int .i64 (o1.f 6), .int .i64 (o1.f 7), .int .i64 o1.a, .int .i64 o1.b, .int .i64 o1.ta, .int .i64 o1.tb, .int .i64 o1.k, .int .i64 o1.n] 40))) := Lib.hid (nb_alloc (Below.refl _ _) _)
  have HXB : Hid ((w.alloc (.cells #[.int .i64 o1.d, .int .i64 o1.m, .int .i64 (o1.f 0), .int .i64 (o1.f 1), .int .i64 (o1.f 2), .int .i64 (o1.f 3), .int .i64 (o1.f 4), .int .i64 (o1.f 5), .int .i64 (o1.f 6), .int .i64 (o1.f 7), .int .i64 o1.a, .int .i64 o1.b, .int .i64 o1.ta, .int .i64 o1.tb, .int .i64 o1.k, .int .i64 o1.n] 40)).heap[w.heap.size]? = some (.cells #[.int .i64 o1.d, .int .i64 o1.m, .int .i64 (o1.f 0), .int .i64 (o1.f 1), .int .i64 (o1.f 2), .int .i64 (o1.f 3), .int .i64 (o1.f 4), .int .i64 (o1.f 5), .int .i64 (o1.f 6), .int .i64 (o1.f 7), .int .i64 o1.a, .int .i64 o1.b, .int .i64 o1.ta, .int .i64 o1.tb, .int .i64 o1.k, .int .i64 o1.n] 40)) := Lib.hid (heap_alloc_new _ _)
  clear j0 i1
  go_enter Tryz.func8, Tryz.ntmps8
  go_wp2_with fail
  generalize (w.alloc (.cells #[.int .i64 o1.d, .int .i64 o1.m, .int .i64 (o1.f 0), .int .i64 (o1.f 1), .int .i64 (o1.f 2), .int .i64 (o1.f 3), .int .i64 (o1.f 4), .int .i64 (o1.f 5), .int .i64 (o1.f 6), .int .i64 (o1.f 7), .int .i64 o1.a, .int .i64 o1.b, .int .i64 o1.ta, .int .i64 o1.tb, .int .i64 o1.k, .int .i64 o1.n] 40)) = X at *
  refine (kept_any _).mono ?_
  rintro e w1 ⟨rfl, hb1⟩
  have HB1 := Lib.hid hb1
  clear hb1
  go_wp2_with fail
  refine (done_any _ z0 _ (HR.out.later (nb_trans HX.out HB1.out)) HOS.out).mono ?_
  rintro e w2 ⟨p, F, rfl, hz, hF, hb2⟩
  have HZ := Lib.hid hz
  have HF := Lib.hid hF
  have HB2 := Lib.hid (nb_trans HB1.out hb2)
  have HOK : Hid (ZOk (doneZ z0)) := Lib.hid (ZOk.done z0)
  clear hz hF hb2
  obtain ⟨s, hs⟩ : ∃ s, doneZ z0 = s := ⟨_, rfl⟩
  rw [hs] at HZ HOK
  clear hs
  go_wp2_with fail
  refine (zooState_any p F s _ HZ.out HOK.out).mono ?_
  rintro e w3 ⟨vg, vr, vb, rfl, hst, hb3⟩
  have HST := Lib.hid hst
  have HB3 := Lib.hid (nb_trans HB2.out hb3)
  have HB23 := Lib.hid hb3
  obtain ⟨g1, g2, rfl, -⟩ := hst.g.reads
  obtain ⟨r1, r2, rfl, -⟩ := hst.r.reads
  obtain ⟨b1, b2, rfl, -⟩ := hst.b.reads
  have hq : w3.heap[w.heap.size]? = some (.cells #[.int .i64 o1.d, .int .i64 o1.m, .int .i64 (o1.f 0), .int .i64 (o1.f 1), .int .i64 (o1.f 2), .int .i64 (o1.f 3), .int .i64 (o1.f 4), .int .i64 (o1.f 5), .int .i64 (o1.f 6), .int .i64 (o1.f 7), .int .i64 o1.a, .int .i64 o1.b, .int .i64 o1.ta, .int .i64 o1.tb, .int .i64 o1.k, .int .i64 o1.n] 40) := (HB3.out.block _ (Array.getElem?_eq_some_iff.1 HXB.out).1).trans HXB.out
  have k0 : w3.cell? ⟨w.heap.size, 0, none⟩ = some (.int .i64 o1.d) := (cell_of_row _ _ _ _ _ _ hq).trans rfl
  have k1 : w3.cell? ⟨w.heap.size, 1, none⟩ = some (.int .i64 o1.m) := (cell_of_row _ _ _ _ _ _ hq).trans rfl
  have k2 : w3.cell? ⟨w.heap.size, 2, none⟩ = some (.int .i64 (o1.f 0)) := (cell_of_row _ _ _ _ _ _ hq).trans rfl
  have k3 : w3.cell? ⟨w.heap.size, 3, none⟩ = some (.int .i64 (o1.f 1)) := (cell_of_row _ _ _ _ _ _ hq).trans rfl
  have k4 : w3.cell? ⟨w.heap.size, 4, none⟩ = some (.int .i64 (o1.f 2)) := (cell_of_row _ _ _ _ _ _ hq).trans rfl
  have k5 : w3.cell? ⟨w.heap.size, 5, none⟩ = some (.int .i64 (o1.f 3)) := (cell_of_row _ _ _ _ _ _ hq).trans rfl
  have k6 : w3.cell? ⟨w.heap.size, 6, none⟩ = some (.int .i64 (o1.f 4)) := (cell_of_row _ _ _ _ _ _ hq).trans rfl
  have k7 : w3.cell? ⟨w.heap.size, 7, none⟩ = some (.int .i64 (o1.f 5)) := (cell_of_row _ _ _ _ _ _ hq).trans rfl
  have k8 : w3.cell? ⟨w.heap.size, 8, none⟩ = some (.int .i64 (o1.f 6)) := (cell_of_row _ _ _ _ _ _ hq).trans rfl
  have k9 : w3.cell? ⟨w.heap.size, 9, none⟩ = some (.int .i64 (o1.f 7)) := (cell_of_row _ _ _ _ _ _ hq).trans rfl
  have k10 : w3.cell? ⟨w.heap.size, 10, none⟩ = some (.int .i64 o1.a) := (cell_of_row _ _ _ _ _ _ hq).trans rfl
  have k11 : w3.cell? ⟨w.heap.size, 11, none⟩ = some (.int .i64 o1.b) := (cell_of_row _ _ _ _ _ _ hq).trans rfl
  have k12 : w3.cell? ⟨w.heap.size, 12, none⟩ = some (.int .i64 o1.ta) := (cell_of_row _ _ _ _ _ _ hq).trans rfl
  have k13 : w3.cell? ⟨w.heap.size, 13, none⟩ = some (.int .i64 o1.tb) := (cell_of_row _ _ _ _ _ _ hq).trans rfl
  have k14 : w3.cell? ⟨w.heap.size, 14, none⟩ = some (.int .i64 o1.k) := (cell_of_row _ _ _ _ _ _ hq).trans rfl
  have k15 : w3.cell? ⟨w.heap.size, 15, none⟩ = some (.int .i64 o1.n) := (cell_of_row _ _ _ _ _ _ hq).trans rfl
  have lk := (Array.getElem?_eq_some_iff.1 hq).1
  have HQ := Lib.hid hq
  have HA : Hid (Below w3.heap.size w3 (w3.alloc (.cells #[.slice g1 (gensL s.l).length g2, .slice r1 s.rows.length r2, .slice b1 s.bs.length b2] 46))) := Lib.hid (nb_alloc (Below.refl _ _) _)
  have HAB : Hid ((w3.alloc (.cells #[.slice g1 (gensL s.l).length g2, .slice r1 s.rows.length r2, .slice b1 s.bs.length b2] 46)).heap[w3.heap.size]? = some (.cells #[.slice g1 (gensL s.l).length g2, .slice r1 s.rows.length r2, .slice b1 s.bs.length b2] 46)) := Lib.hid (heap_alloc_new _ _)
  clear hst hb3 hq
  go_wp2_with fail
  generalize w3.alloc (.cells #[.slice g1 (gensL s.l).length g2, .slice r1 s.rows.length r2, .slice b1 s.bs.length b2] 46) = A at *
  clear k0 k1 k2 k3 k4 k5 k6 k7 k8 k9 k10 k11 k12 k13 k14 k15
  refine (zooDo_any p F s o1 _ (HZ.out.later (nb_trans HB23.out HA.out)) HOK.out HOP.out).mono ?_
  rintro e w5 hp
  obtain ⟨⟨h1, h2⟩, hh⟩ : ∃ x, doH s o1 = x := ⟨_, rfl⟩
  obtain ⟨de, hde⟩ : ∃ x, doE s o1 = x := ⟨_, rfl⟩
  rw [hh, hde] at hp
  obtain ⟨rfl, F5, hz5, hk5, hm5⟩ := hp
  have HWX : Hid (Below w.heap.size w A) := Lib.hid (nb_trans HX.out (nb_trans HB3.out HA.out))
  have HFA : Hid (∀ b, F b → w.heap.size + 1 ≤ b) := Lib.hid (fun b hb => by have := HF.out b hb; have := HB1.out.size; have := (Array.getElem?_eq_some_iff.1 HXB.out).1; omega)
  have HFW : Hid (∀ b, F b → b < w2.heap.size) := Lib.hid HZ.out.lt
  have HB5 : Hid (Below w.heap.size w w5) := Lib.hid (HWX.out.trans (hk5.below HWX.out.size (fun b hb => by have := HFA.out b hb; omega)))
  have hqs : w5.heap[w3.heap.size]? = some (.cells #[.slice g1 (gensL s.l).length g2, .slice r1 s.rows.length r2, .slice b1 s.bs.length b2] 46) := (hk5.block _ (Array.getElem?_eq_some_iff.1 HAB.out).1 (fun e => by have := HFW.out _ e; have := HB23.out.size; omega)).trans HAB.out
  have HST5 : Hid (StIs w5 w2.heap.size (.slice g1 (gensL s.l).length g2) (.slice r1 s.rows.length r2) (.slice b1 s.bs.length b2) s) := Lib.hid ((HST.out.later HA.out).kept hk5 (fun b h1 _ e => by have := HFW.out b e; omega))
  have HZ5 := Lib.hid hz5
  have hqo : w5.heap[w.heap.size]? = some (.cells #[.int .i64 o1.d, .int .i64 o1.m, .int .i64 (o1.f 0), .int .i64 (o1.f 1), .int .i64 (o1.f 2), .int .i64 (o1.f 3), .int .i64 (o1.f 4), .int .i64 (o1.f 5), .int .i64 (o1.f 6), .int .i64 (o1.f 7), .int .i64 o1.a, .int .i64 o1.b, .int .i64 o1.ta, .int .i64 o1.tb, .int .i64 o1.k, .int .i64 o1.n] 40) := (hk5.block _ (Nat.lt_of_lt_of_le lk HA.out.size) (fun e => by have := HFA.out _ e; omega)).trans ((HA.out.block _ lk).trans HQ.out)
  have k0 : w5.cell? ⟨w.heap.size, 0, none⟩ = some (.int .i64 o1.d) := (cell_of_row _ _ _ _ _ _ hqo).trans rfl
  have lo := (Array.getElem?_eq_some_iff.1 hqo).1
  clear hk5 hm5 hz5 hqo
  by_cases hd0 : de = 0
  · subst hd0
    have HBC : Hid (Below w.heap.size w (w5.alloc (.cells #[.int .i64 h1, .int .i64 h2] 38))) := Lib.hid (nb_alloc HB5.out _)
    clear hqs
    cases hd1 : (o1.d == 1)
    · have hz : h1 = 0 ∧ h2 = 0 := by
        rw [doH_other (by simpa using hd1)] at hh
        exact ⟨(congrArg Prod.fst hh).symm, (congrArg Prod.snd hh).symm⟩
      obtain ⟨rfl, rfl⟩ := hz
      clear hh hde
      go_wp2
      go_ret
      exact ⟨rfl, HBC.out⟩
    · clear hh hde
      go_wp2
      go_ret
      exact ⟨rfl, HBC.out⟩
  · obtain ⟨e1, e2⟩ := doZ_err (s := s) (o := o1) (by rw [hde]; exact hd0)
    rw [e1] at HZ5
    have hz : h1 = 0 ∧ h2 = 0 := by
      rw [e2] at hh
      exact ⟨(congrArg Prod.fst hh).symm, (congrArg Prod.snd hh).symm⟩
    obtain ⟨rfl, rfl⟩ := hz
    have HA6 : Hid (Below w5.heap.size w5 (w5.alloc (.cells #[.int .i64 0, .int .i64 0] 38))) := Lib.hid (nb_alloc (Below.refl _ _) _)
    have HH6 : Hid ((w5.alloc (.cells #[.int .i64 0, .int .i64 0] 38)).heap[w5.heap.size]? = some (.cells #[.int .i64 0, .int .i64 0] 38)) := Lib.hid (heap_alloc_new _ _)
    have HQS := Lib.hid hqs
    have lq := (Array.getElem?_eq_some_iff.1 hqs).1
    clear hh hde e1 e2 k0 lo hqs
    go_wp2_with fail
    generalize w5.alloc (.cells #[.int .i64 0, .int .i64 0] 38) = C at *
    have q0 : C.cell? ⟨w5.heap.size, 0, none⟩ = some (.int .i64 0) := (cell_of_row _ _ _ _ _ _ HH6.out).trans rfl
    have q1 : C.cell? ⟨w5.heap.size, 1, none⟩ = some (.int .i64 0) := (cell_of_row _ _ _ _ _ _ HH6.out).trans rfl
    have hqc : C.heap[w3.heap.size]? = some (.cells #[.slice g1 (gensL s.l).length g2, .slice r1 s.rows.length r2, .slice b1 s.bs.length b2] 46) := (HA6.out.block _ lq).trans HQS.out
    have s0 : C.cell? ⟨w3.heap.size, 0, none⟩ = some (.slice g1 (gensL s.l).length g2) := (cell_of_row _ _ _ _ _ _ hqc).trans rfl
    have s1 : C.cell? ⟨w3.heap.size, 1, none⟩ = some (.slice r1 s.rows.length r2) := (cell_of_row _ _ _ _ _ _ hqc).trans rfl
    have s2 : C.cell? ⟨w3.heap.size, 2, none⟩ = some (.slice b1 s.bs.length b2) := (cell_of_row _ _ _ _ _ _ hqc).trans rfl
    have l1 := (Array.getElem?_eq_some_iff.1 HH6.out).1
    have l2 := (Array.getElem?_eq_some_iff.1 hqc).1
    have HC0 : Hid ((C.cell? ⟨w5.heap.size, 0, none⟩ = some (.int .i64 0) ∧ C.cell? ⟨w5.heap.size, 1, none⟩ = some (.int .i64 0)) ∧ C.cell? ⟨w3.heap.size, 0, none⟩ = some (.slice g1 (gensL s.l).length g2) ∧ C.cell? ⟨w3.heap.size, 1, none⟩ = some (.slice r1 s.rows.length r2) ∧ C.cell? ⟨w3.heap.size, 2, none⟩ = some (.slice b1 s.bs.length b2)) := Lib.hid ⟨⟨q0, q1⟩, s0, s1, s2⟩
    have HKK : Hid (∀ Y, Below C.heap.size C Y → (Y.cell? ⟨w5.heap.size, 0, none⟩ = some (.int .i64 0) ∧ Y.cell? ⟨w5.heap.size, 1, none⟩ = some (.int .i64 0)) ∧ Y.cell? ⟨w3.heap.size, 0, none⟩ = some (.slice g1 (gensL s.l).length g2) ∧ Y.cell? ⟨w3.heap.size, 1, none⟩ = some (.slice r1 s.rows.length r2) ∧ Y.cell? ⟨w3.heap.size, 2, none⟩ = some (.slice b1 s.bs.length b2)) := Lib.hid (fun Y hY => ⟨⟨(hY.cell (p := ⟨w5.heap.size, 0, none⟩) l1).trans HC0.out.1.1, (hY.cell (p := ⟨w5.heap.size, 1, none⟩) l1).trans HC0.out.1.2⟩, (hY.cell (p := ⟨w3.heap.size, 0, none⟩) l2).trans HC0.out.2.1, (hY.cell (p := ⟨w3.heap.size, 1, none⟩) l2).trans HC0.out.2.2.1, (hY.cell (p := ⟨w3.heap.size, 2, none⟩) l2).trans HC0.out.2.2.2⟩)
    have e0 : ((0 : Int) == 0) = true := rfl
    go_region_held3 (fun x => ((x.cell? ⟨w5.heap.size, 0, none⟩ = some (.int .i64 0) ∧ x.cell? ⟨w5.heap.size, 1, none⟩ = some (.int .i64 0)) ∧ x.cell? ⟨w3.heap.size, 0, none⟩ = some (.slice g1 (gensL s.l).length g2) ∧ x.cell? ⟨w3.heap.size, 1, none⟩ = some (.slice r1 s.rows.length r2) ∧ x.cell? ⟨w3.heap.size, 2, none⟩ = some (.slice b1 s.bs.length b2))) (first | go_keep | exact HKK.out _ HX1.out | exact HKK.out _ HX2.out) (first
      | ((go_at_call 13; refine (zooState_any p F5 s _ (HZ5.out.later (HA6.out.trans (Below.refl _ _).drew)) HOK.out).mono ?_; rintro e x1 ⟨yg, yr, yb, rfl, hyt, hx1⟩; have HYT := Lib.hid hyt; have HX1 : Hid (Below C.heap.size C x1) := Lib.hid ((Below.refl _ _).drew.trans hx1); clear hyt hx1))
      | ((go_at_call 12; refine (sameSt_any _ ((HST5.out.later HA6.out).later HX1.out) HYT.out).mono ?_; rintro e x2 ⟨rfl, hx2⟩; have HX2 : Hid (Below C.heap.size C x2) := Lib.hid (nb_trans HX1.out hx2); clear hx2)))
    have HEND : Hid (Below w.heap.size w x2) := Lib.hid (nb_trans HB5.out (nb_trans HA6.out HX2.out))
    go_wp2
    go_ret
    exact ⟨rfl, HEND.out⟩

namespace zooRefused
theorem own : ownKnob Tryz.prog.godebug = none := by kernel_rfl
theorem laidOut : laidOutB Tryz.prog = true := by kernel_rfl

set_option maxRecDepth 100000 in
set_option maxHeartbeats 4000000 in
theorem lifted (os : Os) (started : os.Started) (H : Type) (enc : TypeId × Value → H) :
    ReturnsInHanded {} Tryz.checked os 8 .any (Rows.zooRefusedSpec.pre6 enc Tryz.prog Tryz.f8 Rows.zooRefusedRow.domain false) (Rows.zooRefusedSpec.post enc Tryz.prog Tryz.f8 false true false false) := by
  refine returnsInHanded_of_change (C := Tryz.checked) own started (by kernel_rfl) Tryz.func8
    (ChangeSpec.witness6 (enc := enc) (C := Tryz.checked) false ⟨#[], #[.slice none 0 0, .agg #[.int .i64 0, .int .i64 0, .int .i64 0, .int .i64 0, .int .i64 0, .int .i64 0, .int .i64 0, .int .i64 0, .int .i64 0, .int .i64 0, .int .i64 0, .int .i64 0, .int .i64 0, .int .i64 0, .int .i64 0, .int .i64 0]], []⟩ 8 (by kernel_rfl) (by kernel_rfl) (by kernel_rfl) (by kernel_rfl)) ?_
  intro W base args ds gs before hval0 hW hcnd _
  have hval : ∀ (j : Nat) t v, Tryz.f8.params[j]? = some t → args[j]? = some v → Value.okWide Tryz.prog W .any base t v := hval0
  have hW' := hW
  obtain ⟨p, q, hA0, hV, rfl, hfz, hnd⟩ := hW
  have hA : DataW.TrodAll enc Tryz.prog W 0 (fun _ => true) true Tryz.f8.params.toList args.toList ds p := hA0
  rw [Tryz.params8] at hA hval
  obtain ⟨v0, vs0, d0, ds0, p0, q0, hargs, rfl, rfl, h0, r0⟩ := trodAll_cons hA
  obtain ⟨v1, vs1, d1, ds1, p1, q1, rfl, rfl, rfl, h1, r1⟩ := trodAll_cons r0
  obtain ⟨rfl, rfl, rfl⟩ := trodAll_nil r1
  obtain rfl : args = #[v0, v1] := by cases args; simp_all
  obtain ⟨rfl, rfl⟩ := trodVars_none hV
  have k0' := h0
  have lt0 : ∀ x ∈ p0, x.block < W.heap.size := by obtain ⟨m, hm⟩ := h0; exact DataW.trod_lt m _ _ _ hm
  have k1' := h1
  have lt1 : ∀ x ∈ p1, x.block < W.heap.size := by obtain ⟨m, hm⟩ := h1; exact DataW.trod_lt m _ _ _ hm
  obtain ⟨z0, i0, j0⟩ : ∃ zs, Reads elOp W v0 zs ∧ ∀ x ∈ zs, OpOk x := by
    obtain ⟨a0, len0, cap0, rfl⟩ := okWide_slice Tryz.underlying22 (hval 0 22 v0 rfl rfl)
    exact Reads_ofP elOp OpOk Tryz.underlying22 (by kernel_rfl) op_dec h0
  obtain ⟨o1, rfl, i1⟩ : ∃ o : Opm, v1 = .agg #[.int .i64 o.d, .int .i64 o.m, .int .i64 (o.f 0), .int .i64 (o.f 1), .int .i64 (o.f 2), .int .i64 (o.f 3), .int .i64 (o.f 4), .int .i64 (o.f 5), .int .i64 (o.f 6), .int .i64 (o.f 7), .int .i64 o.a, .int .i64 o.b, .int .i64 o.ta, .int .i64 o.tb, .int .i64 o.k, .int .i64 o.n] ∧ OpOk o := by
    obtain ⟨zs, hl, rfl, hz⟩ := open_flat 5 16 Tryz.underlying40 (by kernel_rfl) (by kernel_rfl) (hval 1 40 v1 rfl rfl) h1
    obtain ⟨y0, y1, y2, y3, y4, y5, y6, y7, y8, y9, y10, y11, y12, y13, y14, y15, rfl⟩ := list16 hl
    exact ⟨⟨y0, y1, fun j => [y2, y3, y4, y5, y6, y7, y8, y9].getD j 0, y10, y11, y12, y13, y14, y15⟩, rfl, hz y10 (by simp), hz y11 (by simp), hz y12 (by simp), hz y13 (by simp)⟩
  clear hA0 hval0
  refine (zooRefused_walk v0 z0 j0 o1 i1 W i0).mono fun e W' ⟨he, bel⟩ => ?_
  subst he
  exact ⟨_, rfl, _, _, _, [], _, [], hW', trodAll_mk1 (shut_bool Tryz.underlying4 _), (trodAll_cons_mk (Below.trod laidOut (by kernel_rfl) (of_decide_eq_true (by kernel_rfl)) k0' bel lt0) (trodAll_cons_mk (Below.trod laidOut (by kernel_rfl) (of_decide_eq_true (by kernel_rfl)) k1' bel lt1) trodAll_mk0)), rfl, bel.frame _, fun h => by cases h⟩
end zooRefused

theorem zooRefused_proved : Rows.ZooRefusedSaid :=
  OpenClaim.holds_of_wide 8 Tryz.f8 rfl rfl rfl rfl rfl rfl rfl ⟨rfl, rfl, rfl, rfl, rfl⟩ rfl rfl rfl rfl rfl (by kernel_rfl) Tryz.func8 (by kernel_rfl)
    (of_decide_eq_true (by kernel_rfl)) (by unfold Func.isWrapper; first | (rw [if_pos (by decide +kernel)]; kernel_rfl) | (rw [if_neg (by decide +kernel)]; exact ⟨rfl, rfl⟩))
    (fun os started H enc _ => zooRefused.lifted os started H enc)

end Go.Proofs.YtdpjpckknncleaaGreat

/- resolve of package zoo, its ways. -/
import Derived.Test.YtcmpaohefihijabGreatDoorPZooResK
namespace Go.Proofs.YtcmpaohefihijabGreatDoor
set_option maxRecDepth 8000
set_option maxRecDepth 8000
open Go.RowKit

set_option maxHeartbeats 16000000 in
theorem resolve_no (v : Value) (sp : List Hd) (o : Opm) (w : World) (hr : Reads elHand w v sp) (_hn : sp.length ≤ 80) (h2 : (o.d == 2) = false) (h3 : (o.d == 3) = false) (h4 : (o.d == 4) = false) (h5 : (o.d == 5) = false) (h6 : (o.d == 6) = false) :
    Calls Tryz.prog 25 #[.agg #[.int .i64 o.d, .int .i64 o.m, .int .i64 (o.f 0), .int .i64 (o.f 1), .int .i64 (o.f 2), .int .i64 (o.f 3), .int .i64 (o.f 4), .int .i64 (o.f 5), .int .i64 (o.f 6), .int .i64 (o.f 7), .int .i64 o.a, .int .i64 o.b, .int .i64 o.ta, .int .i64 o.tb, .int .i64 o.k, .int .i64 o.n], v] w (ResPost sp o w) := by
  have HU : Hid (resO sp o = o ∧ resE sp o = 0) := Lib.hid (res_no (by
    cases hu : usesAt o
    · rfl
    · have := usesAt_iff.1 hu
      simp at h2 h3 h4 h5 h6; omega))
  obtain ⟨ra, rc, rfl, -⟩ := hr
  have HB : Hid (∀ v0 v1 v2 v3 v4 v5 v6 v7 v8 v9 v10 v11 v12 v13 v14 v15, Below w.heap.size w ((w.alloc (.cells #[.int .i64 o.d, .int .i64 o.m, .int .i64 (o.f 0), .int .i64 (o.f 1), .int .i64 (o.f 2), .int .i64 (o.f 3), .int .i64 (o.f 4), .int .i64 (o.f 5), .int .i64 (o.f 6), .int .i64 (o.f 7), .int .i64 o.a, .int .i64 o.b, .int .i64 o.ta, .int .i64 o.tb, .int .i64 o.k, .int .i64 o.n] 53)).alloc (.cells #[v0, v1, v2, v3, v4, v5, v6, v7, v8, v9, v10, v11, v12, v13, v14, v15] 53))) := Lib.hid (fun _ _ _ _ _ _ _ _ _ _ _ _ _ _ _ _ => nb_alloc (nb_alloc (Below.refl _ _) _) _)
  go_enter Tryz.func25, Tryz.ntmps25
  go_wp2
  refine bodyPost_ret (v := .tuple #[.agg #[.int .i64 o.d, .int .i64 o.m, .int .i64 (o.f 0), .int .i64 (o.f 1), .int .i64 (o.f 2), .int .i64 (o.f 3), .int .i64 (o.f 4), .int .i64 (o.f 5), .int .i64 (o.f 6), .int .i64 (o.f 7), .int .i64 o.a, .int .i64 o.b, .int .i64 o.ta, .int .i64 o.tb, .int .i64 o.k, .int .i64 o.n], .int .i64 0]) (by simp [results, Tryz.results25, go_sem]) rfl ⟨o, HU.out.1.symm, by rw [HU.out.2], ?_⟩
  exact HB.out _ _ _ _ _ _ _ _ _ _ _ _ _ _ _ _

set_option maxHeartbeats 16000000 in
theorem resolve_2a (v : Value) (sp : List Hd) (o : Opm) (w : World) (hr : Reads elHand w v sp) (hn : sp.length ≤ 80)  (h2 : (o.d == 2) = true) (x1 x2 : Int) (hx : hofH sp (o.a, o.b) = (x1, x2)) (he : hofE sp (o.a, o.b) = 0) :
    Calls Tryz.prog 25 #[.agg #[.int .i64 o.d, .int .i64 o.m, .int .i64 (o.f 0), .int .i64 (o.f 1), .int .i64 (o.f 2), .int .i64 (o.f 3), .int .i64 (o.f 4), .int .i64 (o.f 5), .int .i64 (o.f 6), .int .i64 (o.f 7), .int .i64 o.a, .int .i64 o.b, .int .i64 o.ta, .int .i64 o.tb, .int .i64 o.k, .int .i64 o.n], v] w (ResPost sp o w) := by
  have HU : usesAt o = true := usesAt_iff.2 (by simp at h2; omega)
  have h5 : (o.d == 5) = false := by simp at h2 ⊢; omega
  have HU5 : usesTo o = false := by unfold usesTo; simp at h5 ⊢; exact h5
  have HV := Lib.hid (res_one HU HU5 he)
  rw [hx] at HV
  clear HU HU5
  have HR := Lib.hid hr
  have HN := Lib.hid hn
  obtain ⟨ra, rc, rfl, -⟩ := hr
  obtain ⟨X, HXE, HX, HXA, HXZ⟩ := resStart w o
  clear hn
  go_enter Tryz.func25, Tryz.ntmps25
  go_wp2_with fail
  rw [HXE.out]
  refine (handleOf_any _ sp o.a o.b _ (HR.out.later HX.out) HN.out).mono ?_
  rintro e w1 ⟨rfl, hb1⟩
  rw [hx, he]
  have hkb := (hb1.block _ (Array.getElem?_eq_some_iff.1 HXA.out).1).trans HXA.out
  have hzb := (hb1.block _ (Array.getElem?_eq_some_iff.1 HXZ.out).1).trans HXZ.out
  obtain ⟨k0, k1, k2, k3, k4, k5, k6, k7, k8, k9, k10, k11, k12, k13, k14, k15, fk, lk⟩ := cells16 hkb
  obtain ⟨z0, z1, z2, z3, z4, z5, z6, z7, z8, z9, z10, z11, z12, z13, z14, z15, fz, lz⟩ := cells16 hzb
  have HW1 : Hid (Below w.heap.size w w1) := Lib.hid (nb_trans HX.out hb1)
  clear hb1 hkb hzb hx he HXA HXZ
  go_wp2
  refine bodyPost_ret (v := .tuple #[.agg #[.int .i64 o.d, .int .i64 o.m, .int .i64 (o.f 0), .int .i64 (o.f 1), .int .i64 (o.f 2), .int .i64 (o.f 3), .int .i64 (o.f 4), .int .i64 (o.f 5), .int .i64 (o.f 6), .int .i64 (o.f 7), .int .i64 x1, .int .i64 x2, .int .i64 o.ta, .int .i64 o.tb, .int .i64 o.k, .int .i64 o.n], .int .i64 0]) (by simp [results, Tryz.results25, go_sem, z0, z1, z2, z3, z4, z5, z6, z7, z8, z9, z10, z11, z12, z13, z14, z15]) rfl ⟨_, rfl, ?_, ?_⟩
  · first | (rw [HV.out.1, HV.out.2]; done) | (rw [HV.out.1, HV.out.2]; rfl)
  · iterate 18 (refine nb_set ?_ _ _ _ (by omega))
    exact HW1.out

set_option maxHeartbeats 16000000 in
theorem resolve_2b (v : Value) (sp : List Hd) (o : Opm) (w : World) (hr : Reads elHand w v sp) (hn : sp.length ≤ 80)  (h2 : (o.d == 2) = true) (x1 x2 : Int) (hx : hofH sp (o.a, o.b) = (x1, x2)) (he : hofE sp (o.a, o.b) = 5) :
    Calls Tryz.prog 25 #[.agg #[.int .i64 o.d, .int .i64 o.m, .int .i64 (o.f 0), .int .i64 (o.f 1), .int .i64 (o.f 2), .int .i64 (o.f 3), .int .i64 (o.f 4), .int .i64 (o.f 5), .int .i64 (o.f 6), .int .i64 (o.f 7), .int .i64 o.a, .int .i64 o.b, .int .i64 o.ta, .int .i64 o.tb, .int .i64 o.k, .int .i64 o.n], v] w (ResPost sp o w) := by
  have HU : usesAt o = true := usesAt_iff.2 (by simp at h2; omega)
  have HV := Lib.hid (res_bad HU (by rw [he]; decide))
  clear HU
  have HR := Lib.hid hr
  have HN := Lib.hid hn
  obtain ⟨ra, rc, rfl, -⟩ := hr
  obtain ⟨X, HXE, HX, HXA, HXZ⟩ := resStart w o
  clear hn
  go_enter Tryz.func25, Tryz.ntmps25
  go_wp2_with fail
  rw [HXE.out]
  refine (handleOf_any _ sp o.a o.b _ (HR.out.later HX.out) HN.out).mono ?_
  rintro e w1 ⟨rfl, hb1⟩
  rw [hx, he]
  have hkb := (hb1.block _ (Array.getElem?_eq_some_iff.1 HXA.out).1).trans HXA.out
  have hzb := (hb1.block _ (Array.getElem?_eq_some_iff.1 HXZ.out).1).trans HXZ.out
  obtain ⟨k0, k1, k2, k3, k4, k5, k6, k7, k8, k9, k10, k11, k12, k13, k14, k15, fk, lk⟩ := cells16 hkb
  obtain ⟨z0, z1, z2, z3, z4, z5, z6, z7, z8, z9, z10, z11, z12, z13, z14, z15, fz, lz⟩ := cells16 hzb
  have HW1 : Hid (Below w.heap.size w w1) := Lib.hid (nb_trans HX.out hb1)
  clear hb1 hkb hzb hx he HXA HXZ
  go_wp2
  refine bodyPost_ret (v := .tuple #[.agg #[.int .i64 0, .int .i64 0, .int .i64 0, .int .i64 0, .int .i64 0, .int .i64 0, .int .i64 0, .int .i64 0, .int .i64 0, .int .i64 0, .int .i64 0, .int .i64 0, .int .i64 0, .int .i64 0, .int .i64 0, .int .i64 0], .int .i64 5]) (by simp [results, Tryz.results25, go_sem, z0, z1, z2, z3, z4, z5, z6, z7, z8, z9, z10, z11, z12, z13, z14, z15]) rfl ⟨_, rfl, ?_, ?_⟩
  · first | (rw [HV.out.1, HV.out.2]; done) | (rw [HV.out.1, HV.out.2]; rfl)
  · iterate 18 (refine nb_set ?_ _ _ _ (by omega))
    exact HW1.out

set_option maxHeartbeats 16000000 in
theorem resolve_3a (v : Value) (sp : List Hd) (o : Opm) (w : World) (hr : Reads elHand w v sp) (hn : sp.length ≤ 80) (h2 : (o.d == 2) = false) (h3 : (o.d == 3) = true) (x1 x2 : Int) (hx : hofH sp (o.a, o.b) = (x1, x2)) (he : hofE sp (o.a, o.b) = 0) :
    Calls Tryz.prog 25 #[.agg #[.int .i64 o.d, .int .i64 o.m, .int .i64 (o.f 0), .int .i64 (o.f 1), .int .i64 (o.f 2), .int .i64 (o.f 3), .int .i64 (o.f 4), .int .i64 (o.f 5), .int .i64 (o.f 6), .int .i64 (o.f 7), .int .i64 o.a, .int .i64 o.b, .int .i64 o.ta, .int .i64 o.tb, .int .i64 o.k, .int .i64 o.n], v] w (ResPost sp o w) := by
  have HU : usesAt o = true := usesAt_iff.2 (by simp at h3; omega)
  have h5 : (o.d == 5) = false := by simp at h3 ⊢; omega
  have HU5 : usesTo o = false := by unfold usesTo; simp at h5 ⊢; exact h5
  have HV := Lib.hid (res_one HU HU5 he)
  rw [hx] at HV
  clear HU HU5
  have HR := Lib.hid hr
  have HN := Lib.hid hn
  obtain ⟨ra, rc, rfl, -⟩ := hr
  obtain ⟨X, HXE, HX, HXA, HXZ⟩ := resStart w o
  clear hn
  go_enter Tryz.func25, Tryz.ntmps25
  go_wp2_with fail
  rw [HXE.out]
  refine (handleOf_any _ sp o.a o.b _ (HR.out.later HX.out) HN.out).mono ?_
  rintro e w1 ⟨rfl, hb1⟩
  rw [hx, he]
  have hkb := (hb1.block _ (Array.getElem?_eq_some_iff.1 HXA.out).1).trans HXA.out
  have hzb := (hb1.block _ (Array.getElem?_eq_some_iff.1 HXZ.out).1).trans HXZ.out
  obtain ⟨k0, k1, k2, k3, k4, k5, k6, k7, k8, k9, k10, k11, k12, k13, k14, k15, fk, lk⟩ := cells16 hkb
  obtain ⟨z0, z1, z2, z3, z4, z5, z6, z7, z8, z9, z10, z11, z12, z13, z14, z15, fz, lz⟩ := cells16 hzb
  have HW1 : Hid (Below w.heap.size w w1) := Lib.hid (nb_trans HX.out hb1)
  clear hb1 hkb hzb hx he HXA HXZ
  go_wp2
  refine bodyPost_ret (v := .tuple #[.agg #[.int .i64 o.d, .int .i64 o.m, .int .i64 (o.f 0), .int .i64 (o.f 1), .int .i64 (o.f 2), .int .i64 (o.f 3), .int .i64 (o.f 4), .int .i64 (o.f 5), .int .i64 (o.f 6), .int .i64 (o.f 7), .int .i64 x1, .int .i64 x2, .int .i64 o.ta, .int .i64 o.tb, .int .i64 o.k, .int .i64 o.n], .int .i64 0]) (by simp [results, Tryz.results25, go_sem, z0, z1, z2, z3, z4, z5, z6, z7, z8, z9, z10, z11, z12, z13, z14, z15]) rfl ⟨_, rfl, ?_, ?_⟩
  · first | (rw [HV.out.1, HV.out.2]; done) | (rw [HV.out.1, HV.out.2]; rfl)
  · iterate 18 (refine nb_set ?_ _ _ _ (by omega))
    exact HW1.out

end Go.Proofs.YtcmpaohefihijabGreatDoor

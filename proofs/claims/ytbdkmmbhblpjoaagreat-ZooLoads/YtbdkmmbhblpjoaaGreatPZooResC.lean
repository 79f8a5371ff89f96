/- resolve of package zoo, its ways. -/
import Derived.Test.YtbdkmmbhblpjoaaGreatPZooPlain
namespace Go.Proofs.YtbdkmmbhblpjoaaGreat
set_option maxRecDepth 8000
set_option maxRecDepth 8000
open Go.RowKit

set_option maxHeartbeats 16000000 in
theorem resolve_6b (v : Value) (sp : List Hd) (o : Opm) (w : World) (hr : Reads elHand w v sp) (hn : sp.length ≤ 80) (h2 : (o.d == 2) = false) (h3 : (o.d == 3) = false) (h4 : (o.d == 4) = false) (h5 : (o.d == 5) = false) (h6 : (o.d == 6) = true) (x1 x2 : Int) (hx : hofH sp (o.a, o.b) = (x1, x2)) (he : hofE sp (o.a, o.b) = 5) :
    Calls Tryz.prog 51 #[.agg #[.int .i64 o.d, .int .i64 o.m, .int .i64 (o.f 0), .int .i64 (o.f 1), .int .i64 (o.f 2), .int .i64 (o.f 3), .int .i64 (o.f 4), .int .i64 (o.f 5), .int .i64 (o.f 6), .int .i64 (o.f 7), .int .i64 o.a, .int .i64 o.b, .int .i64 o.ta, .int .i64 o.tb, .int .i64 o.k, .int .i64 o.n], v] w fun e w' => ∃ o', o' = resO sp o ∧ e = .returned (.tuple #[.agg #[.int .i64 o'.d, .int .i64 o'.m, .int .i64 (o'.f 0), .int .i64 (o'.f 1), .int .i64 (o'.f 2), .int .i64 (o'.f 3), .int .i64 (o'.f 4), .int .i64 (o'.f 5), .int .i64 (o'.f 6), .int .i64 (o'.f 7), .int .i64 o'.a, .int .i64 o'.b, .int .i64 o'.ta, .int .i64 o'.tb, .int .i64 o'.k, .int .i64 o'.n], .int .i64 (resE sp o)]) ∧ Below w.heap.size w w' := by
  have HU : usesAt o = true := usesAt_iff.2 (by simp at h6; omega)
  have HV := Lib.hid (res_bad HU (by rw [he]; decide))
  clear HU
  have HR := Lib.hid hr
  have HN := Lib.hid hn
  obtain ⟨ra, rc, rfl, -⟩ := hr
  have HX : Hid (Below w.heap.size w ((w.alloc (.cells #[.int .i64 o.d, .int .i64 o.m, .int .i64 (o.f 0), .int .i64 (o.f 1), .int .i64 (o.f 2), .int .i64 (o.f 3), .int .i64 (o.f 4), .int .i64 (o.f 5), .int .i64 (o.f 6), .int .i64 (o.f 7), .int .i64 o.a, .int .i64 o.b, .int .i64 o.ta, .int .i64 o.tb, .int .i64 o.k, .int .i64 o.n] 40)).alloc (.cells #[.int .i64 0, .int .i64 0, .int .i64 0, .int .i64 0, .int .i64 0, .int .i64 0, .int .i64 0, .int .i64 0, .int .i64 0, .int .i64 0, .int .i64 0, .int .i64 0, .int .i64 0, .int .i64 0, .int .i64 0, .int .i64 0] 40))) := Lib.hid (nb_alloc (nb_alloc (Below.refl _ _) _) _)
  have HXA : Hid (((w.alloc (.cells #[.int .i64 o.d, .int .i64 o.m, .int .i64 (o.f 0), .int .i64 (o.f 1), .int .i64 (o.f 2), .int .i64 (o.f 3), .int .i64 (o.f 4), .int .i64 (o.f 5), .int .i64 (o.f 6), .int .i64 (o.f 7), .int .i64 o.a, .int .i64 o.b, .int .i64 o.ta, .int .i64 o.tb, .int .i64 o.k, .int .i64 o.n] 40)).alloc (.cells #[.int .i64 0, .int .i64 0, .int .i64 0, .int .i64 0, .int .i64 0, .int .i64 0, .int .i64 0, .int .i64 0, .int .i64 0, .int .i64 0, .int .i64 0, .int .i64 0, .int .i64 0, .int .i64 0, .int .i64 0, .int .i64 0] 40)).heap[w.heap.size]? = some (.cells #[.int .i64 o.d, .int .i64 o.m, .int .i64 (o.f 0), .int .i64 (o.f 1), .int .i64 (o.f 2), .int .i64 (o.f 3), .int .i64 (o.f 4), .int .i64 (o.f 5), .int .i64 (o.f 6), .int .i64 (o.f 7), .int .i64 o.a, .int .i64 o.b, .int .i64 o.ta, .int .i64 o.tb, .int .i64 o.k, .int .i64 o.n] 40)) := Lib.hid (heap_alloc2_old _ _ _)
  have HXZ : Hid (((w.alloc (.cells #[.int .i64 o.d, .int .i64 o.m, .int .i64 (o.f 0), .int .i64 (o.f 1), .int .i64 (o.f 2), .int .i64 (o.f 3), .int .i64 (o.f 4), .int .i64 (o.f 5), .int .i64 (o.f 6), .int .i64 (o.f 7), .int .i64 o.a, .int .i64 o.b, .int .i64 o.ta, .int .i64 o.tb, .int .i64 o.k, .int .i64 o.n] 40)).alloc (.cells #[.int .i64 0, .int .i64 0, .int .i64 0, .int .i64 0, .int .i64 0, .int .i64 0, .int .i64 0, .int .i64 0, .int .i64 0, .int .i64 0, .int .i64 0, .int .i64 0, .int .i64 0, .int .i64 0, .int .i64 0, .int .i64 0] 40)).heap[w.heap.size + 1]? = some (.cells #[.int .i64 0, .int .i64 0, .int .i64 0, .int .i64 0, .int .i64 0, .int .i64 0, .int .i64 0, .int .i64 0, .int .i64 0, .int .i64 0, .int .i64 0, .int .i64 0, .int .i64 0, .int .i64 0, .int .i64 0, .int .i64 0] 40)) := Lib.hid (heap_alloc2_new _ _ _)
  clear hn
  go_enter Tryz.func51, Tryz.ntmps51
  go_wp2_with fail
  generalize ((w.alloc (.cells #[.int .i64 o.d, .int .i64 o.m, .int .i64 (o.f 0), .int .i64 (o.f 1), .int .i64 (o.f 2), .int .i64 (o.f 3), .int .i64 (o.f 4), .int .i64 (o.f 5), .int .i64 (o.f 6), .int .i64 (o.f 7), .int .i64 o.a, .int .i64 o.b, .int .i64 o.ta, .int .i64 o.tb, .int .i64 o.k, .int .i64 o.n] 40)).alloc (.cells #[.int .i64 0, .int .i64 0, .int .i64 0, .int .i64 0, .int .i64 0, .int .i64 0, .int .i64 0, .int .i64 0, .int .i64 0, .int .i64 0, .int .i64 0, .int .i64 0, .int .i64 0, .int .i64 0, .int .i64 0, .int .i64 0] 40)) = X at *
  refine (handleOf_any _ sp o.a o.b _ (HR.out.later HX.out) HN.out).mono ?_
  rintro e w1 ⟨rfl, hb1⟩
  rw [hx, he]
  have hkb : w1.heap[w.heap.size]? = some (.cells #[.int .i64 o.d, .int .i64 o.m, .int .i64 (o.f 0), .int .i64 (o.f 1), .int .i64 (o.f 2), .int .i64 (o.f 3), .int .i64 (o.f 4), .int .i64 (o.f 5), .int .i64 (o.f 6), .int .i64 (o.f 7), .int .i64 o.a, .int .i64 o.b, .int .i64 o.ta, .int .i64 o.tb, .int .i64 o.k, .int .i64 o.n] 40) := (hb1.block _ (Array.getElem?_eq_some_iff.1 HXA.out).1).trans HXA.out
  have hzb : w1.heap[w.heap.size + 1]? = some (.cells #[.int .i64 0, .int .i64 0, .int .i64 0, .int .i64 0, .int .i64 0, .int .i64 0, .int .i64 0, .int .i64 0, .int .i64 0, .int .i64 0, .int .i64 0, .int .i64 0, .int .i64 0, .int .i64 0, .int .i64 0, .int .i64 0] 40) := (hb1.block _ (Array.getElem?_eq_some_iff.1 HXZ.out).1).trans HXZ.out
  have k0 : w1.cell? ⟨w.heap.size, 0, none⟩ = some (.int .i64 o.d) := (cell_of_row _ _ _ _ _ _ hkb).trans rfl
  have k1 : w1.cell? ⟨w.heap.size, 1, none⟩ = some (.int .i64 o.m) := (cell_of_row _ _ _ _ _ _ hkb).trans rfl
  have k2 : w1.cell? ⟨w.heap.size, 2, none⟩ = some (.int .i64 (o.f 0)) := (cell_of_row _ _ _ _ _ _ hkb).trans rfl
  have k3 : w1.cell? ⟨w.heap.size, 3, none⟩ = some (.int .i64 (o.f 1)) := (cell_of_row _ _ _ _ _ _ hkb).trans rfl
  have k4 : w1.cell? ⟨w.heap.size, 4, none⟩ = some (.int .i64 (o.f 2)) := (cell_of_row _ _ _ _ _ _ hkb).trans rfl
  have k5 : w1.cell? ⟨w.heap.size, 5, none⟩ = some (.int .i64 (o.f 3)) := (cell_of_row _ _ _ _ _ _ hkb).trans rfl
  have k6 : w1.cell? ⟨w.heap.size, 6, none⟩ = some (.int .i64 (o.f 4)) := (cell_of_row _ _ _ _ _ _ hkb).trans rfl
  have k7 : w1.cell? ⟨w.heap.size, 7, none⟩ = some (.int .i64 (o.f 5)) := (cell_of_row _ _ _ _ _ _ hkb).trans rfl
  have k8 : w1.cell? ⟨w.heap.size, 8, none⟩ = some (.int .i64 (o.f 6)) := (cell_of_row _ _ _ _ _ _ hkb).trans rfl
  have k9 : w1.cell? ⟨w.heap.size, 9, none⟩ = some (.int .i64 (o.f 7)) := (cell_of_row _ _ _ _ _ _ hkb).trans rfl
  have k10 : w1.cell? ⟨w.heap.size, 10, none⟩ = some (.int .i64 o.a) := (cell_of_row _ _ _ _ _ _ hkb).trans rfl
  have k11 : w1.cell? ⟨w.heap.size, 11, none⟩ = some (.int .i64 o.b) := (cell_of_row _ _ _ _ _ _ hkb).trans rfl
  have k12 : w1.cell? ⟨w.heap.size, 12, none⟩ = some (.int .i64 o.ta) := (cell_of_row _ _ _ _ _ _ hkb).trans rfl
  have k13 : w1.cell? ⟨w.heap.size, 13, none⟩ = some (.int .i64 o.tb) := (cell_of_row _ _ _ _ _ _ hkb).trans rfl
  have k14 : w1.cell? ⟨w.heap.size, 14, none⟩ = some (.int .i64 o.k) := (cell_of_row _ _ _ _ _ _ hkb).trans rfl
  have k15 : w1.cell? ⟨w.heap.size, 15, none⟩ = some (.int .i64 o.n) := (cell_of_row _ _ _ _ _ _ hkb).trans rfl
  have z0 : w1.cell? ⟨w.heap.size + 1, 0, none⟩ = some (.int .i64 0) := (cell_of_row _ _ _ _ _ _ hzb).trans rfl
  have z1 : w1.cell? ⟨w.heap.size + 1, 1, none⟩ = some (.int .i64 0) := (cell_of_row _ _ _ _ _ _ hzb).trans rfl
  have z2 : w1.cell? ⟨w.heap.size + 1, 2, none⟩ = some (.int .i64 0) := (cell_of_row _ _ _ _ _ _ hzb).trans rfl
  have z3 : w1.cell? ⟨w.heap.size + 1, 3, none⟩ = some (.int .i64 0) := (cell_of_row _ _ _ _ _ _ hzb).trans rfl
  have z4 : w1.cell? ⟨w.heap.size + 1, 4, none⟩ = some (.int .i64 0) := (cell_of_row _ _ _ _ _ _ hzb).trans rfl
  have z5 : w1.cell? ⟨w.heap.size + 1, 5, none⟩ = some (.int .i64 0) := (cell_of_row _ _ _ _ _ _ hzb).trans rfl
  have z6 : w1.cell? ⟨w.heap.size + 1, 6, none⟩ = some (.int .i64 0) := (cell_of_row _ _ _ _ _ _ hzb).trans rfl
  have z7 : w1.cell? ⟨w.heap.size + 1, 7, none⟩ = some (.int .i64 0) := (cell_of_row _ _ _ _ _ _ hzb).trans rfl
  have z8 : w1.cell? ⟨w.heap.size + 1, 8, none⟩ = some (.int .i64 0) := (cell_of_row _ _ _ _ _ _ hzb).trans rfl
  have z9 : w1.cell? ⟨w.heap.size + 1, 9, none⟩ = some (.int .i64 0) := (cell_of_row _ _ _ _ _ _ hzb).trans rfl
  have z10 : w1.cell? ⟨w.heap.size + 1, 10, none⟩ = some (.int .i64 0) := (cell_of_row _ _ _ _ _ _ hzb).trans rfl
  have z11 : w1.cell? ⟨w.heap.size + 1, 11, none⟩ = some (.int .i64 0) := (cell_of_row _ _ _ _ _ _ hzb).trans rfl
  have z12 : w1.cell? ⟨w.heap.size + 1, 12, none⟩ = some (.int .i64 0) := (cell_of_row _ _ _ _ _ _ hzb).trans rfl
  have z13 : w1.cell? ⟨w.heap.size + 1, 13, none⟩ = some (.int .i64 0) := (cell_of_row _ _ _ _ _ _ hzb).trans rfl
  have z14 : w1.cell? ⟨w.heap.size + 1, 14, none⟩ = some (.int .i64 0) := (cell_of_row _ _ _ _ _ _ hzb).trans rfl
  have z15 : w1.cell? ⟨w.heap.size + 1, 15, none⟩ = some (.int .i64 0) := (cell_of_row _ _ _ _ _ _ hzb).trans rfl
  have fk : ∀ j, w1.frozen? ⟨w.heap.size, j, none⟩ = false := fun j => frozen_of_row _ _ _ _ _ hkb
  have fz : ∀ j, w1.frozen? ⟨w.heap.size + 1, j, none⟩ = false := fun j => frozen_of_row _ _ _ _ _ hzb
  have lk := (Array.getElem?_eq_some_iff.1 hkb).1
  have lz := (Array.getElem?_eq_some_iff.1 hzb).1
  have HW1 : Hid (Below w.heap.size w w1) := Lib.hid (nb_trans HX.out hb1)
  clear hb1 hkb hzb hx he HXA HXZ
  go_wp2
  refine bodyPost_ret (v := .tuple #[.agg #[.int .i64 0, .int .i64 0, .int .i64 0, .int .i64 0, .int .i64 0, .int .i64 0, .int .i64 0, .int .i64 0, .int .i64 0, .int .i64 0, .int .i64 0, .int .i64 0, .int .i64 0, .int .i64 0, .int .i64 0, .int .i64 0], .int .i64 5]) (by simp [results, Tryz.results51, go_sem, z0, z1, z2, z3, z4, z5, z6, z7, z8, z9, z10, z11, z12, z13, z14, z15]) rfl ⟨_, rfl, ?_, ?_⟩
  · first | (rw [HV.out.1, HV.out.2]; done) | (rw [HV.out.1, HV.out.2]; rfl)
  · iterate 18 (refine nb_set ?_ _ _ _ (by omega))
    exact HW1.out

set_option maxHeartbeats 16000000 in
theorem resolve_5b (v : Value) (sp : List Hd) (o : Opm) (w : World) (hr : Reads elHand w v sp) (hn : sp.length ≤ 80) (h2 : (o.d == 2) = false) (h3 : (o.d == 3) = false) (h4 : (o.d == 4) = false) (h5 : (o.d == 5) = true) (x1 x2 : Int) (hx : hofH sp (o.a, o.b) = (x1, x2)) (he : hofE sp (o.a, o.b) = 5) :
    Calls Tryz.prog 51 #[.agg #[.int .i64 o.d, .int .i64 o.m, .int .i64 (o.f 0), .int .i64 (o.f 1), .int .i64 (o.f 2), .int .i64 (o.f 3), .int .i64 (o.f 4), .int .i64 (o.f 5), .int .i64 (o.f 6), .int .i64 (o.f 7), .int .i64 o.a, .int .i64 o.b, .int .i64 o.ta, .int .i64 o.tb, .int .i64 o.k, .int .i64 o.n], v] w fun e w' => ∃ o', o' = resO sp o ∧ e = .returned (.tuple #[.agg #[.int .i64 o'.d, .int .i64 o'.m, .int .i64 (o'.f 0), .int .i64 (o'.f 1), .int .i64 (o'.f 2), .int .i64 (o'.f 3), .int .i64 (o'.f 4), .int .i64 (o'.f 5), .int .i64 (o'.f 6), .int .i64 (o'.f 7), .int .i64 o'.a, .int .i64 o'.b, .int .i64 o'.ta, .int .i64 o'.tb, .int .i64 o'.k, .int .i64 o'.n], .int .i64 (resE sp o)]) ∧ Below w.heap.size w w' := by
  have HU : usesAt o = true := usesAt_iff.2 (by simp at h5; omega)
  have HV := Lib.hid (res_bad HU (by rw [he]; decide))
  clear HU
  have HR := Lib.hid hr
  have HN := Lib.hid hn
  obtain ⟨ra, rc, rfl, -⟩ := hr
  have HX : Hid (Below w.heap.size w ((w.alloc (.cells #[.int .i64 o.d, .int .i64 o.m, .int .i64 (o.f 0), .int .i64 (o.f 1), .int .i64 (o.f 2), .int .i64 (o.f 3), .int .i64 (o.f 4), .int .i64 (o.f 5), .int .i64 (o.f 6), .int .i64 (o.f 7), .int .i64 o.a, .int .i64 o.b, .int .i64 o.ta, .int .i64 o.tb, .int .i64 o.k, .int .i64 o.n] 40)).alloc (.cells #[.int .i64 0, .int .i64 0, .int .i64 0, .int .i64 0, .int .i64 0, .int .i64 0, .int .i64 0, .int .i64 0, .int .i64 0, .int .i64 0, .int .i64 0, .int .i64 0, .int .i64 0, .int .i64 0, .int .i64 0, .int .i64 0] 40))) := Lib.hid (nb_alloc (nb_alloc (Below.refl _ _) _) _)
  have HXA : Hid (((w.alloc (.cells #[.int .i64 o.d, .int .i64 o.m, .int .i64 (o.f 0), .int .i64 (o.f 1), .int .i64 (o.f 2), .int .i64 (o.f 3), .int .i64 (o.f 4), .int .i64 (o.f 5), .int .i64 (o.f 6), .int .i64 (o.f 7), .int .i64 o.a, .int .i64 o.b, .int .i64 o.ta, .int .i64 o.tb, .int .i64 o.k, .int .i64 o.n] 40)).alloc (.cells #[.int .i64 0, .int .i64 0, .int .i64 0, .int .i64 0, .int .i64 0, .int .i64 0, .int .i64 0, .int .i64 0, .int .i64 0, .int .i64 0, .int .i64 0, .int .i64 0, .int .i64 0, .int .i64 0, .int .i64 0, .int .i64 0] 40)).heap[w.heap.size]? = some (.cells #[.int .i64 o.d, .int .i64 o.m, .int .i64 (o.f 0), .int .i64 (o.f 1), .int .i64 (o.f 2), .int .i64 (o.f 3), .int .i64 (o.f 4), .int .i64 (o.f 5), .int .i64 (o.f 6), .int .i64 (o.f 7), .int .i64 o.a, .int .i64 o.b, .int .i64 o.ta, .int .i64 o.tb, .int .i64 o.k, .int .i64 o.n] 40)) := Lib.hid (heap_alloc2_old _ _ _)
  have HXZ : Hid (((w.alloc (.cells #[.int .i64 o.d, .int .i64 o.m, .int .i64 (o.f 0), .int .i64 (o.f 1), .int .i64 (o.f 2), .int .i64 (o.f 3), .int .i64 (o.f 4), .int .i64 (o.f 5), .int .i64 (o.f 6), .int .i64 (o.f 7), .int .i64 o.a, .int .i64 o.b, .int .i64 o.ta, .int .i64 o.tb, .int .i64 o.k, .int .i64 o.n] 40)).alloc (.cells #[.int .i64 0, .int .i64 0, .int .i64 0, .int .i64 0, .int .i64 0, .int .i64 0, .int .i64 0, .int .i64 0, .int .i64 0, .int .i64 0, .int .i64 0, .int .i64 0, .int .i64 0, .int .i64 0, .int .i64 0, .int .i64 0] 40)).heap[w.heap.size + 1]? = some (.cells #[.int .i64 0, .int .i64 0, .int .i64 0, .int .i64 0, .int .i64 0, .int .i64 0, .int .i64 0, .int .i64 0, .int .i64 0, .int .i64 0, .int .i64 0, .int .i64 0, .int .i64 0, .int .i64 0, .int .i64 0, .int .i64 0] 40)) := Lib.hid (heap_alloc2_new _ _ _)
  clear hn
  go_enter Tryz.func51, Tryz.ntmps51
  go_wp2_with fail
  generalize ((w.alloc (.cells #[.int .i64 o.d, .int .i64 o.m, .int .i64 (o.f 0), .int .i64 (o.f 1), .int .i64 (o.f 2), .int .i64 (o.f 3), .int .i64 (o.f 4), .int .i64 (o.f 5), .int .i64 (o.f 6), .int .i64 (o.f 7), .int .i64 o.a, .int .i64 o.b, .int .i64 o.ta, .int .i64 o.tb, .int .i64 o.k, .int .i64 o.n] 40)).alloc (.cells #[.int .i64 0, .int .i64 0, .int .i64 0, .int .i64 0, .int .i64 0, .int .i64 0, .int .i64 0, .int .i64 0, .int .i64 0, .int .i64 0, .int .i64 0, .int .i64 0, .int .i64 0, .int .i64 0, .int .i64 0, .int .i64 0] 40)) = X at *
  refine (handleOf_any _ sp o.a o.b _ (HR.out.later HX.out) HN.out).mono ?_
  rintro e w1 ⟨rfl, hb1⟩
  rw [hx, he]
  have hkb : w1.heap[w.heap.size]? = some (.cells #[.int .i64 o.d, .int .i64 o.m, .int .i64 (o.f 0), .int .i64 (o.f 1), .int .i64 (o.f 2), .int .i64 (o.f 3), .int .i64 (o.f 4), .int .i64 (o.f 5), .int .i64 (o.f 6), .int .i64 (o.f 7), .int .i64 o.a, .int .i64 o.b, .int .i64 o.ta, .int .i64 o.tb, .int .i64 o.k, .int .i64 o.n] 40) := (hb1.block _ (Array.getElem?_eq_some_iff.1 HXA.out).1).trans HXA.out
  have hzb : w1.heap[w.heap.size + 1]? = some (.cells #[.int .i64 0, .int .i64 0, .int .i64 0, .int .i64 0, .int .i64 0, .int .i64 0, .int .i64 0, .int .i64 0, .int .i64 0, .int .i64 0, .int .i64 0, .int .i64 0, .int .i64 0, .int .i64 0, .int .i64 0, .int .i64 0] 40) := (hb1.block _ (Array.getElem?_eq_some_iff.1 HXZ.out).1).trans HXZ.out
  have k0 : w1.cell? ⟨w.heap.size, 0, none⟩ = some (.int .i64 o.d) := (cell_of_row _ _ _ _ _ _ hkb).trans rfl
  have k1 : w1.cell? ⟨w.heap.size, 1, none⟩ = some (.int .i64 o.m) := (cell_of_row _ _ _ _ _ _ hkb).trans rfl
  have k2 : w1.cell? ⟨w.heap.size, 2, none⟩ = some (.int .i64 (o.f 0)) := (cell_of_row _ _ _ _ _ _ hkb).trans rfl
  have k3 : w1.cell? ⟨w.heap.size, 3, none⟩ = some (.int .i64 (o.f 1)) := (cell_of_row _ _ _ _ _ _ hkb).trans rfl
  have k4 : w1.cell? ⟨w.heap.size, 4, none⟩ = some (.int .i64 (o.f 2)) := (cell_of_row _ _ _ _ _ _ hkb).trans rfl
  have k5 : w1.cell? ⟨w.heap.size, 5, none⟩ = some (.int .i64 (o.f 3)) := (cell_of_row _ _ _ _ _ _ hkb).trans rfl
  have k6 : w1.cell? ⟨w.heap.size, 6, none⟩ = some (.int .i64 (o.f 4)) := (cell_of_row _ _ _ _ _ _ hkb).trans rfl
  have k7 : w1.cell? ⟨w.heap.size, 7, none⟩ = some (.int .i64 (o.f 5)) := (cell_of_row _ _ _ _ _ _ hkb).trans rfl
  have k8 : w1.cell? ⟨w.heap.size, 8, none⟩ = some (.int .i64 (o.f 6)) := (cell_of_row _ _ _ _ _ _ hkb).trans rfl
  have k9 : w1.cell? ⟨w.heap.size, 9, none⟩ = some (.int .i64 (o.f 7)) := (cell_of_row _ _ _ _ _ _ hkb).trans rfl
  have k10 : w1.cell? ⟨w.heap.size, 10, none⟩ = some (.int .i64 o.a) := (cell_of_row _ _ _ _ _ _ hkb).trans rfl
  have k11 : w1.cell? ⟨w.heap.size, 11, none⟩ = some (.int .i64 o.b) := (cell_of_row _ _ _ _ _ _ hkb).trans rfl
  have k12 : w1.cell? ⟨w.heap.size, 12, none⟩ = some (.int .i64 o.ta) := (cell_of_row _ _ _ _ _ _ hkb).trans rfl
  have k13 : w1.cell? ⟨w.heap.size, 13, none⟩ = some (.int .i64 o.tb) := (cell_of_row _ _ _ _ _ _ hkb).trans rfl
  have k14 : w1.cell? ⟨w.heap.size, 14, none⟩ = some (.int .i64 o.k) := (cell_of_row _ _ _ _ _ _ hkb).trans rfl
  have k15 : w1.cell? ⟨w.heap.size, 15, none⟩ = some (.int .i64 o.n) := (cell_of_row _ _ _ _ _ _ hkb).trans rfl
  have z0 : w1.cell? ⟨w.heap.size + 1, 0, none⟩ = some (.int .i64 0) := (cell_of_row _ _ _ _ _ _ hzb).trans rfl
  have z1 : w1.cell? ⟨w.heap.size + 1, 1, none⟩ = some (.int .i64 0) := (cell_of_row _ _ _ _ _ _ hzb).trans rfl
  have z2 : w1.cell? ⟨w.heap.size + 1, 2, none⟩ = some (.int .i64 0) := (cell_of_row _ _ _ _ _ _ hzb).trans rfl
  have z3 : w1.cell? ⟨w.heap.size + 1, 3, none⟩ = some (.int .i64 0) := (cell_of_row _ _ _ _ _ _ hzb).trans rfl
  have z4 : w1.cell? ⟨w.heap.size + 1, 4, none⟩ = some (.int .i64 0) := (cell_of_row _ _ _ _ _ _ hzb).trans rfl
  have z5 : w1.cell? ⟨w.heap.size + 1, 5, none⟩ = some (.int .i64 0) := (cell_of_row _ _ _ _ _ _ hzb).trans rfl
  have z6 : w1.cell? ⟨w.heap.size + 1, 6, none⟩ = some (.int .i64 0) := (cell_of_row _ _ _ _ _ _ hzb).trans rfl
  have z7 : w1.cell? ⟨w.heap.size + 1, 7, none⟩ = some (.int .i64 0) := (cell_of_row _ _ _ _ _ _ hzb).trans rfl
  have z8 : w1.cell? ⟨w.heap.size + 1, 8, none⟩ = some (.int .i64 0) := (cell_of_row _ _ _ _ _ _ hzb).trans rfl
  have z9 : w1.cell? ⟨w.heap.size + 1, 9, none⟩ = some (.int .i64 0) := (cell_of_row _ _ _ _ _ _ hzb).trans rfl
  have z10 : w1.cell? ⟨w.heap.size + 1, 10, none⟩ = some (.int .i64 0) := (cell_of_row _ _ _ _ _ _ hzb).trans rfl
  have z11 : w1.cell? ⟨w.heap.size + 1, 11, none⟩ = some (.int .i64 0) := (cell_of_row _ _ _ _ _ _ hzb).trans rfl
  have z12 : w1.cell? ⟨w.heap.size + 1, 12, none⟩ = some (.int .i64 0) := (cell_of_row _ _ _ _ _ _ hzb).trans rfl
  have z13 : w1.cell? ⟨w.heap.size + 1, 13, none⟩ = some (.int .i64 0) := (cell_of_row _ _ _ _ _ _ hzb).trans rfl
  have z14 : w1.cell? ⟨w.heap.size + 1, 14, none⟩ = some (.int .i64 0) := (cell_of_row _ _ _ _ _ _ hzb).trans rfl
  have z15 : w1.cell? ⟨w.heap.size + 1, 15, none⟩ = some (.int .i64 0) := (cell_of_row _ _ _ _ _ _ hzb).trans rfl
  have fk : ∀ j, w1.frozen? ⟨w.heap.size, j, none⟩ = false := fun j => frozen_of_row _ _ _ _ _ hkb
  have fz : ∀ j, w1.frozen? ⟨w.heap.size + 1, j, none⟩ = false := fun j => frozen_of_row _ _ _ _ _ hzb
  have lk := (Array.getElem?_eq_some_iff.1 hkb).1
  have lz := (Array.getElem?_eq_some_iff.1 hzb).1
  have HW1 : Hid (Below w.heap.size w w1) := Lib.hid (nb_trans HX.out hb1)
  clear hb1 hkb hzb hx he HXA HXZ
  go_wp2
  refine bodyPost_ret (v := .tuple #[.agg #[.int .i64 0, .int .i64 0, .int .i64 0, .int .i64 0, .int .i64 0, .int .i64 0, .int .i64 0, .int .i64 0, .int .i64 0, .int .i64 0, .int .i64 0, .int .i64 0, .int .i64 0, .int .i64 0, .int .i64 0, .int .i64 0], .int .i64 5]) (by simp [results, Tryz.results51, go_sem, z0, z1, z2, z3, z4, z5, z6, z7, z8, z9, z10, z11, z12, z13, z14, z15]) rfl ⟨_, rfl, ?_, ?_⟩
  · first | (rw [HV.out.1, HV.out.2]; done) | (rw [HV.out.1, HV.out.2]; rfl)
  · iterate 18 (refine nb_set ?_ _ _ _ (by omega))
    exact HW1.out

set_option maxHeartbeats 16000000 in
theorem resolve_5a (v : Value) (sp : List Hd) (o : Opm) (w : World) (hr : Reads elHand w v sp) (hn : sp.length ≤ 80) (h2 : (o.d == 2) = false) (h3 : (o.d == 3) = false) (h4 : (o.d == 4) = false) (h5 : (o.d == 5) = true) (x1 x2 : Int) (hx : hofH sp (o.a, o.b) = (x1, x2)) (he : hofE sp (o.a, o.b) = 0) (y1 y2 : Int) (hy : hofH sp (o.ta, o.tb) = (y1, y2)) (he2 : hofE sp (o.ta, o.tb) = 0) :
    Calls Tryz.prog 51 #[.agg #[.int .i64 o.d, .int .i64 o.m, .int .i64 (o.f 0), .int .i64 (o.f 1), .int .i64 (o.f 2), .int .i64 (o.f 3), .int .i64 (o.f 4), .int .i64 (o.f 5), .int .i64 (o.f 6), .int .i64 (o.f 7), .int .i64 o.a, .int .i64 o.b, .int .i64 o.ta, .int .i64 o.tb, .int .i64 o.k, .int .i64 o.n], v] w fun e w' => ∃ o', o' = resO sp o ∧ e = .returned (.tuple #[.agg #[.int .i64 o'.d, .int .i64 o'.m, .int .i64 (o'.f 0), .int .i64 (o'.f 1), .int .i64 (o'.f 2), .int .i64 (o'.f 3), .int .i64 (o'.f 4), .int .i64 (o'.f 5), .int .i64 (o'.f 6), .int .i64 (o'.f 7), .int .i64 o'.a, .int .i64 o'.b, .int .i64 o'.ta, .int .i64 o'.tb, .int .i64 o'.k, .int .i64 o'.n], .int .i64 (resE sp o)]) ∧ Below w.heap.size w w' := by
  have HU : usesAt o = true := usesAt_iff.2 (by simp at h5; omega)
  have HU5 : usesTo o = true := by unfold usesTo; simp at h5 ⊢; exact h5
  have HV := Lib.hid (res_two HU HU5 he he2)
  rw [hx, hy] at HV
  clear HU HU5
  have HR := Lib.hid hr
  have HN := Lib.hid hn
  obtain ⟨ra, rc, rfl, -⟩ := hr
  have HX : Hid (Below w.heap.size w ((w.alloc (.cells #[.int .i64 o.d, .int .i64 o.m, .int .i64 (o.f 0), .int .i64 (o.f 1), .int .i64 (o.f 2), .int .i64 (o.f 3), .int .i64 (o.f 4), .int .i64 (o.f 5), .int .i64 (o.f 6), .int .i64 (o.f 7), .int .i64 o.a, .int .i64 o.b, .int .i64 o.ta, .int .i64 o.tb, .int .i64 o.k, .int .i64 o.n] 40)).alloc (.cells #[.int .i64 0, .int .i64 0, .int .i64 0, .int .i64 0, .int .i64 0, .int .i64 0, .int .i64 0, .int .i64 0, .int .i64 0, .int .i64 0, .int .i64 0, .int .i64 0, .int .i64 0, .int .i64 0, .int .i64 0, .int .i64 0] 40))) := Lib.hid (nb_alloc (nb_alloc (Below.refl _ _) _) _)
  have HXA : Hid (((w.alloc (.cells #[.int .i64 o.d, .int .i64 o.m, .int .i64 (o.f 0), .int .i64 (o.f 1), .int .i64 (o.f 2), .int .i64 (o.f 3), .int .i64 (o.f 4), .int .i64 (o.f 5), .int .i64 (o.f 6), .int .i64 (o.f 7), .int .i64 o.a, .int .i64 o.b, .int .i64 o.ta, .int .i64 o.tb, .int .i64 o.k, .int .i64 o.n] 40)).alloc (.cells #[.int .i64 0, .int .i64 0, .int .i64 0, .int .i64 0, .int .i64 0, .int .i64 0, .int .i64 0, .int .i64 0, .int .i64 0, .int .i64 0, .int .i64 0, .int .i64 0, .int .i64 0, .int .i64 0, .int .i64 0, .int .i64 0] 40)).heap[w.heap.size]? = some (.cells #[.int .i64 o.d, .int .i64 o.m, .int .i64 (o.f 0), .int .i64 (o.f 1), .int .i64 (o.f 2), .int .i64 (o.f 3), .int .i64 (o.f 4), .int .i64 (o.f 5), .int .i64 (o.f 6), .int .i64 (o.f 7), .int .i64 o.a, .int .i64 o.b, .int .i64 o.ta, .int .i64 o.tb, .int .i64 o.k, .int .i64 o.n] 40)) := Lib.hid (heap_alloc2_old _ _ _)
  have HXZ : Hid (((w.alloc (.cells #[.int .i64 o.d, .int .i64 o.m, .int .i64 (o.f 0), .int .i64 (o.f 1), .int .i64 (o.f 2), .int .i64 (o.f 3), .int .i64 (o.f 4), .int .i64 (o.f 5), .int .i64 (o.f 6), .int .i64 (o.f 7), .int .i64 o.a, .int .i64 o.b, .int .i64 o.ta, .int .i64 o.tb, .int .i64 o.k, .int .i64 o.n] 40)).alloc (.cells #[.int .i64 0, .int .i64 0, .int .i64 0, .int .i64 0, .int .i64 0, .int .i64 0, .int .i64 0, .int .i64 0, .int .i64 0, .int .i64 0, .int .i64 0, .int .i64 0, .int .i64 0, .int .i64 0, .int .i64 0, .int .i64 0] 40)).heap[w.heap.size + 1]? = some (.cells #[.int .i64 0, .int .i64 0, .int .i64 0, .int .i64 0, .int .i64 0, .int .i64 0, .int .i64 0, .int .i64 0, .int .i64 0, .int .i64 0, .int .i64 0, .int .i64 0, .int .i64 0, .int .i64 0, .int .i64 0, .int .i64 0] 40)) := Lib.hid (heap_alloc2_new _ _ _)
  clear hn
  go_enter Tryz.func51, Tryz.ntmps51
  go_wp2_with fail
  generalize ((w.alloc (.cells #[.int .i64 o.d, .int .i64 o.m, .int .i64 (o.f 0), .int .i64 (o.f 1), .int .i64 (o.f 2), .int .i64 (o.f 3), .int .i64 (o.f 4), .int .i64 (o.f 5), .int .i64 (o.f 6), .int .i64 (o.f 7), .int .i64 o.a, .int .i64 o.b, .int .i64 o.ta, .int .i64 o.tb, .int .i64 o.k, .int .i64 o.n] 40)).alloc (.cells #[.int .i64 0, .int .i64 0, .int .i64 0, .int .i64 0, .int .i64 0, .int .i64 0, .int .i64 0, .int .i64 0, .int .i64 0, .int .i64 0, .int .i64 0, .int .i64 0, .int .i64 0, .int .i64 0, .int .i64 0, .int .i64 0] 40)) = X at *
  refine (handleOf_any _ sp o.a o.b _ (HR.out.later HX.out) HN.out).mono ?_
  rintro e w1 ⟨rfl, hb1⟩
  rw [hx, he]
  have hkb : w1.heap[w.heap.size]? = some (.cells #[.int .i64 o.d, .int .i64 o.m, .int .i64 (o.f 0), .int .i64 (o.f 1), .int .i64 (o.f 2), .int .i64 (o.f 3), .int .i64 (o.f 4), .int .i64 (o.f 5), .int .i64 (o.f 6), .int .i64 (o.f 7), .int .i64 o.a, .int .i64 o.b, .int .i64 o.ta, .int .i64 o.tb, .int .i64 o.k, .int .i64 o.n] 40) := (hb1.block _ (Array.getElem?_eq_some_iff.1 HXA.out).1).trans HXA.out
  have hzb : w1.heap[w.heap.size + 1]? = some (.cells #[.int .i64 0, .int .i64 0, .int .i64 0, .int .i64 0, .int .i64 0, .int .i64 0, .int .i64 0, .int .i64 0, .int .i64 0, .int .i64 0, .int .i64 0, .int .i64 0, .int .i64 0, .int .i64 0, .int .i64 0, .int .i64 0] 40) := (hb1.block _ (Array.getElem?_eq_some_iff.1 HXZ.out).1).trans HXZ.out
  have k0 : w1.cell? ⟨w.heap.size, 0, none⟩ = some (.int .i64 o.d) := (cell_of_row _ _ _ _ _ _ hkb).trans rfl
  have k1 : w1.cell? ⟨w.heap.size, 1, none⟩ = some (.int .i64 o.m) := (cell_of_row _ _ _ _ _ _ hkb).trans rfl
  have k2 : w1.cell? ⟨w.heap.size, 2, none⟩ = some (.int .i64 (o.f 0)) := (cell_of_row _ _ _ _ _ _ hkb).trans rfl
  have k3 : w1.cell? ⟨w.heap.size, 3, none⟩ = some (.int .i64 (o.f 1)) := (cell_of_row _ _ _ _ _ _ hkb).trans rfl
  have k4 : w1.cell? ⟨w.heap.size, 4, none⟩ = some (.int .i64 (o.f 2)) := (cell_of_row _ _ _ _ _ _ hkb).trans rfl
  have k5 : w1.cell? ⟨w.heap.size, 5, none⟩ = some (.int .i64 (o.f 3)) := (cell_of_row _ _ _ _ _ _ hkb).trans rfl
  have k6 : w1.cell? ⟨w.heap.size, 6, none⟩ = some (.int .i64 (o.f 4)) := (cell_of_row _ _ _ _ _ _ hkb).trans rfl
  have k7 : w1.cell? ⟨w.heap.size, 7, none⟩ = some (.int .i64 (o.f 5)) := (cell_of_row _ _ _ _ _ _ hkb).trans rfl
  have k8 : w1.cell? ⟨w.heap.size, 8, none⟩ = some (.int .i64 (o.f 6)) := (cell_of_row _ _ _ _ _ _ hkb).trans rfl
  have k9 : w1.cell? ⟨w.heap.size, 9, none⟩ = some (.int .i64 (o.f 7)) := (cell_of_row _ _ _ _ _ _ hkb).trans rfl
  have k10 : w1.cell? ⟨w.heap.size, 10, none⟩ = some (.int .i64 o.a) := (cell_of_row _ _ _ _ _ _ hkb).trans rfl
  have k11 : w1.cell? ⟨w.heap.size, 11, none⟩ = some (.int .i64 o.b) := (cell_of_row _ _ _ _ _ _ hkb).trans rfl
  have k12 : w1.cell? ⟨w.heap.size, 12, none⟩ = some (.int .i64 o.ta) := (cell_of_row _ _ _ _ _ _ hkb).trans rfl
  have k13 : w1.cell? ⟨w.heap.size, 13, none⟩ = some (.int .i64 o.tb) := (cell_of_row _ _ _ _ _ _ hkb).trans rfl
  have k14 : w1.cell? ⟨w.heap.size, 14, none⟩ = some (.int .i64 o.k) := (cell_of_row _ _ _ _ _ _ hkb).trans rfl
  have k15 : w1.cell? ⟨w.heap.size, 15, none⟩ = some (.int .i64 o.n) := (cell_of_row _ _ _ _ _ _ hkb).trans rfl
  have z0 : w1.cell? ⟨w.heap.size + 1, 0, none⟩ = some (.int .i64 0) := (cell_of_row _ _ _ _ _ _ hzb).trans rfl
  have z1 : w1.cell? ⟨w.heap.size + 1, 1, none⟩ = some (.int .i64 0) := (cell_of_row _ _ _ _ _ _ hzb).trans rfl
  have z2 : w1.cell? ⟨w.heap.size + 1, 2, none⟩ = some (.int .i64 0) := (cell_of_row _ _ _ _ _ _ hzb).trans rfl
  have z3 : w1.cell? ⟨w.heap.size + 1, 3, none⟩ = some (.int .i64 0) := (cell_of_row _ _ _ _ _ _ hzb).trans rfl
  have z4 : w1.cell? ⟨w.heap.size + 1, 4, none⟩ = some (.int .i64 0) := (cell_of_row _ _ _ _ _ _ hzb).trans rfl
  have z5 : w1.cell? ⟨w.heap.size + 1, 5, none⟩ = some (.int .i64 0) := (cell_of_row _ _ _ _ _ _ hzb).trans rfl
  have z6 : w1.cell? ⟨w.heap.size + 1, 6, none⟩ = some (.int .i64 0) := (cell_of_row _ _ _ _ _ _ hzb).trans rfl
  have z7 : w1.cell? ⟨w.heap.size + 1, 7, none⟩ = some (.int .i64 0) := (cell_of_row _ _ _ _ _ _ hzb).trans rfl
  have z8 : w1.cell? ⟨w.heap.size + 1, 8, none⟩ = some (.int .i64 0) := (cell_of_row _ _ _ _ _ _ hzb).trans rfl
  have z9 : w1.cell? ⟨w.heap.size + 1, 9, none⟩ = some (.int .i64 0) := (cell_of_row _ _ _ _ _ _ hzb).trans rfl
  have z10 : w1.cell? ⟨w.heap.size + 1, 10, none⟩ = some (.int .i64 0) := (cell_of_row _ _ _ _ _ _ hzb).trans rfl
  have z11 : w1.cell? ⟨w.heap.size + 1, 11, none⟩ = some (.int .i64 0) := (cell_of_row _ _ _ _ _ _ hzb).trans rfl
  have z12 : w1.cell? ⟨w.heap.size + 1, 12, none⟩ = some (.int .i64 0) := (cell_of_row _ _ _ _ _ _ hzb).trans rfl
  have z13 : w1.cell? ⟨w.heap.size + 1, 13, none⟩ = some (.int .i64 0) := (cell_of_row _ _ _ _ _ _ hzb).trans rfl
  have z14 : w1.cell? ⟨w.heap.size + 1, 14, none⟩ = some (.int .i64 0) := (cell_of_row _ _ _ _ _ _ hzb).trans rfl
  have z15 : w1.cell? ⟨w.heap.size + 1, 15, none⟩ = some (.int .i64 0) := (cell_of_row _ _ _ _ _ _ hzb).trans rfl
  have fk : ∀ j, w1.frozen? ⟨w.heap.size, j, none⟩ = false := fun j => frozen_of_row _ _ _ _ _ hkb
  have fz : ∀ j, w1.frozen? ⟨w.heap.size + 1, j, none⟩ = false := fun j => frozen_of_row _ _ _ _ _ hzb
  have lk := (Array.getElem?_eq_some_iff.1 hkb).1
  have lz := (Array.getElem?_eq_some_iff.1 hzb).1
  have HW1 : Hid (Below w.heap.size w w1) := Lib.hid (nb_trans HX.out hb1)
  have HS1 : Hid (((w1.setCell ⟨w.heap.size, 10, none⟩ (.int .i64 x1)).setCell ⟨w.heap.size, 11, none⟩ (.int .i64 x2)).heap[w.heap.size]? = some (.cells #[.int .i64 o.d, .int .i64 o.m, .int .i64 (o.f 0), .int .i64 (o.f 1), .int .i64 (o.f 2), .int .i64 (o.f 3), .int .i64 (o.f 4), .int .i64 (o.f 5), .int .i64 (o.f 6), .int .i64 (o.f 7), .int .i64 x1, .int .i64 x2, .int .i64 o.ta, .int .i64 o.tb, .int .i64 o.k, .int .i64 o.n] 40)) := Lib.hid (heap_setCell_same _ _ _ _ _ _ (heap_setCell_same _ _ _ _ _ _ hkb))
  have HS2 : Hid (((w1.setCell ⟨w.heap.size, 10, none⟩ (.int .i64 x1)).setCell ⟨w.heap.size, 11, none⟩ (.int .i64 x2)).heap[w.heap.size + 1]? = some (.cells #[.int .i64 0, .int .i64 0, .int .i64 0, .int .i64 0, .int .i64 0, .int .i64 0, .int .i64 0, .int .i64 0, .int .i64 0, .int .i64 0, .int .i64 0, .int .i64 0, .int .i64 0, .int .i64 0, .int .i64 0, .int .i64 0] 40)) := Lib.hid (by rw [heap_setCell_other _ _ _ _ (by simp), heap_setCell_other _ _ _ _ (by simp)]; exact hzb)
  have HS3 : Hid (Below w.heap.size w ((w1.setCell ⟨w.heap.size, 10, none⟩ (.int .i64 x1)).setCell ⟨w.heap.size, 11, none⟩ (.int .i64 x2))) := Lib.hid (nb_set (nb_set HW1.out _ _ _ (by omega)) _ _ _ (by omega))
  clear hb1 hkb hzb hx he HXA HXZ
  go_wp2_with fail
  generalize ((w1.setCell ⟨w.heap.size, 10, none⟩ (.int .i64 x1)).setCell ⟨w.heap.size, 11, none⟩ (.int .i64 x2)) = V at *
  clear k0 k1 k2 k3 k4 k5 k6 k7 k8 k9 k10 k11 k12 k13 k14 k15 z0 z1 z2 z3 z4 z5 z6 z7 z8 z9 z10 z11 z12 z13 z14 z15 fk fz lk lz HW1
  refine (handleOf_any _ sp o.ta o.tb _ (HR.out.later HS3.out) HN.out).mono ?_
  rintro e w2 ⟨rfl, hb2⟩
  rw [hy, he2]
  have hkb : w2.heap[w.heap.size]? = some (.cells #[.int .i64 o.d, .int .i64 o.m, .int .i64 (o.f 0), .int .i64 (o.f 1), .int .i64 (o.f 2), .int .i64 (o.f 3), .int .i64 (o.f 4), .int .i64 (o.f 5), .int .i64 (o.f 6), .int .i64 (o.f 7), .int .i64 x1, .int .i64 x2, .int .i64 o.ta, .int .i64 o.tb, .int .i64 o.k, .int .i64 o.n] 40) := (hb2.block _ (Array.getElem?_eq_some_iff.1 HS1.out).1).trans HS1.out
  have hzb : w2.heap[w.heap.size + 1]? = some (.cells #[.int .i64 0, .int .i64 0, .int .i64 0, .int .i64 0, .int .i64 0, .int .i64 0, .int .i64 0, .int .i64 0, .int .i64 0, .int .i64 0, .int .i64 0, .int .i64 0, .int .i64 0, .int .i64 0, .int .i64 0, .int .i64 0] 40) := (hb2.block _ (Array.getElem?_eq_some_iff.1 HS2.out).1).trans HS2.out
  have k0 : w2.cell? ⟨w.heap.size, 0, none⟩ = some (.int .i64 o.d) := (cell_of_row _ _ _ _ _ _ hkb).trans rfl
  have k1 : w2.cell? ⟨w.heap.size, 1, none⟩ = some (.int .i64 o.m) := (cell_of_row _ _ _ _ _ _ hkb).trans rfl
  have k2 : w2.cell? ⟨w.heap.size, 2, none⟩ = some (.int .i64 (o.f 0)) := (cell_of_row _ _ _ _ _ _ hkb).trans rfl
  have k3 : w2.cell? ⟨w.heap.size, 3, none⟩ = some (.int .i64 (o.f 1)) := (cell_of_row _ _ _ _ _ _ hkb).trans rfl
  have k4 : w2.cell? ⟨w.heap.size, 4, none⟩ = some (.int .i64 (o.f 2)) := (cell_of_row _ _ _ _ _ _ hkb).trans rfl
  have k5 : w2.cell? ⟨w.heap.size, 5, none⟩ = some (.int .i64 (o.f 3)) := (cell_of_row _ _ _ _ _ _ hkb).trans rfl
  have k6 : w2.cell? ⟨w.heap.size, 6, none⟩ = some (.int .i64 (o.f 4)) := (cell_of_row _ _ _ _ _ _ hkb).trans rfl
  have k7 : w2.cell? ⟨w.heap.size, 7, none⟩ = some (.int .i64 (o.f 5)) := (cell_of_row _ _ _ _ _ _ hkb).trans rfl
  have k8 : w2.cell? ⟨w.heap.size, 8, none⟩ = some (.int .i64 (o.f 6)) := (cell_of_row _ _ _ _ _ _ hkb).trans rfl
  have k9 : w2.cell? ⟨w.heap.size, 9, none⟩ = some (.int .i64 (o.f 7)) := (cell_of_row _ _ _ _ _ _ hkb).trans rfl
  have k10 : w2.cell? ⟨w.heap.size, 10, none⟩ = some (.int .i64 x1) := (cell_of_row _ _ _ _ _ _ hkb).trans rfl
  have k11 : w2.cell? ⟨w.heap.size, 11, none⟩ = some (.int .i64 x2) := (cell_of_row _ _ _ _ _ _ hkb).trans rfl
  have k12 : w2.cell? ⟨w.heap.size, 12, none⟩ = some (.int .i64 o.ta) := (cell_of_row _ _ _ _ _ _ hkb).trans rfl
  have k13 : w2.cell? ⟨w.heap.size, 13, none⟩ = some (.int .i64 o.tb) := (cell_of_row _ _ _ _ _ _ hkb).trans rfl
  have k14 : w2.cell? ⟨w.heap.size, 14, none⟩ = some (.int .i64 o.k) := (cell_of_row _ _ _ _ _ _ hkb).trans rfl
  have k15 : w2.cell? ⟨w.heap.size, 15, none⟩ = some (.int .i64 o.n) := (cell_of_row _ _ _ _ _ _ hkb).trans rfl
  have z0 : w2.cell? ⟨w.heap.size + 1, 0, none⟩ = some (.int .i64 0) := (cell_of_row _ _ _ _ _ _ hzb).trans rfl
  have z1 : w2.cell? ⟨w.heap.size + 1, 1, none⟩ = some (.int .i64 0) := (cell_of_row _ _ _ _ _ _ hzb).trans rfl
  have z2 : w2.cell? ⟨w.heap.size + 1, 2, none⟩ = some (.int .i64 0) := (cell_of_row _ _ _ _ _ _ hzb).trans rfl
  have z3 : w2.cell? ⟨w.heap.size + 1, 3, none⟩ = some (.int .i64 0) := (cell_of_row _ _ _ _ _ _ hzb).trans rfl
  have z4 : w2.cell? ⟨w.heap.size + 1, 4, none⟩ = some (.int .i64 0) := (cell_of_row _ _ _ _ _ _ hzb).trans rfl
  have z5 : w2.cell? ⟨w.heap.size + 1, 5, none⟩ = some (.int .i64 0) := (cell_of_row _ _ _ _ _ _ hzb).trans rfl
  have z6 : w2.cell? ⟨w.heap.size + 1, 6, none⟩ = some (.int .i64 0) := (cell_of_row _ _ _ _ _ _ hzb).trans rfl
  have z7 : w2.cell? ⟨w.heap.size + 1, 7, none⟩ = some (.int .i64 0) := (cell_of_row _ _ _ _ _ _ hzb).trans rfl
  have z8 : w2.cell? ⟨w.heap.size + 1, 8, none⟩ = some (.int .i64 0) := (cell_of_row _ _ _ _ _ _ hzb).trans rfl
  have z9 : w2.cell? ⟨w.heap.size + 1, 9, none⟩ = some (.int .i64 0) := (cell_of_row _ _ _ _ _ _ hzb).trans rfl
  have z10 : w2.cell? ⟨w.heap.size + 1, 10, none⟩ = some (.int .i64 0) := (cell_of_row _ _ _ _ _ _ hzb).trans rfl
  have z11 : w2.cell? ⟨w.heap.size + 1, 11, none⟩ = some (.int .i64 0) := (cell_of_row _ _ _ _ _ _ hzb).trans rfl
  have z12 : w2.cell? ⟨w.heap.size + 1, 12, none⟩ = some (.int .i64 0) := (cell_of_row _ _ _ _ _ _ hzb).trans rfl
  have z13 : w2.cell? ⟨w.heap.size + 1, 13, none⟩ = some (.int .i64 0) := (cell_of_row _ _ _ _ _ _ hzb).trans rfl
  have z14 : w2.cell? ⟨w.heap.size + 1, 14, none⟩ = some (.int .i64 0) := (cell_of_row _ _ _ _ _ _ hzb).trans rfl
  have z15 : w2.cell? ⟨w.heap.size + 1, 15, none⟩ = some (.int .i64 0) := (cell_of_row _ _ _ _ _ _ hzb).trans rfl
  have fk : ∀ j, w2.frozen? ⟨w.heap.size, j, none⟩ = false := fun j => frozen_of_row _ _ _ _ _ hkb
  have fz : ∀ j, w2.frozen? ⟨w.heap.size + 1, j, none⟩ = false := fun j => frozen_of_row _ _ _ _ _ hzb
  have lk := (Array.getElem?_eq_some_iff.1 hkb).1
  have lz := (Array.getElem?_eq_some_iff.1 hzb).1
  have HW2 : Hid (Below w.heap.size w w2) := Lib.hid (nb_trans HS3.out hb2)
  clear hb2 hkb hzb HS1 HS2 hy he2
  go_wp2
  refine bodyPost_ret (v := .tuple #[.agg #[.int .i64 o.d, .int .i64 o.m, .int .i64 (o.f 0), .int .i64 (o.f 1), .int .i64 (o.f 2), .int .i64 (o.f 3), .int .i64 (o.f 4), .int .i64 (o.f 5), .int .i64 (o.f 6), .int .i64 (o.f 7), .int .i64 x1, .int .i64 x2, .int .i64 y1, .int .i64 y2, .int .i64 o.k, .int .i64 o.n], .int .i64 0]) (by simp [results, Tryz.results51, go_sem, z0, z1, z2, z3, z4, z5, z6, z7, z8, z9, z10, z11, z12, z13, z14, z15]) rfl ⟨_, rfl, ?_, ?_⟩
  · first | (rw [HV.out.1, HV.out.2]; done) | (rw [HV.out.1, HV.out.2]; rfl)
  · iterate 18 (refine nb_set ?_ _ _ _ (by omega))
    exact HW2.out

set_option maxHeartbeats 16000000 in
theorem resolve_5c (v : Value) (sp : List Hd) (o : Opm) (w : World) (hr : Reads elHand w v sp) (hn : sp.length ≤ 80) (h2 : (o.d == 2) = false) (h3 : (o.d == 3) = false) (h4 : (o.d == 4) = false) (h5 : (o.d == 5) = true) (x1 x2 : Int) (hx : hofH sp (o.a, o.b) = (x1, x2)) (he : hofE sp (o.a, o.b) = 0) (y1 y2 : Int) (hy : hofH sp (o.ta, o.tb) = (y1, y2)) (he2 : hofE sp (o.ta, o.tb) = 5) :
    Calls Tryz.prog 51 #[.agg #[.int .i64 o.d, .int .i64 o.m, .int .i64 (o.f 0), .int .i64 (o.f 1), .int .i64 (o.f 2), .int .i64 (o.f 3), .int .i64 (o.f 4), .int .i64 (o.f 5), .int .i64 (o.f 6), .int .i64 (o.f 7), .int .i64 o.a, .int .i64 o.b, .int .i64 o.ta, .int .i64 o.tb, .int .i64 o.k, .int .i64 o.n], v] w fun e w' => ∃ o', o' = resO sp o ∧ e = .returned (.tuple #[.agg #[.int .i64 o'.d, .int .i64 o'.m, .int .i64 (o'.f 0), .int .i64 (o'.f 1), .int .i64 (o'.f 2), .int .i64 (o'.f 3), .int .i64 (o'.f 4), .int .i64 (o'.f 5), .int .i64 (o'.f 6), .int .i64 (o'.f 7), .int .i64 o'.a, .int .i64 o'.b, .int .i64 o'.ta, .int .i64 o'.tb, .int .i64 o'.k, .int .i64 o'.n], .int .i64 (resE sp o)]) ∧ Below w.heap.size w w' := by
  have HU : usesAt o = true := usesAt_iff.2 (by simp at h5; omega)
  have HU5 : usesTo o = true := by unfold usesTo; simp at h5 ⊢; exact h5
  have HV := Lib.hid (res_bad2 HU HU5 he (by rw [he2]; decide))
  clear HU HU5
  have HR := Lib.hid hr
  have HN := Lib.hid hn
  obtain ⟨ra, rc, rfl, -⟩ := hr
  have HX : Hid (Below w.heap.size w ((w.alloc (.cells #[.int .i64 o.d, .int .i64 o.m, .int .i64 (o.f 0), .int .i64 (o.f 1), .int .i64 (o.f 2), .int .i64 (o.f 3), .int .i64 (o.f 4), .int .i64 (o.f 5), .int .i64 (o.f 6), .int .i64 (o.f 7), .int .i64 o.a, .int .i64 o.b, .int .i64 o.ta, .int .i64 o.tb, .int .i64 o.k, .int .i64 o.n] 40)).alloc (.cells #[.int .i64 0, .int .i64 0, .int .i64 0, .int .i64 0, .int .i64 0, .int .i64 0, .int .i64 0, .int .i64 0, .int .i64 0, .int .i64 0, .int .i64 0, .int .i64 0, .int .i64 0, .int .i64 0, .int .i64 0, .int .i64 0] 40))) := Lib.hid (nb_alloc (nb_alloc (Below.refl _ _) _) _)
  have HXA : Hid (((w.alloc (.cells #[.int .i64 o.d, .int .i64 o.m, .int .i64 (o.f 0), .int .i64 (o.f 1), .int .i64 (o.f 2), .int .i64 (o.f 3), .int .i64 (o.f 4), .int .i64 (o.f 5), .int .i64 (o.f 6), .int .i64 (o.f 7), .int .i64 o.a, .int .i64 o.b, .int .i64 o.ta, .int .i64 o.tb, .int .i64 o.k, .int .i64 o.n] 40)).alloc (.cells #[.int .i64 0, .int .i64 0, .int .i64 0, .int .i64 0, .int .i64 0, .int .i64 0, .int .i64 0, .int .i64 0, .int .i64 0, .int .i64 0, .int .i64 0, .int .i64 0, .int .i64 0, .int .i64 0, .int .i64 0, .int .i64 0] 40)).heap[w.heap.size]? = some (.cells #[.int .i64 o.d, .int .i64 o.m, .int .i64 (o.f 0), .int .i64 (o.f 1), .int .i64 (o.f 2), .int .i64 (o.f 3), .int .i64 (o.f 4), .int .i64 (o.f 5), .int .i64 (o.f 6), .int .i64 (o.f 7), .int .i64 o.a, .int .i64 o.b, .int .i64 o.ta, .int .i64 o.tb, .int .i64 o.k, .int .i64 o.n] 40)) := Lib.hid (heap_alloc2_old _ _ _)
  have HXZ : Hid (((w.alloc (.cells #[.int .i64 o.d, .int .i64 o.m, .int .i64 (o.f 0), .int .i64 (o.f 1), .int .i64 (o.f 2), .int .i64 (o.f 3), .int .i64 (o.f 4), .int .i64 (o.f 5), .int .i64 (o.f 6), .int .i64 (o.f 7), .int .i64 o.a, .int .i64 o.b, .int .i64 o.ta, .int .i64 o.tb, .int .i64 o.k, .int .i64 o.n] 40)).alloc (.cells #[.int .i64 0, .int .i64 0, .int .i64 0, .int .i64 0, .int .i64 0, .int .i64 0, .int .i64 0, .int .i64 0, .int .i64 0, .int .i64 0, .int .i64 0, .int .i64 0, .int .i64 0, .int .i64 0, .int .i64 0, .int .i64 0] 40)).heap[w.heap.size + 1]? = some (.cells #[.int .i64 0, .int .i64 0, .int .i64 0, .int .i64 0, .int .i64 0, .int .i64 0, .int .i64 0, .int .i64 0, .int .i64 0, .int .i64 0, .int .i64 0, .int .i64 0, .int .i64 0, .int .i64 0, .int .i64 0, .int .i64 0] 40)) := Lib.hid (heap_alloc2_new _ _ _)
  clear hn
  go_enter Tryz.func51, Tryz.ntmps51
  go_wp2_with fail
  generalize ((w.alloc (.cells #[.int .i64 o.d, .int .i64 o.m, .int .i64 (o.f 0), .int .i64 (o.f 1), .int .i64 (o.f 2), .int .i64 (o.f 3), .int .i64 (o.f 4), .int .i64 (o.f 5), .int .i64 (o.f 6), .int .i64 (o.f 7), .int .i64 o.a, .int .i64 o.b, .int .i64 o.ta, .int .i64 o.tb, .int .i64 o.k, .int .i64 o.n] 40)).alloc (.cells #[.int .i64 0, .int .i64 0, .int .i64 0, .int .i64 0, .int .i64 0, .int .i64 0, .int .i64 0, .int .i64 0, .int .i64 0, .int .i64 0, .int .i64 0, .int .i64 0, .int .i64 0, .int .i64 0, .int .i64 0, .int .i64 0] 40)) = X at *
  refine (handleOf_any _ sp o.a o.b _ (HR.out.later HX.out) HN.out).mono ?_
  rintro e w1 ⟨rfl, hb1⟩
  rw [hx, he]
  have hkb : w1.heap[w.heap.size]? = some (.cells #[.int .i64 o.d, .int .i64 o.m, .int .i64 (o.f 0), .int .i64 (o.f 1), .int .i64 (o.f 2), .int .i64 (o.f 3), .int .i64 (o.f 4), .int .i64 (o.f 5), .int .i64 (o.f 6), .int .i64 (o.f 7), .int .i64 o.a, .int .i64 o.b, .int .i64 o.ta, .int .i64 o.tb, .int .i64 o.k, .int .i64 o.n] 40) := (hb1.block _ (Array.getElem?_eq_some_iff.1 HXA.out).1).trans HXA.out
  have hzb : w1.heap[w.heap.size + 1]? = some (.cells #[.int .i64 0, .int .i64 0, .int .i64 0, .int .i64 0, .int .i64 0, .int .i64 0, .int .i64 0, .int .i64 0, .int .i64 0, .int .i64 0, .int .i64 0, .int .i64 0, .int .i64 0, .int .i64 0, .int .i64 0, .int .i64 0] 40) := (hb1.block _ (Array.getElem?_eq_some_iff.1 HXZ.out).1).trans HXZ.out
  have k0 : w1.cell? ⟨w.heap.size, 0, none⟩ = some (.int .i64 o.d) := (cell_of_row _ _ _ _ _ _ hkb).trans rfl
  have k1 : w1.cell? ⟨w.heap.size, 1, none⟩ = some (.int .i64 o.m) := (cell_of_row _ _ _ _ _ _ hkb).trans rfl
  have k2 : w1.cell? ⟨w.heap.size, 2, none⟩ = some (.int .i64 (o.f 0)) := (cell_of_row _ _ _ _ _ _ hkb).trans rfl
  have k3 : w1.cell? ⟨w.heap.size, 3, none⟩ = some (.int .i64 (o.f 1)) := (cell_of_row _ _ _ _ _ _ hkb).trans rfl
  have k4 : w1.cell? ⟨w.heap.size, 4, none⟩ = some (.int .i64 (o.f 2)) := (cell_of_row _ _ _ _ _ _ hkb).trans rfl
  have k5 : w1.cell? ⟨w.heap.size, 5, none⟩ = some (.int .i64 (o.f 3)) := (cell_of_row _ _ _ _ _ _ hkb).trans rfl
  have k6 : w1.cell? ⟨w.heap.size, 6, none⟩ = some (.int .i64 (o.f 4)) := (cell_of_row _ _ _ _ _ _ hkb).trans rfl
  have k7 : w1.cell? ⟨w.heap.size, 7, none⟩ = some (.int .i64 (o.f 5)) := (cell_of_row _ _ _ _ _ _ hkb).trans rfl
  have k8 : w1.cell? ⟨w.heap.size, 8, none⟩ = some (.int .i64 (o.f 6)) := (cell_of_row _ _ _ _ _ _ hkb).trans rfl
  have k9 : w1.cell? ⟨w.heap.size, 9, none⟩ = some (.int .i64 (o.f 7)) := (cell_of_row _ _ _ _ _ _ hkb).trans rfl
  have k10 : w1.cell? ⟨w.heap.size, 10, none⟩ = some (.int .i64 o.a) := (cell_of_row _ _ _ _ _ _ hkb).trans rfl
  have k11 : w1.cell? ⟨w.heap.size, 11, none⟩ = some (.int .i64 o.b) := (cell_of_row _ _ _ _ _ _ hkb).trans rfl
  have k12 : w1.cell? ⟨w.heap.size, 12, none⟩ = some (.int .i64 o.ta) := (cell_of_row _ _ _ _ _ _ hkb).trans rfl
  have k13 : w1.cell? ⟨w.heap.size, 13, none⟩ = some (.int .i64 o.tb) := (cell_of_row _ _ _ _ _ _ hkb).trans rfl
  have k14 : w1.cell? ⟨w.heap.size, 14, none⟩ = some (.int .i64 o.k) := (cell_of_row _ _ _ _ _ _ hkb).trans rfl
  have k15 : w1.cell? ⟨w.heap.size, 15, none⟩ = some (.int .i64 o.n) := (cell_of_row _ _ _ _ _ _ hkb).trans rfl
  have z0 : w1.cell? ⟨w.heap.size + 1, 0, none⟩ = some (.int .i64 0) := (cell_of_row _ _ _ _ _ _ hzb).trans rfl
  have z1 : w1.cell? ⟨w.heap.size + 1, 1, none⟩ = some (.int .i64 0) := (cell_of_row _ _ _ _ _ _ hzb).trans rfl
  have z2 : w1.cell? ⟨w.heap.size + 1, 2, none⟩ = some (.int .i64 0) := (cell_of_row _ _ _ _ _ _ hzb).trans rfl
  have z3 : w1.cell? ⟨w.heap.size + 1, 3, none⟩ = some (.int .i64 0) := (cell_of_row _ _ _ _ _ _ hzb).trans rfl
  have z4 : w1.cell? ⟨w.heap.size + 1, 4, none⟩ = some (.int .i64 0) := (cell_of_row _ _ _ _ _ _ hzb).trans rfl
  have z5 : w1.cell? ⟨w.heap.size + 1, 5, none⟩ = some (.int .i64 0) := (cell_of_row _ _ _ _ _ _ hzb).trans rfl
  have z6 : w1.cell? ⟨w.heap.size + 1, 6, none⟩ = some (.int .i64 0) := (cell_of_row _ _ _ _ _ _ hzb).trans rfl
  have z7 : w1.cell? ⟨w.heap.size + 1, 7, none⟩ = some (.int .i64 0) := (cell_of_row _ _ _ _ _ _ hzb).trans rfl
  have z8 : w1.cell? ⟨w.heap.size + 1, 8, none⟩ = some (.int .i64 0) := (cell_of_row _ _ _ _ _ _ hzb).trans rfl
  have z9 : w1.cell? ⟨w.heap.size + 1, 9, none⟩ = some (.int .i64 0) := (cell_of_row _ _ _ _ _ _ hzb).trans rfl
  have z10 : w1.cell? ⟨w.heap.size + 1, 10, none⟩ = some (.int .i64 0) := (cell_of_row _ _ _ _ _ _ hzb).trans rfl
  have z11 : w1.cell? ⟨w.heap.size + 1, 11, none⟩ = some (.int .i64 0) := (cell_of_row _ _ _ _ _ _ hzb).trans rfl
  have z12 : w1.cell? ⟨w.heap.size + 1, 12, none⟩ = some (.int .i64 0) := (cell_of_row _ _ _ _ _ _ hzb).trans rfl
  have z13 : w1.cell? ⟨w.heap.size + 1, 13, none⟩ = some (.int .i64 0) := (cell_of_row _ _ _ _ _ _ hzb).trans rfl
  have z14 : w1.cell? ⟨w.heap.size + 1, 14, none⟩ = some (.int .i64 0) := (cell_of_row _ _ _ _ _ _ hzb).trans rfl
  have z15 : w1.cell? ⟨w.heap.size + 1, 15, none⟩ = some (.int .i64 0) := (cell_of_row _ _ _ _ _ _ hzb).trans rfl
  have fk : ∀ j, w1.frozen? ⟨w.heap.size, j, none⟩ = false := fun j => frozen_of_row _ _ _ _ _ hkb
  have fz : ∀ j, w1.frozen? ⟨w.heap.size + 1, j, none⟩ = false := fun j => frozen_of_row _ _ _ _ _ hzb
  have lk := (Array.getElem?_eq_some_iff.1 hkb).1
  have lz := (Array.getElem?_eq_some_iff.1 hzb).1
  have HW1 : Hid (Below w.heap.size w w1) := Lib.hid (nb_trans HX.out hb1)
  have HS1 : Hid (((w1.setCell ⟨w.heap.size, 10, none⟩ (.int .i64 x1)).setCell ⟨w.heap.size, 11, none⟩ (.int .i64 x2)).heap[w.heap.size]? = some (.cells #[.int .i64 o.d, .int .i64 o.m, .int .i64 (o.f 0), .int .i64 (o.f 1), .int .i64 (o.f 2), .int .i64 (o.f 3), .int .i64 (o.f 4), .int .i64 (o.f 5), .int .i64 (o.f 6), .int .i64 (o.f 7), .int .i64 x1, .int .i64 x2, .int .i64 o.ta, .int .i64 o.tb, .int .i64 o.k, .int .i64 o.n] 40)) := Lib.hid (heap_setCell_same _ _ _ _ _ _ (heap_setCell_same _ _ _ _ _ _ hkb))
  have HS2 : Hid (((w1.setCell ⟨w.heap.size, 10, none⟩ (.int .i64 x1)).setCell ⟨w.heap.size, 11, none⟩ (.int .i64 x2)).heap[w.heap.size + 1]? = some (.cells #[.int .i64 0, .int .i64 0, .int .i64 0, .int .i64 0, .int .i64 0, .int .i64 0, .int .i64 0, .int .i64 0, .int .i64 0, .int .i64 0, .int .i64 0, .int .i64 0, .int .i64 0, .int .i64 0, .int .i64 0, .int .i64 0] 40)) := Lib.hid (by rw [heap_setCell_other _ _ _ _ (by simp), heap_setCell_other _ _ _ _ (by simp)]; exact hzb)
  have HS3 : Hid (Below w.heap.size w ((w1.setCell ⟨w.heap.size, 10, none⟩ (.int .i64 x1)).setCell ⟨w.heap.size, 11, none⟩ (.int .i64 x2))) := Lib.hid (nb_set (nb_set HW1.out _ _ _ (by omega)) _ _ _ (by omega))
  clear hb1 hkb hzb hx he HXA HXZ
  go_wp2_with fail
  generalize ((w1.setCell ⟨w.heap.size, 10, none⟩ (.int .i64 x1)).setCell ⟨w.heap.size, 11, none⟩ (.int .i64 x2)) = V at *
  clear k0 k1 k2 k3 k4 k5 k6 k7 k8 k9 k10 k11 k12 k13 k14 k15 z0 z1 z2 z3 z4 z5 z6 z7 z8 z9 z10 z11 z12 z13 z14 z15 fk fz lk lz HW1
  refine (handleOf_any _ sp o.ta o.tb _ (HR.out.later HS3.out) HN.out).mono ?_
  rintro e w2 ⟨rfl, hb2⟩
  rw [hy, he2]
  have hkb : w2.heap[w.heap.size]? = some (.cells #[.int .i64 o.d, .int .i64 o.m, .int .i64 (o.f 0), .int .i64 (o.f 1), .int .i64 (o.f 2), .int .i64 (o.f 3), .int .i64 (o.f 4), .int .i64 (o.f 5), .int .i64 (o.f 6), .int .i64 (o.f 7), .int .i64 x1, .int .i64 x2, .int .i64 o.ta, .int .i64 o.tb, .int .i64 o.k, .int .i64 o.n] 40) := (hb2.block _ (Array.getElem?_eq_some_iff.1 HS1.out).1).trans HS1.out
  have hzb : w2.heap[w.heap.size + 1]? = some (.cells #[.int .i64 0, .int .i64 0, .int .i64 0, .int .i64 0, .int .i64 0, .int .i64 0, .int .i64 0, .int .i64 0, .int .i64 0, .int .i64 0, .int .i64 0, .int .i64 0, .int .i64 0, .int .i64 0, .int .i64 0, .int .i64 0] 40) := (hb2.block _ (Array.getElem?_eq_some_iff.1 HS2.out).1).trans HS2.out
  have k0 : w2.cell? ⟨w.heap.size, 0, none⟩ = some (.int .i64 o.d) := (cell_of_row _ _ _ _ _ _ hkb).trans rfl
  have k1 : w2.cell? ⟨w.heap.size, 1, none⟩ = some (.int .i64 o.m) := (cell_of_row _ _ _ _ _ _ hkb).trans rfl
  have k2 : w2.cell? ⟨w.heap.size, 2, none⟩ = some (.int .i64 (o.f 0)) := (cell_of_row _ _ _ _ _ _ hkb).trans rfl
  have k3 : w2.cell? ⟨w.heap.size, 3, none⟩ = some (.int .i64 (o.f 1)) := (cell_of_row _ _ _ _ _ _ hkb).trans rfl
  have k4 : w2.cell? ⟨w.heap.size, 4, none⟩ = some (.int .i64 (o.f 2)) := (cell_of_row _ _ _ _ _ _ hkb).trans rfl
  have k5 : w2.cell? ⟨w.heap.size, 5, none⟩ = some (.int .i64 (o.f 3)) := (cell_of_row _ _ _ _ _ _ hkb).trans rfl
  have k6 : w2.cell? ⟨w.heap.size, 6, none⟩ = some (.int .i64 (o.f 4)) := (cell_of_row _ _ _ _ _ _ hkb).trans rfl
  have k7 : w2.cell? ⟨w.heap.size, 7, none⟩ = some (.int .i64 (o.f 5)) := (cell_of_row _ _ _ _ _ _ hkb).trans rfl
  have k8 : w2.cell? ⟨w.heap.size, 8, none⟩ = some (.int .i64 (o.f 6)) := (cell_of_row _ _ _ _ _ _ hkb).trans rfl
  have k9 : w2.cell? ⟨w.heap.size, 9, none⟩ = some (.int .i64 (o.f 7)) := (cell_of_row _ _ _ _ _ _ hkb).trans rfl
  have k10 : w2.cell? ⟨w.heap.size, 10, none⟩ = some (.int .i64 x1) := (cell_of_row _ _ _ _ _ _ hkb).trans rfl
  have k11 : w2.cell? ⟨w.heap.size, 11, none⟩ = some (.int .i64 x2) := (cell_of_row _ _ _ _ _ _ hkb).trans rfl
  have k12 : w2.cell? ⟨w.heap.size, 12, none⟩ = some (.int .i64 o.ta) := (cell_of_row _ _ _ _ _ _ hkb).trans rfl
  have k13 : w2.cell? ⟨w.heap.size, 13, none⟩ = some (.int .i64 o.tb) := (cell_of_row _ _ _ _ _ _ hkb).trans rfl
  have k14 : w2.cell? ⟨w.heap.size, 14, none⟩ = some (.int .i64 o.k) := (cell_of_row _ _ _ _ _ _ hkb).trans rfl
  have k15 : w2.cell? ⟨w.heap.size, 15, none⟩ = some (.int .i64 o.n) := (cell_of_row _ _ _ _ _ _ hkb).trans rfl
  have z0 : w2.cell? ⟨w.heap.size + 1, 0, none⟩ = some (.int .i64 0) := (cell_of_row _ _ _ _ _ _ hzb).trans rfl
  have z1 : w2.cell? ⟨w.heap.size + 1, 1, none⟩ = some (.int .i64 0) := (cell_of_row _ _ _ _ _ _ hzb).trans rfl
  have z2 : w2.cell? ⟨w.heap.size + 1, 2, none⟩ = some (.int .i64 0) := (cell_of_row _ _ _ _ _ _ hzb).trans rfl
  have z3 : w2.cell? ⟨w.heap.size + 1, 3, none⟩ = some (.int .i64 0) := (cell_of_row _ _ _ _ _ _ hzb).trans rfl
  have z4 : w2.cell? ⟨w.heap.size + 1, 4, none⟩ = some (.int .i64 0) := (cell_of_row _ _ _ _ _ _ hzb).trans rfl
  have z5 : w2.cell? ⟨w.heap.size + 1, 5, none⟩ = some (.int .i64 0) := (cell_of_row _ _ _ _ _ _ hzb).trans rfl
  have z6 : w2.cell? ⟨w.heap.size + 1, 6, none⟩ = some (.int .i64 0) := (cell_of_row _ _ _ _ _ _ hzb).trans rfl
  have z7 : w2.cell? ⟨w.heap.size + 1, 7, none⟩ = some (.int .i64 0) := (cell_of_row _ _ _ _ _ _ hzb).trans rfl
  have z8 : w2.cell? ⟨w.heap.size + 1, 8, none⟩ = some (.int .i64 0) := (cell_of_row _ _ _ _ _ _ hzb).trans rfl
  have z9 : w2.cell? ⟨w.heap.size + 1, 9, none⟩ = some (.int .i64 0) := (cell_of_row _ _ _ _ _ _ hzb).trans rfl
  have z10 : w2.cell? ⟨w.heap.size + 1, 10, none⟩ = some (.int .i64 0) := (cell_of_row _ _ _ _ _ _ hzb).trans rfl
  have z11 : w2.cell? ⟨w.heap.size + 1, 11, none⟩ = some (.int .i64 0) := (cell_of_row _ _ _ _ _ _ hzb).trans rfl
  have z12 : w2.cell? ⟨w.heap.size + 1, 12, none⟩ = some (.int .i64 0) := (cell_of_row _ _ _ _ _ _ hzb).trans rfl
  have z13 : w2.cell? ⟨w.heap.size + 1, 13, none⟩ = some (.int .i64 0) := (cell_of_row _ _ _ _ _ _ hzb).trans rfl
  have z14 : w2.cell? ⟨w.heap.size + 1, 14, none⟩ = some (.int .i64 0) := (cell_of_row _ _ _ _ _ _ hzb).trans rfl
  have z15 : w2.cell? ⟨w.heap.size + 1, 15, none⟩ = some (.int .i64 0) := (cell_of_row _ _ _ _ _ _ hzb).trans rfl
  have fk : ∀ j, w2.frozen? ⟨w.heap.size, j, none⟩ = false := fun j => frozen_of_row _ _ _ _ _ hkb
  have fz : ∀ j, w2.frozen? ⟨w.heap.size + 1, j, none⟩ = false := fun j => frozen_of_row _ _ _ _ _ hzb
  have lk := (Array.getElem?_eq_some_iff.1 hkb).1
  have lz := (Array.getElem?_eq_some_iff.1 hzb).1
  have HW2 : Hid (Below w.heap.size w w2) := Lib.hid (nb_trans HS3.out hb2)
  clear hb2 hkb hzb HS1 HS2 hy he2
  go_wp2
  refine bodyPost_ret (v := .tuple #[.agg #[.int .i64 0, .int .i64 0, .int .i64 0, .int .i64 0, .int .i64 0, .int .i64 0, .int .i64 0, .int .i64 0, .int .i64 0, .int .i64 0, .int .i64 0, .int .i64 0, .int .i64 0, .int .i64 0, .int .i64 0, .int .i64 0], .int .i64 5]) (by simp [results, Tryz.results51, go_sem, z0, z1, z2, z3, z4, z5, z6, z7, z8, z9, z10, z11, z12, z13, z14, z15]) rfl ⟨_, rfl, ?_, ?_⟩
  · first | (rw [HV.out.1, HV.out.2]; done) | (rw [HV.out.1, HV.out.2]; rfl)
  · iterate 18 (refine nb_set ?_ _ _ _ (by omega))
    exact HW2.out

end Go.Proofs.YtbdkmmbhblpjoaaGreat

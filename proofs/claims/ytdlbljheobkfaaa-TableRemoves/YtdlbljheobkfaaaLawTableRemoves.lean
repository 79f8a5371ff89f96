/- A removed row is gone, the last row takes its place, and all other rows keep their places: the statement TableRemoves. No condition. -/
import Derived.Test.YtdlbljheobkfaaaOpen
import Derived.Test.YtdlbljheobkfaaaKeepTabled
import Derived.Test.YtdlbljheobkfaaaKeepFilled
import Derived.Test.YtdlbljheobkfaaaRemoveModel
import Derived.Test.YtdlbljheobkfaaaRefTable3
import Derived.Test.YtdlbljheobkfaaaEq8
import Derived.Deep.RegionHeld3
namespace Go.Proofs.Ytdlbljheobkfaaa
open Go.ChangeShapes Go.WideShapes Go.ChangeAt Go.RowKit
set_option linter.unusedVariables false

set_option maxRecDepth 100000 in
set_option maxHeartbeats 8000000 in
theorem tableRemoves_walk (a0 : Int) (i0 : I64 a0) (u1 : Value) (z1 : List Int)  (a2 : Int) (i2 : I64 a2) (w : World) (i1 : Ints w u1 z1) :
    Calls Try.prog 5 #[.int .i64 a0, u1, .int .i64 a2] w fun e w' => e = .returned (.bool true) ∧ Below w.heap.size w w' := by
  have HI1 := Lib.hid i1
  have hmm : 0 ≤ a0 % 256 ∧ a0 % 256 ≤ 255 := by omega
  obtain ⟨m0, m1⟩ := hmm
  clear i1 i0
  go_enter Try.func5, Try.ntmps5
  go_wp2_with fail
  refine (tabled_any _).mono ?_
  rintro e w1 ⟨rfl, hb1⟩
  have HB1 := Lib.hid hb1
  clear hb1
  go_wp2_with fail
  refine (filled_any a0 u1 z1 _ (HI1.out.later HB1.out)).mono ?_
  rintro e w2 ⟨p, u, rfl, F, hO, hOw, hap⟩
  generalize a0 % 256 = m at *
  have hn60 := cut60_le z1.length
  generalize cut60 z1.length = n at *
  have hlen : (fillL m z1 n).length = n := fillL_len _ _ _
  have hok := fillL_ok m0 m1 z1 n
  generalize fillL m z1 n = rows at *
  have HLEN := Lib.hid hlen
  have HOK := Lib.hid hok
  have HO := Lib.hid hO
  have HOW := Lib.hid hOw
  have HAP := Lib.hid hap
  have HB2 : Hid (Below w.heap.size w w2) := Lib.hid (nb_trans HB1.out hO.below)
  have HW1 : Hid (w.heap.size ≤ w1.heap.size) := Lib.hid HB1.out.size
  clear hO hap hok
  rcases Nat.eq_zero_or_pos n with hn0 | hpos
  · subst hn0
    obtain ⟨a, cap, rfl, -⟩ := hOw.reads
    rw [hlen]
    clear hOw hlen
    have HRO := Lib.hid (rowR_out (rows := rows) (i := 0) (by rw [HLEN.out]; rfl))
    go_wp2_with fail
    refine (tabRemove_any p F m rows 0 rowZ 5 _ HO.out.t HOK.out HRO.out.1 HRO.out.2).mono ?_
    rintro e w3 ⟨rfl, F3, ht3, hk3, hm3⟩
    have HB3 := Lib.hid (nb_trans HB1.out (HO.out.moved ht3 hk3 hm3).below)
    clear ht3 hk3 hm3
    go_wp2
    go_ret
    exact ⟨rfl, nb_alloc HB3.out _⟩
  · obtain ⟨n', rfl⟩ : ∃ n', n = n' + 1 := ⟨n - 1, by omega⟩
    obtain ⟨g, cap, rfl, hgB, hgl, hlc, hcm, -, -⟩ := hOw.at11 (by omega)
    rw [hlen] at hlc ⊢
    clear hOw hlen
    unfold maxLen at hcm
    have hrb : 0 ≤ a2 % ((n' : Int) + 1) ∧ a2 % ((n' : Int) + 1) < (n' : Int) + 1 := ⟨Int.emod_nonneg _ (by omega), Int.emod_lt_of_pos _ (by omega)⟩
    obtain ⟨j, hj⟩ := Int.eq_ofNat_of_zero_le hrb.1
    rw [hj] at hrb
    have HJE := Lib.hid hj
    clear hj
    have hjn : j < n' + 1 := by omega
    clear hrb
    have HJ : Hid (j < rows.length) := Lib.hid (by rw [HLEN.out]; exact hjn)
    generalize hr : rows.getD j rowZ = r at *
    have HR := Lib.hid hr
    have HRI := Lib.hid (rowR_in HJ.out)
    rw [hr] at HRI
    have HRL : Hid (remL rows j = rmL rows j rowZ) := Lib.hid (by rw [remL, show inB (j : Int) 0 (rows.length - 1) = true by have := HJ.out; simp [inB]; omega, if_pos rfl, Int.toNat_natCast])
    clear hr
    go_wp2_with fail
    refine (rest_any _ _ _ (by omega) (by omega)).mono ?_
    rintro e w' ⟨rfl, rfl⟩
    rw [HJE.out]
    go_wp2_with fail
    refine (tabRemove_any p F m rows j r 0 _ HO.out.t HOK.out HRI.out.1 HRI.out.2).mono ?_
    rintro e w3 ⟨rfl, F3, ht3, hk3, hm3⟩
    rw [HRL.out] at ht3
    have hO3 := HO.out.moved ht3 hk3 hm3
    have hnF : ¬ F3 g := fun f => (hm3 g f).elim (HAP.out g rfl) (fun h => by omega)
    have hOw3 := HOW.out.kept hk3 HAP.out
    have hBA : Below w3.heap.size w3 (w3.alloc (.cells #[.int .i64 r.s, .int .i64 r.g, .int .i64 r.m, .int .i64 (r.f 0), .int .i64 (r.f 1), .int .i64 (r.f 2), .int .i64 (r.f 3), .int .i64 (r.f 4), .int .i64 (r.f 5), .int .i64 (r.f 6), .int .i64 (r.f 7)] 41)) := nb_alloc (Below.refl _ _) _
    have HO3 := Lib.hid (hO3.later hBA)
    have HOW3 := Lib.hid (hOw3.later hBA)
    have HNF := Lib.hid hnF
    have HRB : Hid ((w3.alloc (.cells #[.int .i64 r.s, .int .i64 r.g, .int .i64 r.m, .int .i64 (r.f 0), .int .i64 (r.f 1), .int .i64 (r.f 2), .int .i64 (r.f 3), .int .i64 (r.f 4), .int .i64 (r.f 5), .int .i64 (r.f 6), .int .i64 (r.f 7)] 41)).heap[w3.heap.size]? = some (.cells #[.int .i64 r.s, .int .i64 r.g, .int .i64 r.m, .int .i64 (r.f 0), .int .i64 (r.f 1), .int .i64 (r.f 2), .int .i64 (r.f 3), .int .i64 (r.f 4), .int .i64 (r.f 5), .int .i64 (r.f 6), .int .i64 (r.f 7)] 41)) := Lib.hid (heap_alloc_new w3 _)
    clear ht3 hk3 hm3 hO3 hOw3 hBA hnF
    have HL3 : Hid ((rmL rows j rowZ).length = n') := Lib.hid (by rw [rmL_len, HLEN.out]; rfl)
    have HOK3 := Lib.hid (HOK.out.rm j)
    go_wp2_with fail
    have HKK : Hid (∀ x, Below (w3.alloc (.cells #[.int .i64 r.s, .int .i64 r.g, .int .i64 r.m, .int .i64 (r.f 0), .int .i64 (r.f 1), .int .i64 (r.f 2), .int .i64 (r.f 3), .int .i64 (r.f 4), .int .i64 (r.f 5), .int .i64 (r.f 6), .int .i64 (r.f 7)] 41)).heap.size (w3.alloc (.cells #[.int .i64 r.s, .int .i64 r.g, .int .i64 r.m, .int .i64 (r.f 0), .int .i64 (r.f 1), .int .i64 (r.f 2), .int .i64 (r.f 3), .int .i64 (r.f 4), .int .i64 (r.f 5), .int .i64 (r.f 6), .int .i64 (r.f 7)] 41)) x → (x.cell? ⟨w3.heap.size, 0, none⟩ = some (.int .i64 r.s) ∧ x.cell? ⟨w3.heap.size, 1, none⟩ = some (.int .i64 r.g) ∧ x.cell? ⟨w3.heap.size, 2, none⟩ = some (.int .i64 r.m) ∧ x.cell? ⟨w3.heap.size, 3, none⟩ = some (.int .i64 (r.f 0)) ∧ x.cell? ⟨w3.heap.size, 4, none⟩ = some (.int .i64 (r.f 1)) ∧ x.cell? ⟨w3.heap.size, 5, none⟩ = some (.int .i64 (r.f 2)) ∧ x.cell? ⟨w3.heap.size, 6, none⟩ = some (.int .i64 (r.f 3)) ∧ x.cell? ⟨w3.heap.size, 7, none⟩ = some (.int .i64 (r.f 4)) ∧ x.cell? ⟨w3.heap.size, 8, none⟩ = some (.int .i64 (r.f 5)) ∧ x.cell? ⟨w3.heap.size, 9, none⟩ = some (.int .i64 (r.f 6)) ∧ x.cell? ⟨w3.heap.size, 10, none⟩ = some (.int .i64 (r.f 7)) ∧ x.cell? ⟨g, j * 11, none⟩ = some (.int .i64 r.s) ∧ x.cell? ⟨g, j * 11 + 1, none⟩ = some (.int .i64 r.g) ∧ x.cell? ⟨g, j * 11 + 2, none⟩ = some (.int .i64 r.m) ∧ x.cell? ⟨g, j * 11 + 3, none⟩ = some (.int .i64 (r.f 0)) ∧ x.cell? ⟨g, j * 11 + 4, none⟩ = some (.int .i64 (r.f 1)) ∧ x.cell? ⟨g, j * 11 + 5, none⟩ = some (.int .i64 (r.f 2)) ∧ x.cell? ⟨g, j * 11 + 6, none⟩ = some (.int .i64 (r.f 3)) ∧ x.cell? ⟨g, j * 11 + 7, none⟩ = some (.int .i64 (r.f 4)) ∧ x.cell? ⟨g, j * 11 + 8, none⟩ = some (.int .i64 (r.f 5)) ∧ x.cell? ⟨g, j * 11 + 9, none⟩ = some (.int .i64 (r.f 6)) ∧ x.cell? ⟨g, j * 11 + 10, none⟩ = some (.int .i64 (r.f 7)))) := Lib.hid (fun x hx => by
      have h1 : x.heap[w3.heap.size]? = some (.cells #[.int .i64 r.s, .int .i64 r.g, .int .i64 r.m, .int .i64 (r.f 0), .int .i64 (r.f 1), .int .i64 (r.f 2), .int .i64 (r.f 3), .int .i64 (r.f 4), .int .i64 (r.f 5), .int .i64 (r.f 6), .int .i64 (r.f 7)] 41) := by rw [hx.block _ (Array.getElem?_eq_some_iff.1 HRB.out).1]; exact HRB.out
      obtain ⟨g', cap', e', _, _, _, _, _, hcc⟩ := (HOW3.out.later hx).at11 (by rw [HLEN.out]; omega)
      simp only [Value.slice.injEq, Option.some.injEq, Addr.mk.injEq, and_true] at e'
      obtain ⟨rfl, -, -⟩ := e'
      have h2 := hcc j HJ.out
      rw [HR.out] at h2
      exact ⟨by rw [cell_of_row _ _ _ _ _ _ h1]; rfl, by rw [cell_of_row _ _ _ _ _ _ h1]; rfl, by rw [cell_of_row _ _ _ _ _ _ h1]; rfl, by rw [cell_of_row _ _ _ _ _ _ h1]; rfl, by rw [cell_of_row _ _ _ _ _ _ h1]; rfl, by rw [cell_of_row _ _ _ _ _ _ h1]; rfl, by rw [cell_of_row _ _ _ _ _ _ h1]; rfl, by rw [cell_of_row _ _ _ _ _ _ h1]; rfl, by rw [cell_of_row _ _ _ _ _ _ h1]; rfl, by rw [cell_of_row _ _ _ _ _ _ h1]; rfl, by rw [cell_of_row _ _ _ _ _ _ h1]; rfl, h2 0 (by decide), h2 1 (by decide), h2 2 (by decide), h2 3 (by decide), h2 4 (by decide), h2 5 (by decide), h2 6 (by decide), h2 7 (by decide), h2 8 (by decide), h2 9 (by decide), h2 10 (by decide)⟩)
    obtain ⟨k0, k1, k2, k3, k4, k5, k6, k7, k8, k9, k10, d0, d1, d2, d3, d4, d5, d6, d7, d8, d9, d10⟩ := HKK.out _ (Below.refl _ _)
    have heq8 := eq8_run r.f
    have hne : ((n' : Int) != (n' : Int)) = false := by simp
    have him : (j : Int) < (n' : Int) + 1 := by omega
    have hwn : IntKind.i64.wrap (n' : Int) = (n' : Int) := IntWalk.i64_in _ (by omega)
    have hgW : g < (w3.alloc (.cells #[.int .i64 r.s, .int .i64 r.g, .int .i64 r.m, .int .i64 (r.f 0), .int .i64 (r.f 1), .int .i64 (r.f 2), .int .i64 (r.f 3), .int .i64 (r.f 4), .int .i64 (r.f 5), .int .i64 (r.f 6), .int .i64 (r.f 7)] 41)).heap.size := HOW3.out.lt rfl
    have hrW : w3.heap.size < (w3.alloc (.cells #[.int .i64 r.s, .int .i64 r.g, .int .i64 r.m, .int .i64 (r.f 0), .int .i64 (r.f 1), .int .i64 (r.f 2), .int .i64 (r.f 3), .int .i64 (r.f 4), .int .i64 (r.f 5), .int .i64 (r.f 6), .int .i64 (r.f 7)] 41)).heap.size := (Array.getElem?_eq_some_iff.1 HRB.out).1
    generalize w3.alloc (.cells #[.int .i64 r.s, .int .i64 r.g, .int .i64 r.m, .int .i64 (r.f 0), .int .i64 (r.f 1), .int .i64 (r.f 2), .int .i64 (r.f 3), .int .i64 (r.f 4), .int .i64 (r.f 5), .int .i64 (r.f 6), .int .i64 (r.f 7)] 41) = W at *
    go_region_held3 (fun x => (x.cell? ⟨w3.heap.size, 0, none⟩ = some (.int .i64 r.s) ∧ x.cell? ⟨w3.heap.size, 1, none⟩ = some (.int .i64 r.g) ∧ x.cell? ⟨w3.heap.size, 2, none⟩ = some (.int .i64 r.m) ∧ x.cell? ⟨w3.heap.size, 3, none⟩ = some (.int .i64 (r.f 0)) ∧ x.cell? ⟨w3.heap.size, 4, none⟩ = some (.int .i64 (r.f 1)) ∧ x.cell? ⟨w3.heap.size, 5, none⟩ = some (.int .i64 (r.f 2)) ∧ x.cell? ⟨w3.heap.size, 6, none⟩ = some (.int .i64 (r.f 3)) ∧ x.cell? ⟨w3.heap.size, 7, none⟩ = some (.int .i64 (r.f 4)) ∧ x.cell? ⟨w3.heap.size, 8, none⟩ = some (.int .i64 (r.f 5)) ∧ x.cell? ⟨w3.heap.size, 9, none⟩ = some (.int .i64 (r.f 6)) ∧ x.cell? ⟨w3.heap.size, 10, none⟩ = some (.int .i64 (r.f 7)) ∧ x.cell? ⟨g, j * 11, none⟩ = some (.int .i64 r.s) ∧ x.cell? ⟨g, j * 11 + 1, none⟩ = some (.int .i64 r.g) ∧ x.cell? ⟨g, j * 11 + 2, none⟩ = some (.int .i64 r.m) ∧ x.cell? ⟨g, j * 11 + 3, none⟩ = some (.int .i64 (r.f 0)) ∧ x.cell? ⟨g, j * 11 + 4, none⟩ = some (.int .i64 (r.f 1)) ∧ x.cell? ⟨g, j * 11 + 5, none⟩ = some (.int .i64 (r.f 2)) ∧ x.cell? ⟨g, j * 11 + 6, none⟩ = some (.int .i64 (r.f 3)) ∧ x.cell? ⟨g, j * 11 + 7, none⟩ = some (.int .i64 (r.f 4)) ∧ x.cell? ⟨g, j * 11 + 8, none⟩ = some (.int .i64 (r.f 5)) ∧ x.cell? ⟨g, j * 11 + 9, none⟩ = some (.int .i64 (r.f 6)) ∧ x.cell? ⟨g, j * 11 + 10, none⟩ = some (.int .i64 (r.f 7)))) (first | go_keep | exact HKK.out _ HX1.out) (first
      | ((go_at_call 20; refine (tabHandles_any p F3 m (rmL rows j rowZ) _ (HO3.out.later (Below.refl _ _).drew).t (by rw [HL3.out]; omega)).mono ?_; rintro e x1 ⟨v1, rfl, ho1, hb1'⟩; have HX1 : Hid (Below W.heap.size W x1) := Lib.hid (nb_trans (Below.refl _ _).drew hb1'); obtain ⟨a1, cc1, rfl, -⟩ := ho1.reads; rw [hsOf_len, HL3.out]; clear ho1 hb1')))
    clear heq8 hne k0 k1 k2 k3 k4 k5 k6 k7 k8 k9 k10 d0 d1 d2 d3 d4 d5 d6 d7 d8 d9 d10
    have hOX := HO3.out.later HX1.out
    have hWX := HOW3.out.later HX1.out
    obtain ⟨g', cap', e', _, hgx, _, _, hfz, hcc⟩ := hWX.at11 (by rw [HLEN.out]; omega)
    simp only [Value.slice.injEq, Option.some.injEq, Addr.mk.injEq, and_true] at e'
    obtain ⟨rfl, -, -⟩ := e'
    generalize hlast : rows.getD (rows.length - 1) rowZ = last at *
    have hci := hcc j HJ.out
    have hcl := hcc (rows.length - 1) (by rw [HLEN.out]; omega)
    rw [hlast] at hcl
    rw [HR.out] at hci
    rw [show rows.length - 1 = n' by rw [HLEN.out]; rfl] at hcl
    have d0 : x1.cell? ⟨g, j * 11, none⟩ = some (.int .i64 r.s) := hci 0 (by decide)
    have d1 : x1.cell? ⟨g, j * 11 + 1, none⟩ = some (.int .i64 r.g) := hci 1 (by decide)
    have d2 : x1.cell? ⟨g, j * 11 + 2, none⟩ = some (.int .i64 r.m) := hci 2 (by decide)
    have d3 : x1.cell? ⟨g, j * 11 + 3, none⟩ = some (.int .i64 (r.f 0)) := hci 3 (by decide)
    have d4 : x1.cell? ⟨g, j * 11 + 4, none⟩ = some (.int .i64 (r.f 1)) := hci 4 (by decide)
    have d5 : x1.cell? ⟨g, j * 11 + 5, none⟩ = some (.int .i64 (r.f 2)) := hci 5 (by decide)
    have d6 : x1.cell? ⟨g, j * 11 + 6, none⟩ = some (.int .i64 (r.f 3)) := hci 6 (by decide)
    have d7 : x1.cell? ⟨g, j * 11 + 7, none⟩ = some (.int .i64 (r.f 4)) := hci 7 (by decide)
    have d8 : x1.cell? ⟨g, j * 11 + 8, none⟩ = some (.int .i64 (r.f 5)) := hci 8 (by decide)
    have d9 : x1.cell? ⟨g, j * 11 + 9, none⟩ = some (.int .i64 (r.f 6)) := hci 9 (by decide)
    have d10 : x1.cell? ⟨g, j * 11 + 10, none⟩ = some (.int .i64 (r.f 7)) := hci 10 (by decide)
    have e0 : x1.cell? ⟨g, n' * 11, none⟩ = some (.int .i64 last.s) := hcl 0 (by decide)
    have e1 : x1.cell? ⟨g, n' * 11 + 1, none⟩ = some (.int .i64 last.g) := hcl 1 (by decide)
    have e2 : x1.cell? ⟨g, n' * 11 + 2, none⟩ = some (.int .i64 last.m) := hcl 2 (by decide)
    have e3 : x1.cell? ⟨g, n' * 11 + 3, none⟩ = some (.int .i64 (last.f 0)) := hcl 3 (by decide)
    have e4 : x1.cell? ⟨g, n' * 11 + 4, none⟩ = some (.int .i64 (last.f 1)) := hcl 4 (by decide)
    have e5 : x1.cell? ⟨g, n' * 11 + 5, none⟩ = some (.int .i64 (last.f 2)) := hcl 5 (by decide)
    have e6 : x1.cell? ⟨g, n' * 11 + 6, none⟩ = some (.int .i64 (last.f 3)) := hcl 6 (by decide)
    have e7 : x1.cell? ⟨g, n' * 11 + 7, none⟩ = some (.int .i64 (last.f 4)) := hcl 7 (by decide)
    have e8 : x1.cell? ⟨g, n' * 11 + 8, none⟩ = some (.int .i64 (last.f 5)) := hcl 8 (by decide)
    have e9 : x1.cell? ⟨g, n' * 11 + 9, none⟩ = some (.int .i64 (last.f 6)) := hcl 9 (by decide)
    have e10 : x1.cell? ⟨g, n' * 11 + 10, none⟩ = some (.int .i64 (last.f 7)) := hcl 10 (by decide)
    have hks := kept_set11 (F := fun b => b = g) (Kept.refl _ x1) g j last (.inl rfl)
    have hs11 := hWX.stored11 j last HJ.out
    have hlast' := hlast
    have HY0 : ∃ Y, Y = (((((((((((x1.setCell ⟨g, j * 11, none⟩ (.int .i64 last.s)).setCell ⟨g, j * 11 + 1, none⟩ (.int .i64 last.g)).setCell ⟨g, j * 11 + 2, none⟩ (.int .i64 last.m)).setCell ⟨g, j * 11 + 3, none⟩ (.int .i64 (last.f 0))).setCell ⟨g, j * 11 + 4, none⟩ (.int .i64 (last.f 1))).setCell ⟨g, j * 11 + 5, none⟩ (.int .i64 (last.f 2))).setCell ⟨g, j * 11 + 6, none⟩ (.int .i64 (last.f 3))).setCell ⟨g, j * 11 + 7, none⟩ (.int .i64 (last.f 4))).setCell ⟨g, j * 11 + 8, none⟩ (.int .i64 (last.f 5))).setCell ⟨g, j * 11 + 9, none⟩ (.int .i64 (last.f 6))).setCell ⟨g, j * 11 + 10, none⟩ (.int .i64 (last.f 7))) := ⟨_, rfl⟩
    obtain ⟨Y, hY⟩ := HY0
    rw [← hY] at hks hs11
    have HY := Lib.hid hY
    clear hY
    have hsl : (rows.set j last).length = n' + 1 := by rw [List.length_set]; exact HLEN.out
    obtain ⟨g', cap', e', _, hg2, _, _, _, hcc2⟩ := hs11.at11 (by rw [hsl]; omega)
    simp only [Value.slice.injEq, Option.some.injEq, Addr.mk.injEq, and_true] at e'
    obtain ⟨rfl, -, -⟩ := e'
    have HT2 : Hid (TableAt Y p F3 m (rmL rows j rowZ)) := Lib.hid (hOX.t.kept hks (fun b hf e => HNF.out (e ▸ hf)))
    have HBW : Hid (Below w.heap.size w Y) := Lib.hid ((nb_trans HB1.out hOX.below).trans (hks.below (nb_trans HB1.out hOX.below).size (fun b e => by have := HW1.out; omega)))
    have HC2 : Hid (∀ i, i < n' → ∀ q, q < 11 → Y.cell? ⟨g, i * 11 + q, none⟩ = (elRow.enc ((rmL rows j rowZ).getD i rowZ))[q]?) := Lib.hid (fun i hi q hq => by
      rw [rmL_get rows j i rowZ (by rw [HLEN.out]; omega), hlast]
      exact hcc2 i (by rw [hsl]; omega) q hq)
    clear hOX hWX hcc hci hcl hks hs11 hcc2 hsl
    go_wp2
    clear d0 d1 d2 d3 d4 d5 d6 d7 d8 d9 d10 e0 e1 e2 e3 e4 e5 e6 e7 e8 e9 e10
    rw [← HY.out]
    go_loopw [81] (fun i wr => ∃ t : Nat, t ≤ n' ∧ i = .int .i64 t ∧ Hid (Below Y.heap.size Y wr)) (fun i _ => n' - (intOf i).toNat)
    case atStart => exact ⟨0, by omega, rfl, Below.refl _ _⟩
    case round =>
      obtain ⟨t, htn, rfl, hB⟩ := hrel
      by_cases hlt : t < n'
      · have hck : ∀ q, q < 11 → wr.cell? ⟨g, t * 11 + q, none⟩ = (elRow.enc ((rmL rows j rowZ).getD t rowZ))[q]? := fun q hq => by rw [hB.out.cell (p := ⟨g, _, none⟩) hg2]; exact HC2.out t hlt q hq
        have hri := rowR_in (rows := rmL rows j rowZ) (i := t) (by rw [HL3.out]; exact hlt)
        generalize (rmL rows j rowZ).getD t rowZ = y at *
        have c0 : wr.cell? ⟨g, t * 11, none⟩ = some (.int .i64 y.s) := hck 0 (by decide)
        have c1 : wr.cell? ⟨g, t * 11 + 1, none⟩ = some (.int .i64 y.g) := hck 1 (by decide)
        have c2 : wr.cell? ⟨g, t * 11 + 2, none⟩ = some (.int .i64 y.m) := hck 2 (by decide)
        have c3 : wr.cell? ⟨g, t * 11 + 3, none⟩ = some (.int .i64 (y.f 0)) := hck 3 (by decide)
        have c4 : wr.cell? ⟨g, t * 11 + 4, none⟩ = some (.int .i64 (y.f 1)) := hck 4 (by decide)
        have c5 : wr.cell? ⟨g, t * 11 + 5, none⟩ = some (.int .i64 (y.f 2)) := hck 5 (by decide)
        have c6 : wr.cell? ⟨g, t * 11 + 6, none⟩ = some (.int .i64 (y.f 3)) := hck 6 (by decide)
        have c7 : wr.cell? ⟨g, t * 11 + 7, none⟩ = some (.int .i64 (y.f 4)) := hck 7 (by decide)
        have c8 : wr.cell? ⟨g, t * 11 + 8, none⟩ = some (.int .i64 (y.f 5)) := hck 8 (by decide)
        have c9 : wr.cell? ⟨g, t * 11 + 9, none⟩ = some (.int .i64 (y.f 6)) := hck 9 (by decide)
        have c10 : wr.cell? ⟨g, t * 11 + 10, none⟩ = some (.int .i64 (y.f 7)) := hck 10 (by decide)
        have hgw : g < wr.heap.size := Nat.lt_of_lt_of_le hg2 hB.out.size
        have HRT := Lib.hid hri
        clear hck hri
        go_wp2_with fail
        clear c0 c1 c2 c3 c4 c5 c6 c7 c8 c9 c10
        refine (tabRow_any p F3 m (rmL rows j rowZ) t y 0 _ (HT2.out.later (nb_alloc hB.out _)) HOK3.out HRT.out.1 HRT.out.2).mono ?_
        rintro e w6 ⟨rfl, hb6⟩
        have hA6 : w6.heap[wr.heap.size]? = some (.cells #[.int .i64 y.s, .int .i64 y.g, .int .i64 y.m, .int .i64 (y.f 0), .int .i64 (y.f 1), .int .i64 (y.f 2), .int .i64 (y.f 3), .int .i64 (y.f 4), .int .i64 (y.f 5), .int .i64 (y.f 6), .int .i64 (y.f 7)] 41) := by rw [hb6.block _ (by simp)]; exact heap_alloc_new wr _
        have hal := (Array.getElem?_eq_some_iff.1 hA6).1
        have k0 : w6.cell? ⟨wr.heap.size, 0, none⟩ = some (.int .i64 y.s) := by rw [cell_of_row _ _ _ _ _ _ hA6]; rfl
        have k1 : w6.cell? ⟨wr.heap.size, 1, none⟩ = some (.int .i64 y.g) := by rw [cell_of_row _ _ _ _ _ _ hA6]; rfl
        have k2 : w6.cell? ⟨wr.heap.size, 2, none⟩ = some (.int .i64 y.m) := by rw [cell_of_row _ _ _ _ _ _ hA6]; rfl
        have k3 : w6.cell? ⟨wr.heap.size, 3, none⟩ = some (.int .i64 (y.f 0)) := by rw [cell_of_row _ _ _ _ _ _ hA6]; rfl
        have k4 : w6.cell? ⟨wr.heap.size, 4, none⟩ = some (.int .i64 (y.f 1)) := by rw [cell_of_row _ _ _ _ _ _ hA6]; rfl
        have k5 : w6.cell? ⟨wr.heap.size, 5, none⟩ = some (.int .i64 (y.f 2)) := by rw [cell_of_row _ _ _ _ _ _ hA6]; rfl
        have k6 : w6.cell? ⟨wr.heap.size, 6, none⟩ = some (.int .i64 (y.f 3)) := by rw [cell_of_row _ _ _ _ _ _ hA6]; rfl
        have k7 : w6.cell? ⟨wr.heap.size, 7, none⟩ = some (.int .i64 (y.f 4)) := by rw [cell_of_row _ _ _ _ _ _ hA6]; rfl
        have k8 : w6.cell? ⟨wr.heap.size, 8, none⟩ = some (.int .i64 (y.f 5)) := by rw [cell_of_row _ _ _ _ _ _ hA6]; rfl
        have k9 : w6.cell? ⟨wr.heap.size, 9, none⟩ = some (.int .i64 (y.f 6)) := by rw [cell_of_row _ _ _ _ _ _ hA6]; rfl
        have k10 : w6.cell? ⟨wr.heap.size, 10, none⟩ = some (.int .i64 (y.f 7)) := by rw [cell_of_row _ _ _ _ _ _ hA6]; rfl
        have HB6 := Lib.hid (nb_alloc (nb_trans (nb_alloc hB.out _) hb6) (.cells #[.int .i64 y.s, .int .i64 y.g, .int .i64 y.m, .int .i64 (y.f 0), .int .i64 (y.f 1), .int .i64 (y.f 2), .int .i64 (y.f 3), .int .i64 (y.f 4), .int .i64 (y.f 5), .int .i64 (y.f 6), .int .i64 (y.f 7)] 41))
        have heq8 := eq8_run y.f
        clear hb6 hA6
        go_wp2
        go_roundw
        case rel => exact ⟨t + 1, by omega, by go_num, HB6⟩
        case measure => simp [intOf]; omega
      · obtain rfl : t = n' := by omega
        go_wp2
        go_ret
        exact ⟨rfl, HBW.out.trans (hB.out.mono HBW.out.size)⟩

namespace tableRemoves
theorem own : ownKnob Try.prog.godebug = none := by kernel_rfl
theorem laidOut : laidOutB Try.prog = true := by kernel_rfl

set_option maxRecDepth 100000 in
theorem lifted (os : Os) (started : os.Started) (H : Type) (enc : TypeId × Value → H) :
    ReturnsInHanded {} Try.checked os 5 .any (Rows.tableRemovesSpec.pre6 enc Try.prog Try.f5 Rows.tableRemovesRow.domain false) (Rows.tableRemovesSpec.post enc Try.prog Try.f5 false true false false) := by
  refine returnsInHanded_of_change (C := Try.checked) own started (by kernel_rfl) Try.func5
    (ChangeSpec.witness6 (enc := enc) (C := Try.checked) false ⟨#[], #[.int .i64 0, .slice none 0 0, .int .i64 0], []⟩ 8 (by kernel_rfl) (by kernel_rfl) (by kernel_rfl) (by kernel_rfl)) ?_
  intro W base args ds gs before hval0 hW hcnd _
  have hval : ∀ (j : Nat) t v, Try.f5.params[j]? = some t → args[j]? = some v → Value.okWide Try.prog W .any base t v := hval0
  have hW' := hW
  obtain ⟨p, q, hA0, hV, rfl, hfz, hnd⟩ := hW
  have hA : DataW.TrodAll enc Try.prog W 0 (fun _ => true) true Try.f5.params.toList args.toList ds p := hA0
  rw [Try.params5] at hA hval
  obtain ⟨v0, vs0, d0, ds0, p0, q0, hargs, rfl, rfl, h0, r0⟩ := trodAll_cons hA
  obtain ⟨v1, vs1, d1, ds1, p1, q1, rfl, rfl, rfl, h1, r1⟩ := trodAll_cons r0
  obtain ⟨v2, vs2, d2, ds2, p2, q2, rfl, rfl, rfl, h2, r2⟩ := trodAll_cons r1
  obtain ⟨rfl, rfl, rfl⟩ := trodAll_nil r2
  obtain rfl : args = #[v0, v1, v2] := by cases args; simp_all
  obtain ⟨rfl, rfl⟩ := trodVars_none hV
  have k0' := h0
  have lt0 : ∀ x ∈ p0, x.block < W.heap.size := by obtain ⟨m, hm⟩ := h0; exact DataW.trod_lt m _ _ _ hm
  have k1' := h1
  have lt1 : ∀ x ∈ p1, x.block < W.heap.size := by obtain ⟨m, hm⟩ := h1; exact DataW.trod_lt m _ _ _ hm
  have k2' := h2
  have lt2 : ∀ x ∈ p2, x.block < W.heap.size := by obtain ⟨m, hm⟩ := h2; exact DataW.trod_lt m _ _ _ hm
  obtain ⟨a0, rfl, i0⟩ : ∃ a : Int, v0 = .int .i64 a ∧ I64 a := by
    obtain ⟨a, rfl, _, _, wa⟩ := open_int Try.underlying3 (hval 0 3 v0 rfl rfl) h0
    exact ⟨a, rfl, I64_of wa⟩
  obtain ⟨z1, i1⟩ : ∃ zs, Ints W v1 zs := by
    obtain ⟨a0, len0, cap0, rfl⟩ := okWide_slice Try.underlying45 (hval 1 45 v1 rfl rfl)
    exact Ints_of Try.underlying45 Try.underlying3 (by kernel_rfl) h1
  obtain ⟨a2, rfl, i2⟩ : ∃ a : Int, v2 = .int .i64 a ∧ I64 a := by
    obtain ⟨a, rfl, _, _, wa⟩ := open_int Try.underlying3 (hval 2 3 v2 rfl rfl) h2
    exact ⟨a, rfl, I64_of wa⟩
  clear hA0 hval0
  refine (tableRemoves_walk a0 i0 v1 z1 a2 i2 W i1).mono fun e W' ⟨he, bel⟩ => ?_
  subst he
  exact ⟨_, rfl, _, _, _, [], _, [], hW', trodAll_mk1 (shut_bool Try.underlying4 _), (trodAll_cons_mk (Below.trod laidOut (by kernel_rfl) (of_decide_eq_true (by kernel_rfl)) k0' bel lt0) (trodAll_cons_mk (Below.trod laidOut (by kernel_rfl) (of_decide_eq_true (by kernel_rfl)) k1' bel lt1) (trodAll_cons_mk (Below.trod laidOut (by kernel_rfl) (of_decide_eq_true (by kernel_rfl)) k2' bel lt2) trodAll_mk0))), rfl, bel.frame _, fun h => by cases h⟩
end tableRemoves

theorem tableRemoves_proved : Rows.TableRemovesSaid :=
  OpenClaim.holds_of_wide 5 Try.f5 rfl rfl rfl rfl rfl rfl rfl ⟨rfl, rfl, rfl, rfl, rfl⟩ rfl rfl rfl rfl rfl (by kernel_rfl) Try.func5 (by kernel_rfl)
    (of_decide_eq_true (by kernel_rfl)) (by unfold Func.isWrapper; first | (rw [if_pos (by decide +kernel)]; kernel_rfl) | (rw [if_neg (by decide +kernel)]; exact ⟨rfl, rfl⟩))
    (fun os started H enc _ => tableRemoves.lifted os started H enc)

end Go.Proofs.Ytdlbljheobkfaaa

/- A value that was put is present, and everything else is unchanged: the statement WorldPuts. No condition. -/
import Derived.Test.YtakoejopgdaknaaGroundA
import Derived.Test.YtakoejopgdaknaaKeepWorld
import Derived.Test.YtakoejopgdaknaaKeepLived
import Derived.Test.YtakoejopgdaknaaRowFacts
import Derived.Test.YtakoejopgdaknaaRowEq
namespace Go.Proofs.Ytakoejopgdaknaa
set_option maxRecDepth 8000
open Go.ChangeShapes Go.WideShapes Go.ChangeAt Go.RowKit
set_option linter.unusedVariables false

set_option maxRecDepth 100000 in
set_option maxHeartbeats 8000000 in
theorem worldPuts_walk (u0 : Value) (z0 : List Opm) (j0 : ∀ x ∈ z0, OpOk x) (a_1 b_1 : Int) (i1 : I64 a_1 ∧ I64 b_1) (a2 : Int) (i2 : I64 a2) (a3 : Int) (i3 : I64 a3) (w : World) (i0 : Reads elOp w u0 z0) :
    Calls Try.prog 5 #[u0, .agg #[.int .i64 a_1, .int .i64 b_1], .int .i64 a2, .int .i64 a3] w fun e w' => e = .returned (.bool true) ∧ Below w.heap.size w w' := by
  have HI := Lib.hid i0
  have HJ := Lib.hid j0
  have HAB : Hid (I64r a_1 ∧ I64r b_1) := Lib.hid i1
  clear i0 j0 i1 i2 i3
  have hX : Below w.heap.size w (w.alloc (.cells #[.int .i64 a_1, .int .i64 b_1] 38)) := nb_alloc (Below.refl _ _) _
  have hxb : (w.alloc (.cells #[.int .i64 a_1, .int .i64 b_1] 38)).heap[w.heap.size]? = some (.cells #[.int .i64 a_1, .int .i64 b_1] 38) := heap_alloc_new _ _
  have HX := Lib.hid hX
  have HXB := Lib.hid hxb
  clear hX hxb
  go_enter Try.func5, Try.ntmps5
  go_wp2_with fail
  generalize w.alloc (.cells #[.int .i64 a_1, .int .i64 b_1] 38) = X at *
  refine (lived_any _).mono ?_
  rintro e w1 ⟨rfl, hb1⟩
  have HB1 := Lib.hid hb1
  clear hb1
  go_wp2_with fail
  refine (made_any u0 z0 _ (HI.out.later (nb_trans HX.out HB1.out)) HJ.out).mono ?_
  rintro e w2 ⟨p, F, rfl, h2, hF, hb2⟩
  have hok := WOk.made z0
  generalize (madeW z0).1 = l at *
  generalize (madeW z0).2 = rows at *
  have HW := Lib.hid h2
  have HOK := Lib.hid hok
  have HF : Hid (∀ b, F b → X.heap.size ≤ b) := Lib.hid (fun b hb => Nat.le_trans HB1.out.size (hF b hb))
  have HB2 : Hid (Below X.heap.size X w2) := Lib.hid (nb_trans HB1.out hb2)
  clear h2 hok hF hb2
  go_wp2_with fail
  refine (keepAll_any p F l rows _ HW.out HOK.out).mono ?_
  rintro e w3 ⟨v3, rfl, ho3, hb3⟩
  have HB3 : Hid (Below w2.heap.size w2 w3) := Lib.hid hb3
  have HO3 := Lib.hid ho3
  have hxl : w.heap.size < X.heap.size := (Array.getElem?_eq_some_iff.1 HXB.out).1
  have hx3 : w3.heap[w.heap.size]? = some (.cells #[.int .i64 a_1, .int .i64 b_1] 38) := by rw [hb3.block _ (Nat.lt_of_lt_of_le hxl HB2.out.size), HB2.out.block _ hxl]; exact HXB.out
  have hx3l := (Array.getElem?_eq_some_iff.1 hx3).1
  have kx0 : w3.cell? ⟨w.heap.size, 0, none⟩ = some (.int .i64 a_1) := by rw [cell_of_row _ _ _ _ _ _ hx3]; rfl
  have kx1 : w3.cell? ⟨w.heap.size, 1, none⟩ = some (.int .i64 b_1) := by rw [cell_of_row _ _ _ _ _ _ hx3]; rfl
  have HX3 := Lib.hid hx3
  clear ho3 hb3 hx3
  go_wp2_with fail
  refine (worldPut_any p F l rows a_1 b_1 a2 a3 _ (HW.out.later HB3.out) HOK.out HAB.out.1 HAB.out.2).mono ?_
  rintro e w4 ⟨rfl, F4, h4, hk4, hm4⟩
  have HW4 := Lib.hid h4
  have HK4 := Lib.hid hk4
  have HX4 : Hid (w4.heap[w.heap.size]? = some (.cells #[.int .i64 a_1, .int .i64 b_1] 38)) := Lib.hid (by rw [hk4.block _ hx3l (fun f => by have := HF.out _ f; omega)]; exact HX3.out)
  have HR4 : Hid (Reads elRow w4 v3 rows) := Lib.hid (HO3.out.reads.kept hk4 (fun k e f => by have := HO3.out.ge e; have := HW.out.lt k f; omega))
  have HB4 : Hid (Below X.heap.size X w4) := Lib.hid ((nb_trans HB2.out HB3.out).trans (hk4.below (nb_trans HB2.out HB3.out).size HF.out))
  have HOK4 := Lib.hid (HOK.out.put a_1 b_1 a2 a3)
  clear h4 hk4 hm4 kx0 kx1 hx3l
  go_wp2_with fail
  refine (keepAll_any p F4 l (putWR rows a_1 b_1 a2 a3) _ HW4.out HOK4.out).mono ?_
  rintro e w5 ⟨v5, rfl, ho5, hb5⟩
  have HR5 := Lib.hid ho5.reads
  have HR3 := Lib.hid (HR4.out.later hb5)
  have HB5 : Hid (Below w.heap.size w w5) := Lib.hid (nb_trans (nb_trans HX.out HB4.out) hb5)
  have HX5 : Hid (w5.heap[w.heap.size]? = some (.cells #[.int .i64 a_1, .int .i64 b_1] 38)) := Lib.hid (by rw [hb5.block _ (Array.getElem?_eq_some_iff.1 HX4.out).1]; exact HX4.out)
  clear ho5 hb5
  obtain ⟨x, hx⟩ : ∃ x, putWE rows a_1 b_1 a2 a3 = x := ⟨_, rfl⟩
  by_cases h0 : x = 0
  · subst h0
    have HP : Hid (∀ t (r : Rw), t < rows.length → rows.getD t rowZ = r → (putWR rows a_1 b_1 a2 a3).getD t rowZ = if r.s = a_1 ∧ r.g = b_1 then putK r a2.toNat a3 else r) := Lib.hid (fun t r ht hr => putWR_at HOK.out hx ht hr)
    have HLEN : Hid ((putWR rows a_1 b_1 a2 a3).length = rows.length) := Lib.hid (putWR_len _ _ _ _ _)
    obtain ⟨-, hk7, hn9⟩ := putWE_zero hx
    obtain ⟨j, hj, rfl⟩ : ∃ j : Nat, j < 8 ∧ a2 = (j : Int) := by have := inB_t hk7; exact ⟨a2.toNat, by omega, by omega⟩
    rw [Int.toNat_natCast] at HP
    rw [hx]
    clear hk7 hn9 hx HK4 HW4 HOK4 HR4
    generalize putWR rows a_1 b_1 j a3 = rows' at *
    obtain ⟨hm3, hx3⟩ := HR3.out.open
    obtain ⟨-, hx5⟩ := HR5.out.open
    rw [HLEN.out] at hx5
    have hr60 := HOK.out.len60
    generalize hn : rows.length = n at *
    have HN := Lib.hid hn
    clear hn hm3 HR3 HR5 HLEN
    have hne : ((n : Int) != (n : Int)) = false := by simp
    obtain ⟨s, hs⟩ : ∃ s : Int, 2 ^ j = s := ⟨_, rfl⟩
    have hs01 := pow_le7 j hj
    have hw2 := wrap_small j hj
    rw [hs] at hs01
    rw [show IntKind.i64.wrap (2 ^ j) = 2 ^ j from hw2] at hw2
    have HS := Lib.hid hs
    replace hw2 : IntKind.i64.wrap (2 ^ j) = s := (wrap_small j hj).trans hs
    clear hs
    rcases hx3 with ⟨a, cap, rfl, hz⟩ | ⟨b, off, cap, rfl, hb, hlc, hcm, hc⟩ <;> rcases hx5 with ⟨a', cap', rfl, hz'⟩ | ⟨b', off', cap', rfl, hb', hlc', hcm', hc'⟩
    all_goals
      go_wp2
      clear hne
      go_loopw [42] (fun i wr => ∃ t : Nat, t ≤ n ∧ i = .int .i64 t ∧ Hid (Below w5.heap.size w5 wr)) (fun i _ => n - (intOf i).toNat)
      case atStart => exact ⟨0, by omega, rfl, Below.refl _ _⟩
      case round =>
        obtain ⟨t, htn, rfl, hB⟩ := hrel
        by_cases hlt : t < n
        · first
            | omega
            | (have hcr : ∀ jj, jj < 11 → wr.cell? ⟨b, off + t * 11 + jj, none⟩ = (elRow.enc (rows.getD t rowZ))[jj]? := fun jj hjj => by rw [hB.out.cell (p := ⟨b, _, none⟩) hb]; exact hc t hlt jj hjj
               have HQ := Lib.hid (HP.out t _ hlt rfl)
               have HRI : Hid (RowIs l rows t (rows.getD t rowZ)) := Lib.hid (HOK.out.rowIs (by rw [HN.out]; exact hlt) rfl)
               have HDR : Hid (∀ Z, Below w5.heap.size w5 Z → ∀ jj, jj < 11 → Z.cell? ⟨b', off' + t * 11 + jj, none⟩ = (elRow.enc (rows'.getD t rowZ))[jj]?) := Lib.hid (fun Z hZ jj hjj => by rw [hZ.cell (p := ⟨b', _, none⟩) hb']; exact hc' t hlt jj hjj)
               clear hc hc'
               generalize rows.getD t rowZ = r at *
               generalize rows'.getD t rowZ = q at *
               have hrm := (bErr_zero HRI.out.ok).1
               have hbw : b < wr.heap.size := Nat.lt_of_lt_of_le hb hB.out.size
               have hxw : wr.heap[w.heap.size]? = some (.cells #[.int .i64 a_1, .int .i64 b_1] 38) := by rw [hB.out.block _ (Array.getElem?_eq_some_iff.1 HX5.out).1]; exact HX5.out
               have hxl2 := (Array.getElem?_eq_some_iff.1 hxw).1
               have c0 : wr.cell? ⟨b, off + t * 11, none⟩ = some (.int .i64 r.s) := hcr 0 (by decide)
               have c1 : wr.cell? ⟨b, off + t * 11 + 1, none⟩ = some (.int .i64 r.g) := hcr 1 (by decide)
               have c2 : wr.cell? ⟨b, off + t * 11 + 2, none⟩ = some (.int .i64 r.m) := hcr 2 (by decide)
               have c3 : wr.cell? ⟨b, off + t * 11 + 3, none⟩ = some (.int .i64 (r.f 0)) := hcr 3 (by decide)
               have c4 : wr.cell? ⟨b, off + t * 11 + 4, none⟩ = some (.int .i64 (r.f 1)) := hcr 4 (by decide)
               have c5 : wr.cell? ⟨b, off + t * 11 + 5, none⟩ = some (.int .i64 (r.f 2)) := hcr 5 (by decide)
               have c6 : wr.cell? ⟨b, off + t * 11 + 6, none⟩ = some (.int .i64 (r.f 3)) := hcr 6 (by decide)
               have c7 : wr.cell? ⟨b, off + t * 11 + 7, none⟩ = some (.int .i64 (r.f 4)) := hcr 7 (by decide)
               have c8 : wr.cell? ⟨b, off + t * 11 + 8, none⟩ = some (.int .i64 (r.f 5)) := hcr 8 (by decide)
               have c9 : wr.cell? ⟨b, off + t * 11 + 9, none⟩ = some (.int .i64 (r.f 6)) := hcr 9 (by decide)
               have c10 : wr.cell? ⟨b, off + t * 11 + 10, none⟩ = some (.int .i64 (r.f 7)) := hcr 10 (by decide)
               have kx0 : wr.cell? ⟨w.heap.size, 0, none⟩ = some (.int .i64 a_1) := by rw [cell_of_row _ _ _ _ _ _ hxw]; rfl
               have kx1 : wr.cell? ⟨w.heap.size, 1, none⟩ = some (.int .i64 b_1) := by rw [cell_of_row _ _ _ _ _ _ hxw]; rfl
               clear hcr hxw
               have HBA := Lib.hid (nb_alloc hB.out (.cells #[.int .i64 r.s, .int .i64 r.g, .int .i64 r.m, .int .i64 (r.f 0), .int .i64 (r.f 1), .int .i64 (r.f 2), .int .i64 (r.f 3), .int .i64 (r.f 4), .int .i64 (r.f 5), .int .i64 (r.f 6), .int .i64 (r.f 7)] 55))
               have HAA : Hid ((wr.alloc (.cells #[.int .i64 r.s, .int .i64 r.g, .int .i64 r.m, .int .i64 (r.f 0), .int .i64 (r.f 1), .int .i64 (r.f 2), .int .i64 (r.f 3), .int .i64 (r.f 4), .int .i64 (r.f 5), .int .i64 (r.f 6), .int .i64 (r.f 7)] 55)).heap[wr.heap.size]? = some (.cells #[.int .i64 r.s, .int .i64 r.g, .int .i64 r.m, .int .i64 (r.f 0), .int .i64 (r.f 1), .int .i64 (r.f 2), .int .i64 (r.f 3), .int .i64 (r.f 4), .int .i64 (r.f 5), .int .i64 (r.f 6), .int .i64 (r.f 7)] 55)) := Lib.hid (heap_alloc_new _ _)
               cases h1 : (r.s == a_1) <;> cases h2 : (r.g == b_1)
               case true.true =>
                 have hqq : q = putK r j a3 := by rw [HQ.out, if_pos ⟨eq_of_beq h1, eq_of_beq h2⟩]
                 go_wp2_with fail
                 refine (refHasKind_any _ _ _ (by omega) (by omega)).mono ?_
                 rintro e w6 ⟨rfl, rfl⟩
                 rw [Int.toNat_natCast]
                 clear c0 c1 c2 c3 c4 c5 c6 c7 c8 c9 c10 kx0 kx1 h1 h2
                 cases htb : tb r.m j
                 · have HQE : Hid (q = ⟨r.s, r.g, r.m + s, upd r.f j a3⟩) := Lib.hid (by rw [hqq, putK, htb, HS.out]; rfl)
                   clear hqq htb
                   go_wp2_with fail
                   have hs0 := hs01.1
                   have hs1 := hs01.2
                   have hrm0 := hrm.1
                   have hrm1 := hrm.2
                   have hY0 := HAA.out
                   have HBY0 := HBA
                   clear HAA HBA
                   generalize wr.alloc (.cells #[.int .i64 r.s, .int .i64 r.g, .int .i64 r.m, .int .i64 (r.f 0), .int .i64 (r.f 1), .int .i64 (r.f 2), .int .i64 (r.f 3), .int .i64 (r.f 4), .int .i64 (r.f 5), .int .i64 (r.f 6), .int .i64 (r.f 7)] 55) = Y0 at *
                   have hY : Y0.drew.heap[wr.heap.size]? = some (.cells #[.int .i64 r.s, .int .i64 r.g, .int .i64 r.m, .int .i64 (r.f 0), .int .i64 (r.f 1), .int .i64 (r.f 2), .int .i64 (r.f 3), .int .i64 (r.f 4), .int .i64 (r.f 5), .int .i64 (r.f 6), .int .i64 (r.f 7)] 55) := hY0
                   have HBY : Hid (Below w5.heap.size w5 Y0.drew) := Lib.hid HBY0.out.drew
                   have cY0 : Y0.cell? ⟨wr.heap.size, 2, none⟩ = some (.int .i64 r.m) := by rw [cell_of_row _ _ _ _ _ _ hY0]; rfl
                   have hlY0 : wr.heap.size < Y0.heap.size := (Array.getElem?_eq_some_iff.1 hY0).1
                   clear hY0 HBY0
                   go_still_tail 8, (by kernel_rfl)
                   change wpList _ _ _ _ _ Y0.drew
                   clear cY0 hlY0
                   generalize Y0.drew = Y at *
                   have hY2 : (Y.setCell ⟨wr.heap.size, 2, none⟩ (.int .i64 (r.m + s))).heap[wr.heap.size]? = some (.cells #[.int .i64 r.s, .int .i64 r.g, .int .i64 (r.m + s), .int .i64 (r.f 0), .int .i64 (r.f 1), .int .i64 (r.f 2), .int .i64 (r.f 3), .int .i64 (r.f 4), .int .i64 (r.f 5), .int .i64 (r.f 6), .int .i64 (r.f 7)] 55) := by rw [heap_setCell_same _ _ _ _ _ _ hY]; rfl
                   have HY3 : Hid (((Y.setCell ⟨wr.heap.size, 2, none⟩ (.int .i64 (r.m + s))).setCell ⟨wr.heap.size, 3 + j, none⟩ (.int .i64 a3)).heap[wr.heap.size]? = some (.cells #[.int .i64 q.s, .int .i64 q.g, .int .i64 q.m, .int .i64 (q.f 0), .int .i64 (q.f 1), .int .i64 (q.f 2), .int .i64 (q.f 3), .int .i64 (q.f 4), .int .i64 (q.f 5), .int .i64 (q.f 6), .int .i64 (q.f 7)] 55)) := Lib.hid (by rw [heap_setCell_same _ _ _ _ _ _ hY2, rowc_set ⟨r.s, r.g, r.m + s, r.f⟩ j a3 hj, HQE.out])
                   have HBZ : Hid (Below w5.heap.size w5 ((Y.setCell ⟨wr.heap.size, 2, none⟩ (.int .i64 (r.m + s))).setCell ⟨wr.heap.size, 3 + j, none⟩ (.int .i64 a3))) := Lib.hid (nb_set (nb_set HBY.out _ _ _ (by have := hB.out.size; omega)) _ _ _ (by have := hB.out.size; omega))
                   have fY : Y.frozen? ⟨wr.heap.size, 2, none⟩ = false := frozen_of_row _ _ _ _ _ hY
                   have fY2 : (Y.setCell ⟨wr.heap.size, 2, none⟩ (.int .i64 (r.m + s))).frozen? ⟨wr.heap.size, 3 + j, none⟩ = false := frozen_of_row _ _ _ _ _ hY2
                   have cY : Y.cell? ⟨wr.heap.size, 2, none⟩ = some (.int .i64 r.m) := by rw [cell_of_row _ _ _ _ _ _ hY]; rfl
                   have cY2 : (Y.setCell ⟨wr.heap.size, 2, none⟩ (.int .i64 (r.m + s))).cell? ⟨wr.heap.size, 3 + j, none⟩ = some (.int .i64 (r.f j)) := by rw [cell_of_row _ _ _ _ _ _ hY2]; exact rowc_get ⟨r.s, r.g, r.m + s, r.f⟩ j hj
                   have hj0 : (0 : Int) ≤ (j : Int) := by omega
                   have hj8 : (j : Int) < 8 := by omega
                   have hlY : wr.heap.size < Y.heap.size := (Array.getElem?_eq_some_iff.1 hY).1
                   clear hY hY2
                   go_wp2_with fail
                   generalize (Y.setCell ⟨wr.heap.size, 2, none⟩ (.int .i64 (r.m + s))).setCell ⟨wr.heap.size, 3 + j, none⟩ (.int .i64 a3) = Z at *
                   have HZ := HY3
                   have hdr := HDR.out Z HBZ.out
                   clear HY3 fY fY2 cY cY2
                   have d0 : Z.cell? ⟨b', off' + t * 11, none⟩ = some (.int .i64 q.s) := hdr 0 (by decide)
                   have d1 : Z.cell? ⟨b', off' + t * 11 + 1, none⟩ = some (.int .i64 q.g) := hdr 1 (by decide)
                   have d2 : Z.cell? ⟨b', off' + t * 11 + 2, none⟩ = some (.int .i64 q.m) := hdr 2 (by decide)
                   have d3 : Z.cell? ⟨b', off' + t * 11 + 3, none⟩ = some (.int .i64 (q.f 0)) := hdr 3 (by decide)
                   have d4 : Z.cell? ⟨b', off' + t * 11 + 4, none⟩ = some (.int .i64 (q.f 1)) := hdr 4 (by decide)
                   have d5 : Z.cell? ⟨b', off' + t * 11 + 5, none⟩ = some (.int .i64 (q.f 2)) := hdr 5 (by decide)
                   have d6 : Z.cell? ⟨b', off' + t * 11 + 6, none⟩ = some (.int .i64 (q.f 3)) := hdr 6 (by decide)
                   have d7 : Z.cell? ⟨b', off' + t * 11 + 7, none⟩ = some (.int .i64 (q.f 4)) := hdr 7 (by decide)
                   have d8 : Z.cell? ⟨b', off' + t * 11 + 8, none⟩ = some (.int .i64 (q.f 5)) := hdr 8 (by decide)
                   have d9 : Z.cell? ⟨b', off' + t * 11 + 9, none⟩ = some (.int .i64 (q.f 6)) := hdr 9 (by decide)
                   have d10 : Z.cell? ⟨b', off' + t * 11 + 10, none⟩ = some (.int .i64 (q.f 7)) := hdr 10 (by decide)
                   have p0 : Z.cell? ⟨wr.heap.size, 0, none⟩ = some (.int .i64 q.s) := by rw [cell_of_row _ _ _ _ _ _ HZ.out]; rfl
                   have p1 : Z.cell? ⟨wr.heap.size, 1, none⟩ = some (.int .i64 q.g) := by rw [cell_of_row _ _ _ _ _ _ HZ.out]; rfl
                   have p2 : Z.cell? ⟨wr.heap.size, 2, none⟩ = some (.int .i64 q.m) := by rw [cell_of_row _ _ _ _ _ _ HZ.out]; rfl
                   have p3 : Z.cell? ⟨wr.heap.size, 3, none⟩ = some (.int .i64 (q.f 0)) := by rw [cell_of_row _ _ _ _ _ _ HZ.out]; rfl
                   have p4 : Z.cell? ⟨wr.heap.size, 4, none⟩ = some (.int .i64 (q.f 1)) := by rw [cell_of_row _ _ _ _ _ _ HZ.out]; rfl
                   have p5 : Z.cell? ⟨wr.heap.size, 5, none⟩ = some (.int .i64 (q.f 2)) := by rw [cell_of_row _ _ _ _ _ _ HZ.out]; rfl
                   have p6 : Z.cell? ⟨wr.heap.size, 6, none⟩ = some (.int .i64 (q.f 3)) := by rw [cell_of_row _ _ _ _ _ _ HZ.out]; rfl
                   have p7 : Z.cell? ⟨wr.heap.size, 7, none⟩ = some (.int .i64 (q.f 4)) := by rw [cell_of_row _ _ _ _ _ _ HZ.out]; rfl
                   have p8 : Z.cell? ⟨wr.heap.size, 8, none⟩ = some (.int .i64 (q.f 5)) := by rw [cell_of_row _ _ _ _ _ _ HZ.out]; rfl
                   have p9 : Z.cell? ⟨wr.heap.size, 9, none⟩ = some (.int .i64 (q.f 6)) := by rw [cell_of_row _ _ _ _ _ _ HZ.out]; rfl
                   have p10 : Z.cell? ⟨wr.heap.size, 10, none⟩ = some (.int .i64 (q.f 7)) := by rw [cell_of_row _ _ _ _ _ _ HZ.out]; rfl
                   have hbW' : b' < Z.heap.size := Nat.lt_of_lt_of_le hb' HBZ.out.size
                   have hlZ : wr.heap.size < Z.heap.size := (Array.getElem?_eq_some_iff.1 HZ.out).1
                   have heq8 := eq8_run q.f
                   have htn0 : (0 : Int) ≤ (t : Int) := by omega
                   have htn1 : (t : Int) < (n : Int) := by omega
                   clear hdr
                   go_quiet (fail)
                   go_wp2
                   go_roundw
                   case rel => exact ⟨t + 1, by omega, by go_num, nb_drewN HBZ.out⟩
                   case measure => simp [intOf]; omega
                 · have HQE : Hid (q = ⟨r.s, r.g, r.m, upd r.f j a3⟩) := Lib.hid (by rw [hqq, putK, htb]; rfl)
                   clear hqq htb
                   have hj0 : (0 : Int) ≤ (j : Int) := by omega
                   have hj8 : (j : Int) < 8 := by omega
                   have hold : (wr.alloc (.cells #[.int .i64 r.s, .int .i64 r.g, .int .i64 r.m, .int .i64 (r.f 0), .int .i64 (r.f 1), .int .i64 (r.f 2), .int .i64 (r.f 3), .int .i64 (r.f 4), .int .i64 (r.f 5), .int .i64 (r.f 6), .int .i64 (r.f 7)] 55)).cell? ⟨wr.heap.size, 3 + j, none⟩ = some (.int .i64 (r.f j)) := by rw [cell_of_row _ _ _ _ _ _ HAA.out]; exact rowc_get r j hj
                   have fzo : (wr.alloc (.cells #[.int .i64 r.s, .int .i64 r.g, .int .i64 r.m, .int .i64 (r.f 0), .int .i64 (r.f 1), .int .i64 (r.f 2), .int .i64 (r.f 3), .int .i64 (r.f 4), .int .i64 (r.f 5), .int .i64 (r.f 6), .int .i64 (r.f 7)] 55)).frozen? ⟨wr.heap.size, 3 + j, none⟩ = false := frozen_of_row _ _ _ _ _ HAA.out
                   have hls : ([.int .i64 r.s, .int .i64 r.g, .int .i64 r.m, .int .i64 (r.f 0), .int .i64 (r.f 1), .int .i64 (r.f 2), .int .i64 (r.f 3), .int .i64 (r.f 4), .int .i64 (r.f 5), .int .i64 (r.f 6), .int .i64 (r.f 7)] : List Value).set (3 + j) (.int .i64 a3) = [.int .i64 r.s, .int .i64 r.g, .int .i64 r.m, .int .i64 ((upd r.f j a3) 0), .int .i64 ((upd r.f j a3) 1), .int .i64 ((upd r.f j a3) 2), .int .i64 ((upd r.f j a3) 3), .int .i64 ((upd r.f j a3) 4), .int .i64 ((upd r.f j a3) 5), .int .i64 ((upd r.f j a3) 6), .int .i64 ((upd r.f j a3) 7)] := by
                     have := congrArg Array.toList (rowc_set r j a3 hj)
                     simpa using this
                   have HZ : Hid ((wr.alloc (.cells #[.int .i64 r.s, .int .i64 r.g, .int .i64 r.m, .int .i64 ((upd r.f j a3) 0), .int .i64 ((upd r.f j a3) 1), .int .i64 ((upd r.f j a3) 2), .int .i64 ((upd r.f j a3) 3), .int .i64 ((upd r.f j a3) 4), .int .i64 ((upd r.f j a3) 5), .int .i64 ((upd r.f j a3) 6), .int .i64 ((upd r.f j a3) 7)] 55)).heap[wr.heap.size]? = some (.cells #[.int .i64 q.s, .int .i64 q.g, .int .i64 q.m, .int .i64 (q.f 0), .int .i64 (q.f 1), .int .i64 (q.f 2), .int .i64 (q.f 3), .int .i64 (q.f 4), .int .i64 (q.f 5), .int .i64 (q.f 6), .int .i64 (q.f 7)] 55)) := Lib.hid (by rw [HQE.out]; exact heap_alloc_new _ _)
                   have HBZ : Hid (Below w5.heap.size w5 (wr.alloc (.cells #[.int .i64 r.s, .int .i64 r.g, .int .i64 r.m, .int .i64 ((upd r.f j a3) 0), .int .i64 ((upd r.f j a3) 1), .int .i64 ((upd r.f j a3) 2), .int .i64 ((upd r.f j a3) 3), .int .i64 ((upd r.f j a3) 4), .int .i64 ((upd r.f j a3) 5), .int .i64 ((upd r.f j a3) 6), .int .i64 ((upd r.f j a3) 7)] 55))) := Lib.hid (nb_alloc hB.out _)
                   go_wp2_with fail
                   clear hold fzo hls HAA HBA
                   generalize wr.alloc (.cells #[.int .i64 r.s, .int .i64 r.g, .int .i64 r.m, .int .i64 ((upd r.f j a3) 0), .int .i64 ((upd r.f j a3) 1), .int .i64 ((upd r.f j a3) 2), .int .i64 ((upd r.f j a3) 3), .int .i64 ((upd r.f j a3) 4), .int .i64 ((upd r.f j a3) 5), .int .i64 ((upd r.f j a3) 6), .int .i64 ((upd r.f j a3) 7)] 55) = Z at *
                   have hdr := HDR.out Z HBZ.out
                   have d0 : Z.cell? ⟨b', off' + t * 11, none⟩ = some (.int .i64 q.s) := hdr 0 (by decide)
                   have d1 : Z.cell? ⟨b', off' + t * 11 + 1, none⟩ = some (.int .i64 q.g) := hdr 1 (by decide)
                   have d2 : Z.cell? ⟨b', off' + t * 11 + 2, none⟩ = some (.int .i64 q.m) := hdr 2 (by decide)
                   have d3 : Z.cell? ⟨b', off' + t * 11 + 3, none⟩ = some (.int .i64 (q.f 0)) := hdr 3 (by decide)
                   have d4 : Z.cell? ⟨b', off' + t * 11 + 4, none⟩ = some (.int .i64 (q.f 1)) := hdr 4 (by decide)
                   have d5 : Z.cell? ⟨b', off' + t * 11 + 5, none⟩ = some (.int .i64 (q.f 2)) := hdr 5 (by decide)
                   have d6 : Z.cell? ⟨b', off' + t * 11 + 6, none⟩ = some (.int .i64 (q.f 3)) := hdr 6 (by decide)
                   have d7 : Z.cell? ⟨b', off' + t * 11 + 7, none⟩ = some (.int .i64 (q.f 4)) := hdr 7 (by decide)
                   have d8 : Z.cell? ⟨b', off' + t * 11 + 8, none⟩ = some (.int .i64 (q.f 5)) := hdr 8 (by decide)
                   have d9 : Z.cell? ⟨b', off' + t * 11 + 9, none⟩ = some (.int .i64 (q.f 6)) := hdr 9 (by decide)
                   have d10 : Z.cell? ⟨b', off' + t * 11 + 10, none⟩ = some (.int .i64 (q.f 7)) := hdr 10 (by decide)
                   have p0 : Z.cell? ⟨wr.heap.size, 0, none⟩ = some (.int .i64 q.s) := by rw [cell_of_row _ _ _ _ _ _ HZ.out]; rfl
                   have p1 : Z.cell? ⟨wr.heap.size, 1, none⟩ = some (.int .i64 q.g) := by rw [cell_of_row _ _ _ _ _ _ HZ.out]; rfl
                   have p2 : Z.cell? ⟨wr.heap.size, 2, none⟩ = some (.int .i64 q.m) := by rw [cell_of_row _ _ _ _ _ _ HZ.out]; rfl
                   have p3 : Z.cell? ⟨wr.heap.size, 3, none⟩ = some (.int .i64 (q.f 0)) := by rw [cell_of_row _ _ _ _ _ _ HZ.out]; rfl
                   have p4 : Z.cell? ⟨wr.heap.size, 4, none⟩ = some (.int .i64 (q.f 1)) := by rw [cell_of_row _ _ _ _ _ _ HZ.out]; rfl
                   have p5 : Z.cell? ⟨wr.heap.size, 5, none⟩ = some (.int .i64 (q.f 2)) := by rw [cell_of_row _ _ _ _ _ _ HZ.out]; rfl
                   have p6 : Z.cell? ⟨wr.heap.size, 6, none⟩ = some (.int .i64 (q.f 3)) := by rw [cell_of_row _ _ _ _ _ _ HZ.out]; rfl
                   have p7 : Z.cell? ⟨wr.heap.size, 7, none⟩ = some (.int .i64 (q.f 4)) := by rw [cell_of_row _ _ _ _ _ _ HZ.out]; rfl
                   have p8 : Z.cell? ⟨wr.heap.size, 8, none⟩ = some (.int .i64 (q.f 5)) := by rw [cell_of_row _ _ _ _ _ _ HZ.out]; rfl
                   have p9 : Z.cell? ⟨wr.heap.size, 9, none⟩ = some (.int .i64 (q.f 6)) := by rw [cell_of_row _ _ _ _ _ _ HZ.out]; rfl
                   have p10 : Z.cell? ⟨wr.heap.size, 10, none⟩ = some (.int .i64 (q.f 7)) := by rw [cell_of_row _ _ _ _ _ _ HZ.out]; rfl
                   have hbW' : b' < Z.heap.size := Nat.lt_of_lt_of_le hb' HBZ.out.size
                   have hlZ : wr.heap.size < Z.heap.size := (Array.getElem?_eq_some_iff.1 HZ.out).1
                   have heq8 := eq8_run q.f
                   have htn0 : (0 : Int) ≤ (t : Int) := by omega
                   have htn1 : (t : Int) < (n : Int) := by omega
                   clear hdr
                   go_quiet (fail)
                   go_wp2
                   go_roundw
                   case rel => exact ⟨t + 1, by omega, by go_num, nb_drewN HBZ.out⟩
                   case measure => simp [intOf]; omega
               all_goals
                 have hqr : q = r := by
                   rw [HQ.out, if_neg (fun e => by obtain ⟨e1, e2⟩ := e; first | (rw [e1] at h1; simp at h1; done) | (rw [e2] at h2; simp at h2; done))]
                 go_wp2_with fail
                 subst hqr
                 clear c0 c1 c2 c3 c4 c5 c6 c7 c8 c9 c10 kx0 kx1 h1 h2
                 generalize wr.alloc (.cells #[.int .i64 q.s, .int .i64 q.g, .int .i64 q.m, .int .i64 (q.f 0), .int .i64 (q.f 1), .int .i64 (q.f 2), .int .i64 (q.f 3), .int .i64 (q.f 4), .int .i64 (q.f 5), .int .i64 (q.f 6), .int .i64 (q.f 7)] 55) = Z at *
                 have HZ := HAA
                 have HBZ := HBA
                 have hdr := HDR.out Z HBZ.out
                 clear HAA HBA
                 have d0 : Z.cell? ⟨b', off' + t * 11, none⟩ = some (.int .i64 q.s) := hdr 0 (by decide)
                 have d1 : Z.cell? ⟨b', off' + t * 11 + 1, none⟩ = some (.int .i64 q.g) := hdr 1 (by decide)
                 have d2 : Z.cell? ⟨b', off' + t * 11 + 2, none⟩ = some (.int .i64 q.m) := hdr 2 (by decide)
                 have d3 : Z.cell? ⟨b', off' + t * 11 + 3, none⟩ = some (.int .i64 (q.f 0)) := hdr 3 (by decide)
                 have d4 : Z.cell? ⟨b', off' + t * 11 + 4, none⟩ = some (.int .i64 (q.f 1)) := hdr 4 (by decide)
                 have d5 : Z.cell? ⟨b', off' + t * 11 + 5, none⟩ = some (.int .i64 (q.f 2)) := hdr 5 (by decide)
                 have d6 : Z.cell? ⟨b', off' + t * 11 + 6, none⟩ = some (.int .i64 (q.f 3)) := hdr 6 (by decide)
                 have d7 : Z.cell? ⟨b', off' + t * 11 + 7, none⟩ = some (.int .i64 (q.f 4)) := hdr 7 (by decide)
                 have d8 : Z.cell? ⟨b', off' + t * 11 + 8, none⟩ = some (.int .i64 (q.f 5)) := hdr 8 (by decide)
                 have d9 : Z.cell? ⟨b', off' + t * 11 + 9, none⟩ = some (.int .i64 (q.f 6)) := hdr 9 (by decide)
                 have d10 : Z.cell? ⟨b', off' + t * 11 + 10, none⟩ = some (.int .i64 (q.f 7)) := hdr 10 (by decide)
                 have p0 : Z.cell? ⟨wr.heap.size, 0, none⟩ = some (.int .i64 q.s) := by rw [cell_of_row _ _ _ _ _ _ HZ.out]; rfl
                 have p1 : Z.cell? ⟨wr.heap.size, 1, none⟩ = some (.int .i64 q.g) := by rw [cell_of_row _ _ _ _ _ _ HZ.out]; rfl
                 have p2 : Z.cell? ⟨wr.heap.size, 2, none⟩ = some (.int .i64 q.m) := by rw [cell_of_row _ _ _ _ _ _ HZ.out]; rfl
                 have p3 : Z.cell? ⟨wr.heap.size, 3, none⟩ = some (.int .i64 (q.f 0)) := by rw [cell_of_row _ _ _ _ _ _ HZ.out]; rfl
                 have p4 : Z.cell? ⟨wr.heap.size, 4, none⟩ = some (.int .i64 (q.f 1)) := by rw [cell_of_row _ _ _ _ _ _ HZ.out]; rfl
                 have p5 : Z.cell? ⟨wr.heap.size, 5, none⟩ = some (.int .i64 (q.f 2)) := by rw [cell_of_row _ _ _ _ _ _ HZ.out]; rfl
                 have p6 : Z.cell? ⟨wr.heap.size, 6, none⟩ = some (.int .i64 (q.f 3)) := by rw [cell_of_row _ _ _ _ _ _ HZ.out]; rfl
                 have p7 : Z.cell? ⟨wr.heap.size, 7, none⟩ = some (.int .i64 (q.f 4)) := by rw [cell_of_row _ _ _ _ _ _ HZ.out]; rfl
                 have p8 : Z.cell? ⟨wr.heap.size, 8, none⟩ = some (.int .i64 (q.f 5)) := by rw [cell_of_row _ _ _ _ _ _ HZ.out]; rfl
                 have p9 : Z.cell? ⟨wr.heap.size, 9, none⟩ = some (.int .i64 (q.f 6)) := by rw [cell_of_row _ _ _ _ _ _ HZ.out]; rfl
                 have p10 : Z.cell? ⟨wr.heap.size, 10, none⟩ = some (.int .i64 (q.f 7)) := by rw [cell_of_row _ _ _ _ _ _ HZ.out]; rfl
                 have hbW' : b' < Z.heap.size := Nat.lt_of_lt_of_le hb' HBZ.out.size
                 have hlZ : wr.heap.size < Z.heap.size := (Array.getElem?_eq_some_iff.1 HZ.out).1
                 have heq8 := eq8_run q.f
                 have htn0 : (0 : Int) ≤ (t : Int) := by omega
                 have htn1 : (t : Int) < (n : Int) := by omega
                 clear hdr
                 go_quiet (fail)
                 go_wp2
                 go_roundw
                 case rel => exact ⟨t + 1, by omega, by go_num, nb_drewN HBZ.out⟩
                 case measure => simp [intOf]; omega
              )
        · obtain rfl : t = n := by omega
          have HBN := Lib.hid (nb_trans HB5.out hB.out)
          go_wp2
          go_ret
          exact ⟨rfl, HBN.out⟩
  · have HSM : Hid (putWR rows a_1 b_1 a2 a3 = rows) := Lib.hid (by rw [putWR, hx, if_neg h0])
    have hne : (x != 0) = true := by simpa using h0
    rw [hx]
    clear h0 hx
    go_wp2_with fail
    refine (eqRow_same v3 v5 rows _ HR3.out (by have := HR5.out; rwa [HSM.out] at this)).mono ?_
    rintro e w6 ⟨rfl, hb6⟩
    have HB6 := Lib.hid (nb_trans HB5.out hb6)
    clear hb6
    go_wp2
    go_ret
    exact ⟨rfl, HB6.out⟩

namespace worldPuts
theorem own : ownKnob Try.prog.godebug = none := by kernel_rfl
theorem laidOut : laidOutB Try.prog = true := by kernel_rfl

set_option maxRecDepth 100000 in
set_option maxHeartbeats 4000000 in
theorem lifted (os : Os) (started : os.Started) (H : Type) (enc : TypeId × Value → H) :
    ReturnsInHanded {} Try.checked os 5 .any (Rows.worldPutsSpec.pre6 enc Try.prog Try.f5 Rows.worldPutsRow.domain false) (Rows.worldPutsSpec.post enc Try.prog Try.f5 false true false false) := by
  refine returnsInHanded_of_change (C := Try.checked) own started (by kernel_rfl) Try.func5
    (ChangeSpec.witness6 (enc := enc) (C := Try.checked) false ⟨#[], #[.slice none 0 0, .agg #[.int .i64 0, .int .i64 0], .int .i64 0, .int .i64 0], []⟩ 8 (by kernel_rfl) (by kernel_rfl) (by kernel_rfl) (by kernel_rfl)) ?_
  intro W base args ds gs before hval0 hW hcnd _
  have hval : ∀ (j : Nat) t v, Try.f5.params[j]? = some t → args[j]? = some v → Value.okWide Try.prog W .any base t v := hval0
  have hW' := hW
  obtain ⟨p, q, hA0, hV, rfl, hfz, hnd⟩ := hW
  have hA : DataW.TrodAll enc Try.prog W 0 (fun _ => true) true Try.f5.params.toList args.toList ds p := hA0
  rw [Try.params5] at hA hval
  obtain ⟨v0, vs0, d0, ds0, p0, q0, hargs, rfl, rfl, h0, r0⟩ := trodAll_cons hA
  obtain ⟨v1, vs1, d1, ds1, p1, q1, rfl, rfl, rfl, h1, r1⟩ := trodAll_cons r0
  obtain ⟨v2, vs2, d2, ds2, p2, q2, rfl, rfl, rfl, h2, r2⟩ := trodAll_cons r1
  obtain ⟨v3, vs3, d3, ds3, p3, q3, rfl, rfl, rfl, h3, r3⟩ := trodAll_cons r2
  obtain ⟨rfl, rfl, rfl⟩ := trodAll_nil r3
  obtain rfl : args = #[v0, v1, v2, v3] := by cases args; simp_all
  obtain ⟨rfl, rfl⟩ := trodVars_none hV
  have k0' := h0
  have lt0 : ∀ x ∈ p0, x.block < W.heap.size := by obtain ⟨m, hm⟩ := h0; exact DataW.trod_lt m _ _ _ hm
  have k1' := h1
  have lt1 : ∀ x ∈ p1, x.block < W.heap.size := by obtain ⟨m, hm⟩ := h1; exact DataW.trod_lt m _ _ _ hm
  have k2' := h2
  have lt2 : ∀ x ∈ p2, x.block < W.heap.size := by obtain ⟨m, hm⟩ := h2; exact DataW.trod_lt m _ _ _ hm
  have k3' := h3
  have lt3 : ∀ x ∈ p3, x.block < W.heap.size := by obtain ⟨m, hm⟩ := h3; exact DataW.trod_lt m _ _ _ hm
  obtain ⟨z0, i0, j0⟩ : ∃ zs, Reads elOp W v0 zs ∧ ∀ x ∈ zs, OpOk x := by
    obtain ⟨a0, len0, cap0, rfl⟩ := okWide_slice Try.underlying22 (hval 0 22 v0 rfl rfl)
    exact Reads_ofP elOp OpOk Try.underlying22 (by kernel_rfl) op_dec h0
  obtain ⟨a_1, b_1, rfl, i1⟩ : ∃ a_1 b_1 : Int, v1 = .agg #[.int .i64 a_1, .int .i64 b_1] ∧ (I64 a_1 ∧ I64 b_1) := by
    obtain ⟨zs, hl, rfl, hz⟩ := open_flat 3 2 Try.underlying38 (by kernel_rfl) (by kernel_rfl) (hval 1 38 v1 rfl rfl) h1
    obtain ⟨a_1, b_1, rfl⟩ := list2 hl
    exact ⟨a_1, b_1, rfl, hz a_1 (by simp), hz b_1 (by simp)⟩
  obtain ⟨a2, rfl, i2⟩ : ∃ a : Int, v2 = .int .i64 a ∧ I64 a := by
    obtain ⟨a, rfl, _, _, wa⟩ := open_int Try.underlying3 (hval 2 3 v2 rfl rfl) h2
    exact ⟨a, rfl, I64_of wa⟩
  obtain ⟨a3, rfl, i3⟩ : ∃ a : Int, v3 = .int .i64 a ∧ I64 a := by
    obtain ⟨a, rfl, _, _, wa⟩ := open_int Try.underlying3 (hval 3 3 v3 rfl rfl) h3
    exact ⟨a, rfl, I64_of wa⟩
  clear hA0 hval0
  refine (worldPuts_walk v0 z0 j0 a_1 b_1 i1 a2 i2 a3 i3 W i0).mono fun e W' ⟨he, bel⟩ => ?_
  subst he
  exact ⟨_, rfl, _, _, _, [], _, [], hW', trodAll_mk1 (shut_bool Try.underlying4 _), (trodAll_cons_mk (Below.trod laidOut (by kernel_rfl) (of_decide_eq_true (by kernel_rfl)) k0' bel lt0) (trodAll_cons_mk (Below.trod laidOut (by kernel_rfl) (of_decide_eq_true (by kernel_rfl)) k1' bel lt1) (trodAll_cons_mk (Below.trod laidOut (by kernel_rfl) (of_decide_eq_true (by kernel_rfl)) k2' bel lt2) (trodAll_cons_mk (Below.trod laidOut (by kernel_rfl) (of_decide_eq_true (by kernel_rfl)) k3' bel lt3) trodAll_mk0)))), rfl, bel.frame _, fun h => by cases h⟩
end worldPuts

theorem worldPuts_proved : Rows.WorldPutsSaid :=
  OpenClaim.holds_of_wide 5 Try.f5 rfl rfl rfl rfl rfl rfl rfl ⟨rfl, rfl, rfl, rfl, rfl⟩ rfl rfl rfl rfl rfl (by kernel_rfl) Try.func5 (by kernel_rfl)
    (of_decide_eq_true (by kernel_rfl)) (by unfold Func.isWrapper; first | (rw [if_pos (by decide +kernel)]; kernel_rfl) | (rw [if_neg (by decide +kernel)]; exact ⟨rfl, rfl⟩))
    (fun os started H enc _ => worldPuts.lifted os started H enc)

end Go.Proofs.Ytakoejopgdaknaa

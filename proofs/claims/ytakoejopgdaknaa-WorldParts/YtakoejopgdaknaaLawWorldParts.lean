/- The entities that match a query and those that do not are together all entities: the statement WorldParts. No condition. -/
import Derived.Test.YtakoejopgdaknaaGroundA
import Derived.Test.YtakoejopgdaknaaKeepWorld
import Derived.Test.YtakoejopgdaknaaKeepLived
import Derived.Test.YtakoejopgdaknaaRowFacts
import Derived.Test.YtakoejopgdaknaaRowEq
namespace Go.Proofs.Ytakoejopgdaknaa
set_option maxRecDepth 8000
open Go.ChangeShapes Go.WideShapes Go.ChangeAt Go.RowKit
set_option linter.unusedVariables false

theorem matches_isW {m a b c : Int} {r : Bool} (w : World) (h : matchB m a b c = r) :
    Calls Try.prog 29 #[.int .i64 m, .agg #[.int .i64 a, .int .i64 b, .int .i64 c]] w fun e w' => e = .returned (.bool r) ∧ Below w.heap.size w w' :=
  (matches_any m a b c w).mono fun _ _ ⟨he, hw⟩ => ⟨by rw [← h]; exact he, by subst hw; exact nb_alloc (Below.refl _ _) _⟩
theorem and_zeroW (m : Int) : bits .and .i64 m 0 = 0 := i64_ext (and_I64 _ _) ⟨by decide, by decide⟩ fun k hk => by rw [tb_and _ _ k hk, tb_zero, Bool.and_false]
theorem needW {m : Int} {j : Nat} (h0 : 0 ≤ m) (h1 : m ≤ 255) (hj : j < 8) : matchB m (2 ^ j) 0 0 = tb m j := by
  have hp := pow_pos2 j
  rw [matchB, bit_and _ _ h0 h1 hj, and_zeroW]
  cases tb m j
  · have : ((0 : Int) == 2 ^ j) = false := by simp; omega
    simp [this]
  · simp
theorem notW {m : Int} {j : Nat} (h0 : 0 ≤ m) (h1 : m ≤ 255) (hj : j < 8) : matchB m 0 (2 ^ j) 0 = !tb m j := by
  have hp := pow_pos2 j
  rw [matchB, bit_and _ _ h0 h1 hj, and_zeroW]
  cases tb m j
  · simp
  · have : ((2 : Int) ^ j == 0) = false := by simp; omega
    simp [this]
theorem filter_congrR {rows : List Rw} {p q : Rw → Bool} (h : ∀ r ∈ rows, p r = q r) : rows.filter p = rows.filter q := List.filter_congr h
theorem qErr_pow {j : Nat} (hj : j < 8) : qErr (2 ^ j) 0 0 = 0 ∧ qErr 0 (2 ^ j) 0 = 0 := by
  have : ∀ j : Fin 8, qErr (2 ^ j.val) 0 0 = 0 ∧ qErr 0 (2 ^ j.val) 0 = 0 := by decide
  exact this ⟨j, hj⟩
theorem qErr_or (a b c : Int) : qErr a b c = 0 ∨ qErr a b c = 1 := by unfold qErr; split <;> simp

set_option maxRecDepth 100000 in
set_option maxHeartbeats 8000000 in
theorem worldParts_walk (u0 : Value) (z0 : List Opm) (j0 : ∀ x ∈ z0, OpOk x) (a1 : Int) (i1 : I64 a1) (a2 b2 c2 : Int) (i2 : I64 a2) (j2 : I64 b2) (k2 : I64 c2) (w : World) (i0 : Reads elOp w u0 z0) :
    Calls Try.prog 7 #[u0, .int .i64 a1, .agg #[.int .i64 a2, .int .i64 b2, .int .i64 c2]] w fun e w' => e = .returned (.bool true) ∧ Below w.heap.size w w' := by
  have HI := Lib.hid i0
  have HJ := Lib.hid j0
  clear i0 j0 i1 i2 j2 k2
  have hX : Below w.heap.size w (w.alloc (.cells #[.int .i64 a2, .int .i64 b2, .int .i64 c2] 50)) := nb_alloc (Below.refl _ _) _
  have hxb : (w.alloc (.cells #[.int .i64 a2, .int .i64 b2, .int .i64 c2] 50)).heap[w.heap.size]? = some (.cells #[.int .i64 a2, .int .i64 b2, .int .i64 c2] 50) := heap_alloc_new _ _
  have HX := Lib.hid hX
  have HXB := Lib.hid hxb
  clear hX hxb
  obtain ⟨j, hja⟩ : ∃ j : Nat, a1 % 8 = (j : Int) := ⟨(a1 % 8).toNat, by omega⟩
  have hj : j < 8 := by omega
  have HJA := Lib.hid hja
  clear hja
  go_enter Try.func7, Try.ntmps7
  go_wp2_with fail
  generalize w.alloc (.cells #[.int .i64 a2, .int .i64 b2, .int .i64 c2] 50) = X at *
  refine (lived_any _).mono ?_
  rintro e w1 ⟨rfl, hb1⟩
  have HB1 := Lib.hid hb1
  clear hb1
  go_wp2_with fail
  refine (made_any u0 z0 _ (HI.out.later (nb_trans HX.out HB1.out)) HJ.out).mono ?_
  rintro e w2 ⟨p, F, rfl, h2, hF, hb2⟩
  have hok := WOk.made z0
  generalize (madeW z0).1 = l at *
  generalize (madeW z0).2 = rows at *
  have HW := Lib.hid h2
  have HOK := Lib.hid hok
  have HB2 : Hid (Below X.heap.size X w2) := Lib.hid (nb_trans HB1.out hb2)
  clear h2 hok hF hb2
  go_wp2_with fail
  refine (rest_any _ _ _ (by omega) (by omega)).mono ?_
  rintro e w' ⟨rfl, rfl⟩
  rw [HJA.out]
  obtain ⟨s, hs⟩ : ∃ s : Int, 2 ^ j = s := ⟨_, rfl⟩
  have hw2 : IntKind.i64.wrap (2 ^ j) = s := (wrap_small j hj).trans hs
  have HQ1 : Hid (qErr s 0 0 = 0) := Lib.hid (by rw [← hs]; exact (qErr_pow hj).1)
  have HQ2 : Hid (qErr 0 s 0 = 0) := Lib.hid (by rw [← hs]; exact (qErr_pow hj).2)
  have HR1 : Hid (rowsQ rows s 0 0 = rows.filter (fun r => tb r.m j)) := Lib.hid (by
    rw [rowsQ, if_pos HQ1.out]
    exact filter_congrR (fun r hr => by have := (bErr_zero (HOK.out.ok r hr)).1; rw [← hs]; exact needW this.1 this.2 hj))
  have HR2 : Hid (rowsQ rows 0 s 0 = rows.filter (fun r => !tb r.m j)) := Lib.hid (by
    rw [rowsQ, if_pos HQ2.out]
    exact filter_congrR (fun r hr => by have := (bErr_zero (HOK.out.ok r hr)).1; rw [← hs]; exact notW this.1 this.2 hj))
  clear hs
  go_wp2_with fail
  refine (worldRows_any p F l rows s 0 0 _ HW.out HOK.out).mono ?_
  rintro e w3 ⟨v3, rfl, ho3, hb3⟩
  rw [HQ1.out]
  rw [HR1.out] at ho3
  have HB3 := Lib.hid hb3
  have HO3 := Lib.hid ho3.reads
  obtain ⟨ad3, cap3, rfl, -⟩ := ho3.reads
  clear ho3 hb3
  go_wp2_with fail
  refine (worldRows_any p F l rows 0 s 0 _ (HW.out.later HB3.out) HOK.out).mono ?_
  rintro e w4 ⟨v4, rfl, ho4, hb4⟩
  rw [HQ2.out]
  rw [HR2.out] at ho4
  have HB4 := Lib.hid (nb_trans HB3.out hb4)
  have HO4 := Lib.hid ho4.reads
  have HO34 := Lib.hid (HO3.out.later hb4)
  obtain ⟨ad4, cap4, rfl, -⟩ := ho4.reads
  clear ho4 hb4 HO3
  have hxl : w.heap.size < X.heap.size := (Array.getElem?_eq_some_iff.1 HXB.out).1
  have HXY : Hid (∀ Y, Below w2.heap.size w2 Y → Y.heap[w.heap.size]? = some (.cells #[.int .i64 a2, .int .i64 b2, .int .i64 c2] 50)) := Lib.hid (fun Y hY => by rw [hY.block _ (Nat.lt_of_lt_of_le hxl HB2.out.size), HB2.out.block _ hxl]; exact HXB.out)
  have k0 : w4.cell? ⟨w.heap.size, 0, none⟩ = some (.int .i64 a2) := by rw [cell_of_row _ _ _ _ _ _ (HXY.out w4 HB4.out)]; rfl
  have k1 : w4.cell? ⟨w.heap.size, 1, none⟩ = some (.int .i64 b2) := by rw [cell_of_row _ _ _ _ _ _ (HXY.out w4 HB4.out)]; rfl
  have k2 : w4.cell? ⟨w.heap.size, 2, none⟩ = some (.int .i64 c2) := by rw [cell_of_row _ _ _ _ _ _ (HXY.out w4 HB4.out)]; rfl
  have hx4 : w.heap.size < w4.heap.size := (Array.getElem?_eq_some_iff.1 (HXY.out w4 HB4.out)).1
  go_wp2_with fail
  refine (worldRows_any p F l rows a2 b2 c2 _ (HW.out.later HB4.out) HOK.out).mono ?_
  rintro e w5 ⟨v5, rfl, ho5, hb5⟩
  have HB5 := Lib.hid (nb_trans HB4.out hb5)
  have HO5 := Lib.hid ho5.reads
  have HO35 := Lib.hid (HO34.out.later hb5)
  have HO45 := Lib.hid (HO4.out.later hb5)
  clear ho5 hb5 HO34 HO4 k0 k1 k2 hx4
  have HQE : Hid (qErr a2 b2 c2 = 0 → rowsQ rows a2 b2 c2 = rows.filter (fun r => matchB r.m a2 b2 c2)) := Lib.hid (fun h => by rw [rowsQ, if_pos h])
  have hq01 := qErr_or a2 b2 c2
  have hlen := filter_both rows (fun r => tb r.m j)
  have hr60 := HOK.out.len60
  generalize hn1 : (rows.filter (fun r => tb r.m j)).length = n1 at *
  generalize hn2 : (rows.filter (fun r => !tb r.m j)).length = n2 at *
  generalize hn : rows.length = n at *
  have HN := Lib.hid hn
  have hadd : ((n1 : Int) + (n2 : Int) != (n : Int)) = false := by simp; omega
  have hwr : IntKind.i64.wrap ((n1 : Int) + (n2 : Int)) = (n1 : Int) + (n2 : Int) := IntWalk.i64_in _ (by omega)
  clear hn hn1 hn2
  go_wp2_with fail
  refine (keepAll_any p F l rows _ (HW.out.later HB5.out) HOK.out).mono ?_
  rintro e w6 ⟨v6, rfl, ho6, hb6⟩
  have HB6 := Lib.hid (nb_trans HB5.out hb6)
  have HO6 := Lib.hid hb6
  obtain ⟨ad6, cap6, rfl, -⟩ := ho6.reads
  rw [HN.out]
  clear ho6 hb6
  go_wp2_with fail
  refine (keepAll_any p F l rows _ (HW.out.later HB6.out) HOK.out).mono ?_
  rintro e w7 ⟨v7, rfl, ho7, hb7⟩
  have HB7 := Lib.hid (nb_trans HB6.out hb7)
  have HX7 : Hid (∀ Y, Below w7.heap.size w7 Y → Below w5.heap.size w5 Y) := Lib.hid (fun Y hY => nb_trans (nb_trans HO6.out hb7) hY)
  obtain ⟨hm7, hx7⟩ := ho7.reads.open
  rw [HN.out] at hm7 hx7
  clear ho7 hb7 HO6 hadd hwr hlen
  generalize hqe : qErr a2 b2 c2 = qe at *
  have HQ := Lib.hid hqe
  clear hqe
  rcases hx7 with ⟨a, cap, rfl, hz⟩ | ⟨b, off, cap, rfl, hb, hlc, hcm, hc⟩
  all_goals
    go_wp2
    go_loopw [66] (fun i wr => ∃ t : Nat, t ≤ n ∧ i = .int .i64 t ∧ Hid (Below w7.heap.size w7 wr)) (fun i _ => n - (intOf i).toNat)
    case atStart => exact ⟨0, by omega, rfl, Below.refl _ _⟩
    case round =>
      obtain ⟨t, htn, rfl, hB⟩ := hrel
      by_cases hlt : t < n
      · first
          | omega
          | (have hcr : ∀ jj, jj < 11 → wr.cell? ⟨b, off + t * 11 + jj, none⟩ = (elRow.enc (rows.getD t rowZ))[jj]? := fun jj hjj => by rw [hB.out.cell (p := ⟨b, _, none⟩) hb]; exact hc t hlt jj hjj
             have HMEM : Hid (rows.getD t rowZ ∈ rows) := Lib.hid (mem_getD (by rw [HN.out]; exact hlt))
             clear hc
             generalize rows.getD t rowZ = r at *
             have hbw : b < wr.heap.size := Nat.lt_of_lt_of_le hb hB.out.size
             have c0 : wr.cell? ⟨b, off + t * 11, none⟩ = some (.int .i64 r.s) := hcr 0 (by decide)
             have c1 : wr.cell? ⟨b, off + t * 11 + 1, none⟩ = some (.int .i64 r.g) := hcr 1 (by decide)
             have c2 : wr.cell? ⟨b, off + t * 11 + 2, none⟩ = some (.int .i64 r.m) := hcr 2 (by decide)
             have c3 : wr.cell? ⟨b, off + t * 11 + 3, none⟩ = some (.int .i64 (r.f 0)) := hcr 3 (by decide)
             have c4 : wr.cell? ⟨b, off + t * 11 + 4, none⟩ = some (.int .i64 (r.f 1)) := hcr 4 (by decide)
             have c5 : wr.cell? ⟨b, off + t * 11 + 5, none⟩ = some (.int .i64 (r.f 2)) := hcr 5 (by decide)
             have c6 : wr.cell? ⟨b, off + t * 11 + 6, none⟩ = some (.int .i64 (r.f 3)) := hcr 6 (by decide)
             have c7 : wr.cell? ⟨b, off + t * 11 + 7, none⟩ = some (.int .i64 (r.f 4)) := hcr 7 (by decide)
             have c8 : wr.cell? ⟨b, off + t * 11 + 8, none⟩ = some (.int .i64 (r.f 5)) := hcr 8 (by decide)
             have c9 : wr.cell? ⟨b, off + t * 11 + 9, none⟩ = some (.int .i64 (r.f 6)) := hcr 9 (by decide)
             have c10 : wr.cell? ⟨b, off + t * 11 + 10, none⟩ = some (.int .i64 (r.f 7)) := hcr 10 (by decide)
             clear hcr
             have HBA := Lib.hid (nb_alloc hB.out (.cells #[.int .i64 r.s, .int .i64 r.g, .int .i64 r.m, .int .i64 (r.f 0), .int .i64 (r.f 1), .int .i64 (r.f 2), .int .i64 (r.f 3), .int .i64 (r.f 4), .int .i64 (r.f 5), .int .i64 (r.f 6), .int .i64 (r.f 7)] 55))
             have hA6 : (wr.alloc (.cells #[.int .i64 r.s, .int .i64 r.g, .int .i64 r.m, .int .i64 (r.f 0), .int .i64 (r.f 1), .int .i64 (r.f 2), .int .i64 (r.f 3), .int .i64 (r.f 4), .int .i64 (r.f 5), .int .i64 (r.f 6), .int .i64 (r.f 7)] 55)).heap[wr.heap.size]? = some (.cells #[.int .i64 r.s, .int .i64 r.g, .int .i64 r.m, .int .i64 (r.f 0), .int .i64 (r.f 1), .int .i64 (r.f 2), .int .i64 (r.f 3), .int .i64 (r.f 4), .int .i64 (r.f 5), .int .i64 (r.f 6), .int .i64 (r.f 7)] 55) := heap_alloc_new _ _
             go_wp2_with fail
             generalize wr.alloc (.cells #[.int .i64 r.s, .int .i64 r.g, .int .i64 r.m, .int .i64 (r.f 0), .int .i64 (r.f 1), .int .i64 (r.f 2), .int .i64 (r.f 3), .int .i64 (r.f 4), .int .i64 (r.f 5), .int .i64 (r.f 6), .int .i64 (r.f 7)] 55) = W at *
             clear c0 c1 c2 c3 c4 c5 c6 c7 c8 c9 c10
             have HBX := Lib.hid (HX7.out W HBA.out)
             have hxw := HXY.out W (nb_trans HB5.out HBX.out)
             have p0 : ∀ x : Later W, x.w.cell? ⟨wr.heap.size, 0, none⟩ = some (.int .i64 r.s) := fun x => x.cell (by rw [cell_of_row _ _ _ _ _ _ hA6]; rfl)
             have p1 : ∀ x : Later W, x.w.cell? ⟨wr.heap.size, 1, none⟩ = some (.int .i64 r.g) := fun x => x.cell (by rw [cell_of_row _ _ _ _ _ _ hA6]; rfl)
             have p2 : ∀ x : Later W, x.w.cell? ⟨wr.heap.size, 2, none⟩ = some (.int .i64 r.m) := fun x => x.cell (by rw [cell_of_row _ _ _ _ _ _ hA6]; rfl)
             have p3 : ∀ x : Later W, x.w.cell? ⟨wr.heap.size, 3, none⟩ = some (.int .i64 (r.f 0)) := fun x => x.cell (by rw [cell_of_row _ _ _ _ _ _ hA6]; rfl)
             have p4 : ∀ x : Later W, x.w.cell? ⟨wr.heap.size, 4, none⟩ = some (.int .i64 (r.f 1)) := fun x => x.cell (by rw [cell_of_row _ _ _ _ _ _ hA6]; rfl)
             have p5 : ∀ x : Later W, x.w.cell? ⟨wr.heap.size, 5, none⟩ = some (.int .i64 (r.f 2)) := fun x => x.cell (by rw [cell_of_row _ _ _ _ _ _ hA6]; rfl)
             have p6 : ∀ x : Later W, x.w.cell? ⟨wr.heap.size, 6, none⟩ = some (.int .i64 (r.f 3)) := fun x => x.cell (by rw [cell_of_row _ _ _ _ _ _ hA6]; rfl)
             have p7 : ∀ x : Later W, x.w.cell? ⟨wr.heap.size, 7, none⟩ = some (.int .i64 (r.f 4)) := fun x => x.cell (by rw [cell_of_row _ _ _ _ _ _ hA6]; rfl)
             have p8 : ∀ x : Later W, x.w.cell? ⟨wr.heap.size, 8, none⟩ = some (.int .i64 (r.f 5)) := fun x => x.cell (by rw [cell_of_row _ _ _ _ _ _ hA6]; rfl)
             have p9 : ∀ x : Later W, x.w.cell? ⟨wr.heap.size, 9, none⟩ = some (.int .i64 (r.f 6)) := fun x => x.cell (by rw [cell_of_row _ _ _ _ _ _ hA6]; rfl)
             have p10 : ∀ x : Later W, x.w.cell? ⟨wr.heap.size, 10, none⟩ = some (.int .i64 (r.f 7)) := fun x => x.cell (by rw [cell_of_row _ _ _ _ _ _ hA6]; rfl)
             have k0 : ∀ x : Later W, x.w.cell? ⟨w.heap.size, 0, none⟩ = some (.int .i64 a2) := fun x => x.cell (by rw [cell_of_row _ _ _ _ _ _ hxw]; rfl)
             have k1 : ∀ x : Later W, x.w.cell? ⟨w.heap.size, 1, none⟩ = some (.int .i64 b2) := fun x => x.cell (by rw [cell_of_row _ _ _ _ _ _ hxw]; rfl)
             have k2 : ∀ x : Later W, x.w.cell? ⟨w.heap.size, 2, none⟩ = some (.int .i64 c2) := fun x => x.cell (by rw [cell_of_row _ _ _ _ _ _ hxw]; rfl)
             have HU : Hid (∀ q : Rw → Bool, ∀ y ∈ rows.filter q, y.s = r.s → y = r) := Lib.hid (fun q y hy e => HOK.out.eqS (List.mem_filter.1 hy).1 HMEM.out e)
             have HH3 : Hid (∀ x : Later W, Calls Try.prog 28 #[.slice ad3 n1 cap3, .agg #[.int .i64 r.s, .int .i64 r.g, .int .i64 r.m, .int .i64 (r.f 0), .int .i64 (r.f 1), .int .i64 (r.f 2), .int .i64 (r.f 3), .int .i64 (r.f 4), .int .i64 (r.f 5), .int .i64 (r.f 6), .int .i64 (r.f 7)]] x.w fun e w' => e = .returned (.bool (tb r.m j)) ∧ Below x.w.heap.size x.w w') := Lib.hid (fun x => by
               have := refHasRow_any _ _ r x.w (HO35.out.later (nb_trans HBX.out x.below)) (HU.out _)
               rw [HOK.out.anyF HMEM.out] at this; exact this)
             have HH4 : Hid (∀ x : Later W, Calls Try.prog 28 #[.slice ad4 n2 cap4, .agg #[.int .i64 r.s, .int .i64 r.g, .int .i64 r.m, .int .i64 (r.f 0), .int .i64 (r.f 1), .int .i64 (r.f 2), .int .i64 (r.f 3), .int .i64 (r.f 4), .int .i64 (r.f 5), .int .i64 (r.f 6), .int .i64 (r.f 7)]] x.w fun e w' => e = .returned (.bool (!tb r.m j)) ∧ Below x.w.heap.size x.w w') := Lib.hid (fun x => by
               have := refHasRow_any _ _ r x.w (HO45.out.later (nb_trans HBX.out x.below)) (HU.out _)
               rw [HOK.out.anyF HMEM.out] at this; exact this)
             have HH5 : Hid (qe = 0 → ∀ x : Later W, Calls Try.prog 28 #[v5, .agg #[.int .i64 r.s, .int .i64 r.g, .int .i64 r.m, .int .i64 (r.f 0), .int .i64 (r.f 1), .int .i64 (r.f 2), .int .i64 (r.f 3), .int .i64 (r.f 4), .int .i64 (r.f 5), .int .i64 (r.f 6), .int .i64 (r.f 7)]] x.w fun e w' => e = .returned (.bool (matchB r.m a2 b2 c2)) ∧ Below x.w.heap.size x.w w') := Lib.hid (fun h0 x => by
               have hh := HO5.out
               rw [HQE.out h0] at hh
               have := refHasRow_any _ _ r x.w (hh.later (nb_trans HBX.out x.below)) (HU.out _)
               rw [HOK.out.anyF HMEM.out] at this; exact this)
             clear hA6 hxw HU
             rcases hq01 with rfl | rfl
             · cases hmm : matchB r.m a2 b2 c2 <;> cases ht : tb r.m j
               all_goals
                 rw [hmm] at HH5
                 rw [ht] at HH3 HH4
                 refine wp_region_later (by kernel_rfl) (by kernel_rfl) ?_
                 repeat (go_big_quiet_step ((first | (go_at_call 28; first | with_reducible exact Calls.later (HH3.out _) | with_reducible exact Calls.later (HH4.out _) | with_reducible exact Calls.later (HH5.out rfl _)) | (go_at_call 29; exact Calls.later (matches_isW _ hmm)))))
                 refine wpQuiet_nil ?_
                 rintro _ ⟨nq, rfl⟩
                 go_wp2
                 go_roundw
                 case rel => exact ⟨t + 1, by omega, by go_num, nb_trans HBA.out nq.below⟩
                 case measure => simp [intOf]; omega
             · cases ht : tb r.m j
               all_goals
                 rw [ht] at HH3 HH4
                 refine wp_region_later (by kernel_rfl) (by kernel_rfl) ?_
                 repeat (go_big_quiet_step ((first | (go_at_call 28; first | with_reducible exact Calls.later (HH3.out _) | with_reducible exact Calls.later (HH4.out _)))))
                 refine wpQuiet_nil ?_
                 rintro _ ⟨nq, rfl⟩
                 go_wp2
                 go_roundw
                 case rel => exact ⟨t + 1, by omega, by go_num, nb_trans HBA.out nq.below⟩
                 case measure => simp [intOf]; omega)
      · obtain rfl : t = n := by omega
        have HBN := Lib.hid (nb_trans (nb_trans (nb_trans HX.out HB2.out) HB7.out) hB.out)
        go_wp2
        go_ret
        exact ⟨rfl, HBN.out⟩

namespace worldParts
theorem own : ownKnob Try.prog.godebug = none := by kernel_rfl
theorem laidOut : laidOutB Try.prog = true := by kernel_rfl

set_option maxRecDepth 100000 in
set_option maxHeartbeats 4000000 in
theorem lifted (os : Os) (started : os.Started) (H : Type) (enc : TypeId × Value → H) :
    ReturnsInHanded {} Try.checked os 7 .any (Rows.worldPartsSpec.pre6 enc Try.prog Try.f7 Rows.worldPartsRow.domain false) (Rows.worldPartsSpec.post enc Try.prog Try.f7 false true false false) := by
  refine returnsInHanded_of_change (C := Try.checked) own started (by kernel_rfl) Try.func7
    (ChangeSpec.witness6 (enc := enc) (C := Try.checked) false ⟨#[], #[.slice none 0 0, .int .i64 0, .agg #[.int .i64 0, .int .i64 0, .int .i64 0]], []⟩ 8 (by kernel_rfl) (by kernel_rfl) (by kernel_rfl) (by kernel_rfl)) ?_
  intro W base args ds gs before hval0 hW hcnd _
  have hval : ∀ (j : Nat) t v, Try.f7.params[j]? = some t → args[j]? = some v → Value.okWide Try.prog W .any base t v := hval0
  have hW' := hW
  obtain ⟨p, q, hA0, hV, rfl, hfz, hnd⟩ := hW
  have hA : DataW.TrodAll enc Try.prog W 0 (fun _ => true) true Try.f7.params.toList args.toList ds p := hA0
  rw [Try.params7] at hA hval
  obtain ⟨v0, vs0, d0, ds0, p0, q0, hargs, rfl, rfl, h0, r0⟩ := trodAll_cons hA
  obtain ⟨v1, vs1, d1, ds1, p1, q1, rfl, rfl, rfl, h1, r1⟩ := trodAll_cons r0
  obtain ⟨v2, vs2, d2, ds2, p2, q2, rfl, rfl, rfl, h2, r2⟩ := trodAll_cons r1
  obtain ⟨rfl, rfl, rfl⟩ := trodAll_nil r2
  obtain rfl : args = #[v0, v1, v2] := by cases args; simp_all
  obtain ⟨rfl, rfl⟩ := trodVars_none hV
  have k0' := h0
  have lt0 : ∀ x ∈ p0, x.block < W.heap.size := by obtain ⟨m, hm⟩ := h0; exact DataW.trod_lt m _ _ _ hm
  have k1' := h1
  have lt1 : ∀ x ∈ p1, x.block < W.heap.size := by obtain ⟨m, hm⟩ := h1; exact DataW.trod_lt m _ _ _ hm
  have k2' := h2
  have lt2 : ∀ x ∈ p2, x.block < W.heap.size := by obtain ⟨m, hm⟩ := h2; exact DataW.trod_lt m _ _ _ hm
  obtain ⟨z0, i0, j0⟩ : ∃ zs, Reads elOp W v0 zs ∧ ∀ x ∈ zs, OpOk x := by
    obtain ⟨a0, len0, cap0, rfl⟩ := okWide_slice Try.underlying22 (hval 0 22 v0 rfl rfl)
    exact Reads_ofP elOp OpOk Try.underlying22 (by kernel_rfl) op_dec h0
  obtain ⟨a1, rfl, i1⟩ : ∃ a : Int, v1 = .int .i64 a ∧ I64 a := by
    obtain ⟨a, rfl, _, _, wa⟩ := open_int Try.underlying3 (hval 1 3 v1 rfl rfl) h1
    exact ⟨a, rfl, I64_of wa⟩
  obtain ⟨a2, b2, c2, rfl, i2, j2, k2⟩ : ∃ a b c : Int, v2 = .agg #[.int .i64 a, .int .i64 b, .int .i64 c] ∧ I64 a ∧ I64 b ∧ I64 c := by
    obtain ⟨c0, c1, c2, y0, y1, y2, m, rfl, _, _, hy0, hy1, hy2⟩ := Go.Joins.open_agg3 Try.underlying50 (by kernel_rfl) (show Try.prog.cellsOf 50 = 3 by kernel_rfl) (hval 2 50 v2 rfl rfl) h2
    obtain ⟨a, e0, _, wa⟩ := DataW.trod_int Try.underlying3 hy0
    obtain ⟨b, e1, _, wb⟩ := DataW.trod_int Try.underlying3 hy1
    obtain ⟨c, e2, _, wc⟩ := DataW.trod_int Try.underlying3 hy2
    simp at e0 e1 e2
    exact ⟨a, b, c, by rw [e0, e1, e2], I64_of wa, I64_of wb, I64_of wc⟩
  clear hA0 hval0
  refine (worldParts_walk v0 z0 j0 a1 i1 a2 b2 c2 i2 j2 k2 W i0).mono fun e W' ⟨he, bel⟩ => ?_
  subst he
  exact ⟨_, rfl, _, _, _, [], _, [], hW', trodAll_mk1 (shut_bool Try.underlying4 _), (trodAll_cons_mk (Below.trod laidOut (by kernel_rfl) (of_decide_eq_true (by kernel_rfl)) k0' bel lt0) (trodAll_cons_mk (Below.trod laidOut (by kernel_rfl) (of_decide_eq_true (by kernel_rfl)) k1' bel lt1) (trodAll_cons_mk (Below.trod laidOut (by kernel_rfl) (of_decide_eq_true (by kernel_rfl)) k2' bel lt2) trodAll_mk0))), rfl, bel.frame _, fun h => by cases h⟩
end worldParts

theorem worldParts_proved : Rows.WorldPartsSaid :=
  OpenClaim.holds_of_wide 7 Try.f7 rfl rfl rfl rfl rfl rfl rfl ⟨rfl, rfl, rfl, rfl, rfl⟩ rfl rfl rfl rfl rfl (by kernel_rfl) Try.func7 (by kernel_rfl)
    (of_decide_eq_true (by kernel_rfl)) (by unfold Func.isWrapper; first | (rw [if_pos (by decide +kernel)]; kernel_rfl) | (rw [if_neg (by decide +kernel)]; exact ⟨rfl, rfl⟩))
    (fun os started H enc _ => worldParts.lifted os started H enc)

end Go.Proofs.Ytakoejopgdaknaa

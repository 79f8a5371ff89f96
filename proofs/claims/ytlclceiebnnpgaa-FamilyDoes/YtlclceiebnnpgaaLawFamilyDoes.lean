/- After any sequence of calls, a family returns the results of the reference: the statement FamilyDoes. No condition. -/
import Derived.Test.YtlclceiebnnpgaaGroundA
import Derived.Test.YtlclceiebnnpgaaLawRelated
namespace Go.Proofs.Ytlclceiebnnpgaa
open Go.ChangeShapes Go.WideShapes Go.ChangeAt Go.RowKit
set_option linter.unusedVariables false

set_option maxRecDepth 100000 in
set_option maxHeartbeats 8000000 in
theorem familyDoes_walk (u0 : Value) (z0 : List Opm) (j0 : ∀ x ∈ z0, OpOk x) (w : World) (i0 : Reads elOp w u0 z0) (s0 : z0.length * 128 ≤ 140737488351232) :
    Calls Try.prog 3 #[u0] w fun e w' => e = .returned (.bool true) ∧ Below w.heap.size w w' := by
  have HJ := Lib.hid j0
  obtain ⟨hm, hop⟩ := i0.open
  unfold maxLen at hm
  obtain ⟨n, hn⟩ : ∃ n, z0.length = n := ⟨_, rfl⟩
  have HN := Lib.hid hn
  rw [hn] at hm hop s0
  clear i0 j0 hn
  rcases hop with ⟨a, cap, rfl, hz0⟩ | ⟨b, off, cap, rfl, hb, hlc, hcm, hcc⟩
  all_goals
    go_enter Try.func3, Try.ntmps3
    go_wp2_with fail
    refine (famNew_any _).mono ?_
    rintro e w1 ⟨rfl, hw1⟩
    have HBT := Lib.hid (BothF.start hw1)
    clear hw1
    go_wp2
    generalize hq : w1.heap.size = q at *
    clear hq
    generalize w1.alloc (.cells #[.slice none 0 0, .slice none 0 0, .slice none 0 0, .slice none 0 0] 33) = w2 at *
    go_loopw [18] (fun i wr => ∃ (t : Nat) (F G : Nat → Prop), t ≤ n ∧ i = .int .i64 t ∧ Hid (BothF w wr w.heap.size q F G (famL (z0.take t)))) (fun i _ => n - (intOf i).toNat)
    case atStart => exact ⟨0, _, _, by omega, rfl, HBT⟩
    case round =>
      obtain ⟨t, F, G, htn, rfl, hT⟩ := hrel
      have hmd := FOk.made (zs := z0.take t) (fun x hx => HJ.out x (List.mem_of_mem_take hx))
      have HOK : Hid (FOk (famL (z0.take t))) := Lib.hid hmd.1
      have hsl : (famL (z0.take t)).length ≤ n := Nat.le_trans hmd.2 (by rw [List.length_take, HN.out]; omega)
      clear hmd
      by_cases hlt : t < n
      · first
          | omega
          | (obtain ⟨o, ho⟩ : ∃ o, z0.getD t opZ = o := ⟨_, rfl⟩
             have htl : t < z0.length := by rw [HN.out]; exact hlt
             have hcr : ∀ jj, jj < 16 → wr.cell? ⟨b, off + t * 16 + jj, none⟩ = (elOp.enc o)[jj]? := fun jj hjj => by rw [hT.out.below.cell (p := ⟨b, _, none⟩) hb, ← ho]; exact hcc t hlt jj hjj
             have c0 : wr.cell? ⟨b, off + t * 16, none⟩ = some (.int .i64 o.d) := hcr 0 (by decide)
             have c1 : wr.cell? ⟨b, off + t * 16 + 1, none⟩ = some (.int .i64 o.m) := hcr 1 (by decide)
             have c2 : wr.cell? ⟨b, off + t * 16 + 2, none⟩ = some (.int .i64 (o.f 0)) := hcr 2 (by decide)
             have c3 : wr.cell? ⟨b, off + t * 16 + 3, none⟩ = some (.int .i64 (o.f 1)) := hcr 3 (by decide)
             have c4 : wr.cell? ⟨b, off + t * 16 + 4, none⟩ = some (.int .i64 (o.f 2)) := hcr 4 (by decide)
             have c5 : wr.cell? ⟨b, off + t * 16 + 5, none⟩ = some (.int .i64 (o.f 3)) := hcr 5 (by decide)
             have c6 : wr.cell? ⟨b, off + t * 16 + 6, none⟩ = some (.int .i64 (o.f 4)) := hcr 6 (by decide)
             have c7 : wr.cell? ⟨b, off + t * 16 + 7, none⟩ = some (.int .i64 (o.f 5)) := hcr 7 (by decide)
             have c8 : wr.cell? ⟨b, off + t * 16 + 8, none⟩ = some (.int .i64 (o.f 6)) := hcr 8 (by decide)
             have c9 : wr.cell? ⟨b, off + t * 16 + 9, none⟩ = some (.int .i64 (o.f 7)) := hcr 9 (by decide)
             have c10 : wr.cell? ⟨b, off + t * 16 + 10, none⟩ = some (.int .i64 o.a) := hcr 10 (by decide)
             have c11 : wr.cell? ⟨b, off + t * 16 + 11, none⟩ = some (.int .i64 o.b) := hcr 11 (by decide)
             have c12 : wr.cell? ⟨b, off + t * 16 + 12, none⟩ = some (.int .i64 o.ta) := hcr 12 (by decide)
             have c13 : wr.cell? ⟨b, off + t * 16 + 13, none⟩ = some (.int .i64 o.tb) := hcr 13 (by decide)
             have c14 : wr.cell? ⟨b, off + t * 16 + 14, none⟩ = some (.int .i64 o.k) := hcr 14 (by decide)
             have c15 : wr.cell? ⟨b, off + t * 16 + 15, none⟩ = some (.int .i64 o.n) := hcr 15 (by decide)
             have HTK : Hid (famL (z0.take (t + 1)) = stepB (famL (z0.take t)) o) := Lib.hid (by rw [takeF_snoc z0 t opZ htl, ho, famL_snoc])
             have HOP : Hid (OpOk o) := Lib.hid (HJ.out o (by rw [← ho]; exact memD htl))
             obtain ⟨s, hs⟩ : ∃ s, famL (z0.take t) = s := ⟨_, rfl⟩
             rw [hs] at hT HTK HOK hsl
             have HSL : Hid (s.length * 32 ≤ 140737488300000) := Lib.hid (by omega)
             obtain ⟨s5, hs5⟩ : ∃ s5, stepB s o = s5 := ⟨_, rfl⟩
             have HS5 := Lib.hid hs5
             have HOK5 : Hid (FOk s5 ∧ s5.length * 32 ≤ 140737488355328) := Lib.hid (by have h9 := HOK.out.step HOP.out; rw [hs5] at h9; exact ⟨h9.1, by omega⟩)
             rw [hs5] at HTK
             have hbw : b < wr.heap.size := Nat.lt_of_lt_of_le hb hT.out.below.size
             have HTA := Lib.hid (hT.out.later (nb_alloc (Below.refl _ _) (.cells #[.int .i64 o.d, .int .i64 o.m, .int .i64 (o.f 0), .int .i64 (o.f 1), .int .i64 (o.f 2), .int .i64 (o.f 3), .int .i64 (o.f 4), .int .i64 (o.f 5), .int .i64 (o.f 6), .int .i64 (o.f 7), .int .i64 o.a, .int .i64 o.b, .int .i64 o.ta, .int .i64 o.tb, .int .i64 o.k, .int .i64 o.n] 40)))
             have HBX : Hid ((wr.alloc (.cells #[.int .i64 o.d, .int .i64 o.m, .int .i64 (o.f 0), .int .i64 (o.f 1), .int .i64 (o.f 2), .int .i64 (o.f 3), .int .i64 (o.f 4), .int .i64 (o.f 5), .int .i64 (o.f 6), .int .i64 (o.f 7), .int .i64 o.a, .int .i64 o.b, .int .i64 o.ta, .int .i64 o.tb, .int .i64 o.k, .int .i64 o.n] 40)).heap[wr.heap.size]? = some (.cells #[.int .i64 o.d, .int .i64 o.m, .int .i64 (o.f 0), .int .i64 (o.f 1), .int .i64 (o.f 2), .int .i64 (o.f 3), .int .i64 (o.f 4), .int .i64 (o.f 5), .int .i64 (o.f 6), .int .i64 (o.f 7), .int .i64 o.a, .int .i64 o.b, .int .i64 o.ta, .int .i64 o.tb, .int .i64 o.k, .int .i64 o.n] 40)) := Lib.hid (heap_alloc_new _ _)
             have HNB : Hid (¬ F wr.heap.size ∧ ¬ G wr.heap.size) := Lib.hid ⟨fun h => by have := hT.out.fam.lt _ h; omega, fun h => by have := hT.out.bon.lt _ h; omega⟩
             clear hcr hcc ho hs hT hs5
             go_wp2_with fail
             generalize wr.alloc (.cells #[.int .i64 o.d, .int .i64 o.m, .int .i64 (o.f 0), .int .i64 (o.f 1), .int .i64 (o.f 2), .int .i64 (o.f 3), .int .i64 (o.f 4), .int .i64 (o.f 5), .int .i64 (o.f 6), .int .i64 (o.f 7), .int .i64 o.a, .int .i64 o.b, .int .i64 o.ta, .int .i64 o.tb, .int .i64 o.k, .int .i64 o.n] 40) = A at *
             have HSA : Hid (∀ y : World, y.heap[wr.heap.size]? = some (.cells #[.int .i64 o.d, .int .i64 o.m, .int .i64 (o.f 0), .int .i64 (o.f 1), .int .i64 (o.f 2), .int .i64 (o.f 3), .int .i64 (o.f 4), .int .i64 (o.f 5), .int .i64 (o.f 6), .int .i64 (o.f 7), .int .i64 o.a, .int .i64 o.b, .int .i64 o.ta, .int .i64 o.tb, .int .i64 o.k, .int .i64 o.n] 40) → (y.cell? ⟨wr.heap.size, 0, none⟩ = some (.int .i64 o.d) ∧ y.cell? ⟨wr.heap.size, 1, none⟩ = some (.int .i64 o.m) ∧ y.cell? ⟨wr.heap.size, 2, none⟩ = some (.int .i64 (o.f 0)) ∧ y.cell? ⟨wr.heap.size, 3, none⟩ = some (.int .i64 (o.f 1)) ∧ y.cell? ⟨wr.heap.size, 4, none⟩ = some (.int .i64 (o.f 2)) ∧ y.cell? ⟨wr.heap.size, 5, none⟩ = some (.int .i64 (o.f 3)) ∧ y.cell? ⟨wr.heap.size, 6, none⟩ = some (.int .i64 (o.f 4)) ∧ y.cell? ⟨wr.heap.size, 7, none⟩ = some (.int .i64 (o.f 5)) ∧ y.cell? ⟨wr.heap.size, 8, none⟩ = some (.int .i64 (o.f 6)) ∧ y.cell? ⟨wr.heap.size, 9, none⟩ = some (.int .i64 (o.f 7)) ∧ y.cell? ⟨wr.heap.size, 10, none⟩ = some (.int .i64 o.a) ∧ y.cell? ⟨wr.heap.size, 11, none⟩ = some (.int .i64 o.b) ∧ y.cell? ⟨wr.heap.size, 12, none⟩ = some (.int .i64 o.ta) ∧ y.cell? ⟨wr.heap.size, 13, none⟩ = some (.int .i64 o.tb) ∧ y.cell? ⟨wr.heap.size, 14, none⟩ = some (.int .i64 o.k) ∧ y.cell? ⟨wr.heap.size, 15, none⟩ = some (.int .i64 o.n))) := Lib.hid (fun y hy => by
               refine ⟨?_, ?_, ?_, ?_, ?_, ?_, ?_, ?_, ?_, ?_, ?_, ?_, ?_, ?_, ?_, ?_⟩ <;> (rw [cell_of_row _ _ _ _ _ _ hy]; rfl))
             have HC0 := Lib.hid (HSA.out A HBX.out)
             obtain ⟨ca0, ca1, ca2, ca3, ca4, ca5, ca6, ca7, ca8, ca9, ca10, ca11, ca12, ca13, ca14, ca15⟩ := HC0.out
             clear c0 c1 c2 c3 c4 c5 c6 c7 c8 c9 c10 c11 c12 c13 c14 c15
             have hAl := (Array.getElem?_eq_some_iff.1 HBX.out).1
             have cqA : ∃ vg, A.cell? ⟨q, 3, none⟩ = some vg := by
               obtain ⟨v0, v1, v2, vB, hz⟩ := HTA.out.bon
               exact ⟨vB, hz.cell.1⟩
             go_region_law (first
               | (go_simp
                  go_at_call 9
                  refine (lawRelated_any w.heap.size q F G s s5 o _ (HTA.out.later (Below.refl _ _).drew).fam (HTA.out.later (Below.refl _ _).drew).bon HTA.out.ap HOK.out HSL.out HOP.out HS5.out).mono ?_
                  rintro e w5 hr5
                  obtain ⟨rfl, F5, G5, hT5, k5⟩ := (HTA.out.later (Below.refl _ _).drew).rel hr5
                  have HT5 := Lib.hid hT5
                  have HB5 : Hid (w5.heap[wr.heap.size]? = some (.cells #[.int .i64 o.d, .int .i64 o.m, .int .i64 (o.f 0), .int .i64 (o.f 1), .int .i64 (o.f 2), .int .i64 (o.f 3), .int .i64 (o.f 4), .int .i64 (o.f 5), .int .i64 (o.f 6), .int .i64 (o.f 7), .int .i64 o.a, .int .i64 o.b, .int .i64 o.ta, .int .i64 o.tb, .int .i64 o.k, .int .i64 o.n] 40)) := Lib.hid (by rw [k5.block _ hAl (fun h => h.elim HNB.out.1 HNB.out.2)]; exact HBX.out)
                  obtain ⟨v0, v1, v2, vB, hzi⟩ := hT5.bon
                  obtain ⟨cq5, -, hql5⟩ := hzi.cell
                  have HVB := Lib.hid hzi.own.reads
                  clear hr5 k5 hT5 hzi)
               | (go_simp
                  go_at_call 11
                  refine (famBonds_any _ F5 s5 _ HT5.out.fam HOK5.out.1.sorted HOK5.out.2).mono ?_
                  rintro e w6 ⟨v6, rfl, ho6, hb6⟩
                  have HT6 := Lib.hid (HT5.out.later hb6)
                  have HO6 := Lib.hid ho6.reads
                  have HVB6 := Lib.hid (HVB.out.later hb6)
                  have cq6 : w6.cell? ⟨q, 3, none⟩ = some vB := by rw [hb6.cell (p := ⟨q, 3, none⟩) hql5]; exact cq5
                  have hql6 : q < w6.heap.size := Nat.lt_of_lt_of_le hql5 hb6.size
                  have HB6 : Hid (w6.heap[wr.heap.size]? = some (.cells #[.int .i64 o.d, .int .i64 o.m, .int .i64 (o.f 0), .int .i64 (o.f 1), .int .i64 (o.f 2), .int .i64 (o.f 3), .int .i64 (o.f 4), .int .i64 (o.f 5), .int .i64 (o.f 6), .int .i64 (o.f 7), .int .i64 o.a, .int .i64 o.b, .int .i64 o.ta, .int .i64 o.tb, .int .i64 o.k, .int .i64 o.n] 40)) := Lib.hid (by rw [hb6.block _ (Array.getElem?_eq_some_iff.1 HB5.out).1]; exact HB5.out)
                  clear ho6 hb6)
               | (go_simp
                  go_at_call 10
                  refine (eqBond_any _ _ _ _ _ HO6.out HVB6.out).mono ?_
                  rintro e w7 ⟨rfl, hb7⟩
                  rw [decide_eq_true rfl]
                  have HT7 := Lib.hid (HT6.out.later hb7)
                  have HB7 : Hid (w7.heap[wr.heap.size]? = some (.cells #[.int .i64 o.d, .int .i64 o.m, .int .i64 (o.f 0), .int .i64 (o.f 1), .int .i64 (o.f 2), .int .i64 (o.f 3), .int .i64 (o.f 4), .int .i64 (o.f 5), .int .i64 (o.f 6), .int .i64 (o.f 7), .int .i64 o.a, .int .i64 o.b, .int .i64 o.ta, .int .i64 o.tb, .int .i64 o.k, .int .i64 o.n] 40)) := Lib.hid (by rw [hb7.block _ (Array.getElem?_eq_some_iff.1 HB6.out).1]; exact HB6.out)
                  clear hb7))
             all_goals
               have hx6 := HB7.out
               have hx6l := (Array.getElem?_eq_some_iff.1 hx6).1
               have kk10 : w7.cell? ⟨wr.heap.size, 10, none⟩ = some (.int .i64 o.a) := by rw [cell_of_row _ _ _ _ _ _ hx6]; rfl
               have kk11 : w7.cell? ⟨wr.heap.size, 11, none⟩ = some (.int .i64 o.b) := by rw [cell_of_row _ _ _ _ _ _ hx6]; rfl
               clear hx6 cq5 cq6
               obtain ⟨⟨r1, r2⟩, hr⟩ : ∃ r, parB s5 (o.a, o.b) = r := ⟨_, rfl⟩
               obtain ⟨x, hx⟩ : ∃ x, hasP s5 (o.a, o.b) = x := ⟨_, rfl⟩
               have HRX : Hid (parB s5 (o.a, o.b) = (r1, r2) ∧ hasP s5 (o.a, o.b) = x) := Lib.hid ⟨hr, hx⟩
               clear hr hx
               go_wp2_with fail
               refine (famParent_any _ F5 s5 o.a o.b r1 r2 x _ HT7.out.fam HOK5.out.1.sorted HOP.out.1 HOP.out.2.1 HRX.out.1 HRX.out.2).mono ?_
               rintro e w8 ⟨rfl, hb8⟩
               have hA8 : Below w7.heap.size w7 (w8.alloc (.cells #[.int .i64 r1, .int .i64 r2] 38)) := nb_alloc hb8 _
               have HT8 := Lib.hid (HT7.out.later hA8)
               have hx8 : (w8.alloc (.cells #[.int .i64 r1, .int .i64 r2] 38)).heap[wr.heap.size]? = some (.cells #[.int .i64 o.d, .int .i64 o.m, .int .i64 (o.f 0), .int .i64 (o.f 1), .int .i64 (o.f 2), .int .i64 (o.f 3), .int .i64 (o.f 4), .int .i64 (o.f 5), .int .i64 (o.f 6), .int .i64 (o.f 7), .int .i64 o.a, .int .i64 o.b, .int .i64 o.ta, .int .i64 o.tb, .int .i64 o.k, .int .i64 o.n] 40) := by rw [hA8.block _ hx6l]; exact HB7.out
               have hx8' : w8.heap[wr.heap.size]? = some (.cells #[.int .i64 o.d, .int .i64 o.m, .int .i64 (o.f 0), .int .i64 (o.f 1), .int .i64 (o.f 2), .int .i64 (o.f 3), .int .i64 (o.f 4), .int .i64 (o.f 5), .int .i64 (o.f 6), .int .i64 (o.f 7), .int .i64 o.a, .int .i64 o.b, .int .i64 o.ta, .int .i64 o.tb, .int .i64 o.k, .int .i64 o.n] 40) := by rw [hb8.block _ hx6l]; exact HB7.out
               have hx8l := (Array.getElem?_eq_some_iff.1 hx8').1
               have m10 : (w8.alloc (.cells #[.int .i64 r1, .int .i64 r2] 38)).cell? ⟨wr.heap.size, 10, none⟩ = some (.int .i64 o.a) := by rw [cell_of_row _ _ _ _ _ _ hx8]; rfl
               have m11 : (w8.alloc (.cells #[.int .i64 r1, .int .i64 r2] 38)).cell? ⟨wr.heap.size, 11, none⟩ = some (.int .i64 o.b) := by rw [cell_of_row _ _ _ _ _ _ hx8]; rfl
               have p10 : w8.cell? ⟨wr.heap.size, 10, none⟩ = some (.int .i64 o.a) := by rw [cell_of_row _ _ _ _ _ _ hx8']; rfl
               have p11 : w8.cell? ⟨wr.heap.size, 11, none⟩ = some (.int .i64 o.b) := by rw [cell_of_row _ _ _ _ _ _ hx8']; rfl
               have HBB : Hid ((w8.alloc (.cells #[.int .i64 r1, .int .i64 r2] 38)).heap[w8.heap.size]? = some (.cells #[.int .i64 r1, .int .i64 r2] 38)) := Lib.hid (heap_alloc_new _ _)
               clear hb8 hA8 hx8 hx8' kk10 kk11
               go_wp2_with fail
               refine (refParent_any q G5 s5 o.a o.b r1 r2 x _ HT8.out.bon HRX.out.1 HRX.out.2).mono ?_
               rintro e w9 ⟨rfl, hb9⟩
               have hbb : w9.heap[w8.heap.size]? = some (.cells #[.int .i64 r1, .int .i64 r2] 38) := by rw [hb9.block _ (Array.getElem?_eq_some_iff.1 HBB.out).1]; exact HBB.out
               have hbbl := (Array.getElem?_eq_some_iff.1 hbb).1
               have kb0 : w9.cell? ⟨w8.heap.size, 0, none⟩ = some (.int .i64 r1) := by rw [cell_of_row _ _ _ _ _ _ hbb]; rfl
               have kb1 : w9.cell? ⟨w8.heap.size, 1, none⟩ = some (.int .i64 r2) := by rw [cell_of_row _ _ _ _ _ _ hbb]; rfl
               have e1 : (r1 == r1) = true := by simp
               have e2 : (r2 == r2) = true := by simp
               have hxx : (x != x) = false := by simp
               have HT9 := Lib.hid (HT8.out.later (nb_alloc hb9 (.cells #[.int .i64 r1, .int .i64 r2] 38)))
               clear hb9 hbb m10 m11 p10 p11
               go_wp2
               go_roundw
               case rel => exact ⟨t + 1, F5, G5, by omega, by go_num, by rw [HTK.out]; exact HT9⟩
               case measure => simp [intOf]; omega)
      · obtain rfl : t = n := by omega
        generalize famL (z0.take t) = s at *
        have HSM : Hid (s.length < maxLen) := Lib.hid (by unfold maxLen; omega)
        have HP := Lib.hid (adoptB_yes (bs := s) (c := (0, 0)) (p := (0, 0)) (.inl rfl))
        have H00 : Hid (okH (0, 0)) := Lib.hid ⟨⟨by decide, by decide⟩, ⟨by decide, by decide⟩⟩
        go_wp2_with fail
        refine (famAdopt_by _ F s 0 0 0 0 8 s _ hT.out.fam HOK.out H00.out H00.out HSM.out HP.out.2 HP.out.1).mono ?_
        rintro e w9 ⟨rfl, F9, h9, hk9, hm9⟩
        have HBN : Hid (Below w.heap.size w w9) := Lib.hid (id (hT.out.below.trans (hk9.below hT.out.below.size hT.out.fb)))
        clear h9 hk9 hm9
        go_wp2
        go_ret
        exact ⟨rfl, HBN.out⟩

namespace familyDoes
theorem own : ownKnob Try.prog.godebug = none := by kernel_rfl
theorem laidOut : laidOutB Try.prog = true := by kernel_rfl

set_option maxRecDepth 100000 in
set_option maxHeartbeats 4000000 in
theorem lifted (os : Os) (started : os.Started) (H : Type) (enc : TypeId × Value → H) :
    ReturnsInHanded {} Try.checked os 3 .any (Rows.familyDoesSpec.pre6 enc Try.prog Try.f3 Rows.familyDoesRow.domain false) (Rows.familyDoesSpec.post enc Try.prog Try.f3 false true false false) := by
  refine returnsInHanded_of_change_sized (C := Try.checked) own started (by kernel_rfl) Try.func3
    (ChangeSpec.witness6 (enc := enc) (C := Try.checked) false ⟨#[], #[.slice none 0 0], []⟩ 8 (by kernel_rfl) (by kernel_rfl) (by kernel_rfl) (by kernel_rfl)) ?_
  intro W base args ds gs before hval0 hW hcnd hsz _
  have hval : ∀ (j : Nat) t v, Try.f3.params[j]? = some t → args[j]? = some v → Value.okWide Try.prog W .any base t v := hval0
  have hW' := hW
  obtain ⟨p, q, hA0, hV, rfl, hfz, hnd⟩ := hW
  have hA : DataW.TrodAll enc Try.prog W 0 (fun _ => true) true Try.f3.params.toList args.toList ds p := hA0
  rw [Try.params3] at hA hval
  obtain ⟨v0, vs0, d0, ds0, p0, q0, hargs, rfl, rfl, h0, r0⟩ := trodAll_cons hA
  obtain ⟨rfl, rfl, rfl⟩ := trodAll_nil r0
  obtain rfl : args = #[v0] := by cases args; simp_all
  obtain ⟨rfl, rfl⟩ := trodVars_none hV
  have k0' := h0
  have lt0 : ∀ x ∈ p0, x.block < W.heap.size := by obtain ⟨m, hm⟩ := h0; exact DataW.trod_lt m _ _ _ hm
  obtain ⟨z0, i0, j0⟩ : ∃ zs, Reads elOp W v0 zs ∧ ∀ x ∈ zs, OpOk x := by
    obtain ⟨a0, len0, cap0, rfl⟩ := okWide_slice Try.underlying22 (hval 0 22 v0 rfl rfl)
    exact Reads_ofP elOp OpOk Try.underlying22 (by kernel_rfl) op_dec h0
  rw [Try.params3] at hsz
  have s0 : z0.length * 128 ≤ 140737488351232 := by
    obtain ⟨aa, cc, ee, _⟩ := i0
    have hh := k0'
    rw [ee] at hh
    exact trod_len Try.underlying22 (show Try.prog.bytesOf 40 = 128 by kernel_rfl) hh (fun el sp hd => sized_slice hsz (j := 0) (t := 22) rfl (by rw [hd]; rfl) Try.underlying22)
  clear hA0 hval0
  refine (familyDoes_walk v0 z0 j0 W i0 s0).mono fun e W' ⟨he, bel⟩ => ?_
  subst he
  exact ⟨_, rfl, _, _, _, [], _, [], hW', trodAll_mk1 (shut_bool Try.underlying4 _), (trodAll_cons_mk (Below.trod laidOut (by kernel_rfl) (of_decide_eq_true (by kernel_rfl)) k0' bel lt0) trodAll_mk0), rfl, bel.frame _, fun h => by cases h⟩
end familyDoes

theorem familyDoes_proved : Rows.FamilyDoesSaid :=
  OpenClaim.holds_of_wide 3 Try.f3 rfl rfl rfl rfl rfl rfl rfl ⟨rfl, rfl, rfl, rfl, rfl⟩ rfl rfl rfl rfl rfl (by kernel_rfl) Try.func3 (by kernel_rfl)
    (of_decide_eq_true (by kernel_rfl)) (by unfold Func.isWrapper; first | (rw [if_pos (by decide +kernel)]; kernel_rfl) | (rw [if_neg (by decide +kernel)]; exact ⟨rfl, rfl⟩))
    (fun os started H enc _ => familyDoes.lifted os started H enc)

end Go.Proofs.Ytlclceiebnnpgaa

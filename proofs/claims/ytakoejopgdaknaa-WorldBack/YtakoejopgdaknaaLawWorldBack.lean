/- A loaded world equals the original one and continues in the same way: the statement WorldBack. No condition. -/
import Derived.Test.YtakoejopgdaknaaGroundA
import Derived.Test.YtakoejopgdaknaaKeepWorld
import Derived.Test.YtakoejopgdaknaaKeepLived
import Derived.Test.YtakoejopgdaknaaWorldLoad
import Derived.Test.YtakoejopgdaknaaRowEq
namespace Go.Proofs.Ytakoejopgdaknaa
set_option maxRecDepth 8000
open Go.ChangeShapes Go.WideShapes Go.ChangeAt Go.RowKit
set_option linter.unusedVariables false

set_option maxRecDepth 100000 in
set_option maxHeartbeats 8000000 in
theorem worldBack_walk (u0 : Value) (z0 : List Opm) (j0 : ∀ x ∈ z0, OpOk x) (m1 v1_0 v1_1 v1_2 v1_3 v1_4 v1_5 v1_6 v1_7 : Int) (w : World) (i0 : Reads elOp w u0 z0) :
    Calls Try.prog 10 #[u0, .agg #[.int .i64 m1, .int .i64 v1_0, .int .i64 v1_1, .int .i64 v1_2, .int .i64 v1_3, .int .i64 v1_4, .int .i64 v1_5, .int .i64 v1_6, .int .i64 v1_7]] w fun e w' => e = .returned (.bool true) ∧ Below w.heap.size w w' := by
  have HI := Lib.hid i0
  have HJ := Lib.hid j0
  clear i0 j0
  have hX : Below w.heap.size w (w.alloc (.cells #[.int .i64 m1, .int .i64 v1_0, .int .i64 v1_1, .int .i64 v1_2, .int .i64 v1_3, .int .i64 v1_4, .int .i64 v1_5, .int .i64 v1_6, .int .i64 v1_7] 36)) := nb_alloc (Below.refl _ _) _
  have hxb : (w.alloc (.cells #[.int .i64 m1, .int .i64 v1_0, .int .i64 v1_1, .int .i64 v1_2, .int .i64 v1_3, .int .i64 v1_4, .int .i64 v1_5, .int .i64 v1_6, .int .i64 v1_7] 36)).heap[w.heap.size]? = some (.cells #[.int .i64 m1, .int .i64 v1_0, .int .i64 v1_1, .int .i64 v1_2, .int .i64 v1_3, .int .i64 v1_4, .int .i64 v1_5, .int .i64 v1_6, .int .i64 v1_7] 36) := heap_alloc_new _ _
  have HX := Lib.hid hX
  have HXB := Lib.hid hxb
  have hxl := (Array.getElem?_eq_some_iff.1 hxb).1
  clear hX hxb
  go_enter Try.func10, Try.ntmps10
  go_wp2_with fail
  generalize w.alloc (.cells #[.int .i64 m1, .int .i64 v1_0, .int .i64 v1_1, .int .i64 v1_2, .int .i64 v1_3, .int .i64 v1_4, .int .i64 v1_5, .int .i64 v1_6, .int .i64 v1_7] 36) = X at *
  refine (lived_any _).mono ?_
  rintro e w1 ⟨rfl, hb1⟩
  have HB1 := Lib.hid hb1
  clear hb1
  go_wp2_with fail
  refine (made_any u0 z0 _ (HI.out.later (nb_trans HX.out HB1.out)) HJ.out).mono ?_
  rintro e w2 ⟨p, F, rfl, h2, hF, hb2⟩
  have hok := WOk.made z0
  generalize (madeW z0).1 = l at *
  generalize (madeW z0).2 = rows at *
  have HW := Lib.hid h2
  have HOK := Lib.hid hok
  have HF : Hid (∀ b, F b → X.heap.size ≤ b) := Lib.hid (fun b hb => Nat.le_trans HB1.out.size (hF b hb))
  have HFL : Hid (∀ b, F b → b < w2.heap.size) := Lib.hid h2.lt
  have HB2 : Hid (Below X.heap.size X w2) := Lib.hid (nb_trans HB1.out hb2)
  clear h2 hok hF hb2
  go_wp2_with fail
  refine (worldGens_any p F l _ _ HW.out HOK.out.slots).mono ?_
  rintro e w3 ⟨v3, rfl, ho3, hb3⟩
  have HB3 := Lib.hid hb3
  have HO3 := Lib.hid ho3.reads
  clear ho3 hb3
  go_wp2_with fail
  refine (keepAll_any p F l rows _ (HW.out.later HB3.out) HOK.out).mono ?_
  rintro e w4 ⟨v4, rfl, ho4, hb4⟩
  have HB4 := Lib.hid (nb_trans HB3.out hb4)
  have HO4 := Lib.hid ho4.reads
  have HO34 := Lib.hid (Ints.ofReads (HO3.out.later hb4))
  clear ho4 hb4
  go_wp2_with fail
  refine (worldLoad_any v3 v4 (gensL l) rows _ HO34.out HO4.out).mono ?_
  rintro e w5 ⟨u5, rfl, hb5, -, hgood⟩
  obtain ⟨px, Fx, rfl, h5, hFx⟩ := hgood (wldE_rows HOK.out).2
  rw [mkL_rows HOK.out] at h5
  rw [(wldE_rows HOK.out).2]
  have HWX := Lib.hid h5
  have HB5 := Lib.hid (nb_trans HB4.out hb5)
  have HFX : Hid (∀ b, Fx b → w4.heap.size ≤ b) := Lib.hid hFx
  have HAP : Hid (∀ b, F b → ¬ Fx b) := Lib.hid (fun b hf hx => by have := HFL.out b hf; have := hFx b hx; have := HB4.out.size; omega)
  clear h5 hb5 hFx hgood
  go_wp2_with fail
  refine (keepAll_any px Fx l rows _ HWX.out HOK.out).mono ?_
  rintro e w6 ⟨v6, rfl, ho6, hb6⟩
  have HB6 := Lib.hid hb6
  have HO6 := Lib.hid ho6.reads
  clear ho6 hb6
  go_wp2_with fail
  refine (keepAll_any p F l rows _ (HW.out.later (nb_trans HB5.out HB6.out)) HOK.out).mono ?_
  rintro e w7 ⟨v7, rfl, ho7, hb7⟩
  have HB7 := Lib.hid (nb_trans HB6.out hb7)
  have HO7 := Lib.hid ho7.reads
  have HO67 := Lib.hid (HO6.out.later hb7)
  clear ho7 hb7
  go_wp2_with fail
  refine (eqRow_same v6 v7 rows _ HO67.out HO7.out).mono ?_
  rintro e w8 ⟨rfl, hb8⟩
  have HB8 := Lib.hid (nb_trans HB7.out hb8)
  have HXW8 : Hid (Below X.heap.size X w8) := Lib.hid (nb_trans HB2.out (nb_trans HB5.out (nb_trans HB7.out hb8)))
  have hx8 : w8.heap[w.heap.size]? = some (.cells #[.int .i64 m1, .int .i64 v1_0, .int .i64 v1_1, .int .i64 v1_2, .int .i64 v1_3, .int .i64 v1_4, .int .i64 v1_5, .int .i64 v1_6, .int .i64 v1_7] 36) := by rw [HXW8.out.block _ hxl]; exact HXB.out
  have hx8l := (Array.getElem?_eq_some_iff.1 hx8).1
  have HX8 := Lib.hid hx8
  have kb0 : w8.cell? ⟨w.heap.size, 0, none⟩ = some (.int .i64 m1) := by rw [cell_of_row _ _ _ _ _ _ hx8]; rfl
  have kb1 : w8.cell? ⟨w.heap.size, 1, none⟩ = some (.int .i64 v1_0) := by rw [cell_of_row _ _ _ _ _ _ hx8]; rfl
  have kb2 : w8.cell? ⟨w.heap.size, 2, none⟩ = some (.int .i64 v1_1) := by rw [cell_of_row _ _ _ _ _ _ hx8]; rfl
  have kb3 : w8.cell? ⟨w.heap.size, 3, none⟩ = some (.int .i64 v1_2) := by rw [cell_of_row _ _ _ _ _ _ hx8]; rfl
  have kb4 : w8.cell? ⟨w.heap.size, 4, none⟩ = some (.int .i64 v1_3) := by rw [cell_of_row _ _ _ _ _ _ hx8]; rfl
  have kb5 : w8.cell? ⟨w.heap.size, 5, none⟩ = some (.int .i64 v1_4) := by rw [cell_of_row _ _ _ _ _ _ hx8]; rfl
  have kb6 : w8.cell? ⟨w.heap.size, 6, none⟩ = some (.int .i64 v1_5) := by rw [cell_of_row _ _ _ _ _ _ hx8]; rfl
  have kb7 : w8.cell? ⟨w.heap.size, 7, none⟩ = some (.int .i64 v1_6) := by rw [cell_of_row _ _ _ _ _ _ hx8]; rfl
  have kb8 : w8.cell? ⟨w.heap.size, 8, none⟩ = some (.int .i64 v1_7) := by rw [cell_of_row _ _ _ _ _ _ hx8]; rfl
  have HW8 : Hid (WldAt w8 p F l (· ∈ rows)) := Lib.hid (HW.out.later (nb_trans HB5.out HB8.out))
  have HWX8 : Hid (WldAt w8 px Fx l (· ∈ rows)) := Lib.hid (HWX.out.later HB8.out)
  clear hb8 hx8
  go_wp2_with fail
  refine (worldSpawn_any p F l rows m1 (fun j => [v1_0, v1_1, v1_2, v1_3, v1_4, v1_5, v1_6, v1_7].getD j 0) _ HW8.out HOK.out).mono ?_
  rintro e y1 ⟨rfl, F1, h1, hk1, hm1⟩
  have HWX1 := Lib.hid (HWX8.out.kept hk1 (fun b hx hf => HAP.out b hf hx))
  have HW1 := Lib.hid h1
  have HK1 := Lib.hid hk1
  have HM1 := Lib.hid hm1
  have hy1 : y1.heap[w.heap.size]? = some (.cells #[.int .i64 m1, .int .i64 v1_0, .int .i64 v1_1, .int .i64 v1_2, .int .i64 v1_3, .int .i64 v1_4, .int .i64 v1_5, .int .i64 v1_6, .int .i64 v1_7] 36) := by rw [hk1.block _ hx8l (fun f => by have := HF.out _ f; omega)]; exact HX8.out
  have hy1l := (Array.getElem?_eq_some_iff.1 hy1).1
  have HOK1 := Lib.hid (HOK.out.spawn m1 (fun j => [v1_0, v1_1, v1_2, v1_3, v1_4, v1_5, v1_6, v1_7].getD j 0))
  obtain ⟨⟨s1, s2⟩, hh⟩ : ∃ x, spawnH l m1 (fun j => [v1_0, v1_1, v1_2, v1_3, v1_4, v1_5, v1_6, v1_7].getD j 0) = x := ⟨_, rfl⟩
  obtain ⟨se, hse⟩ : ∃ x, spawnE l m1 (fun j => [v1_0, v1_1, v1_2, v1_3, v1_4, v1_5, v1_6, v1_7].getD j 0) = x := ⟨_, rfl⟩
  rw [hh, hse]
  have HHH := Lib.hid hh
  have HSE := Lib.hid hse
  have hA : Below y1.heap.size y1 (y1.alloc (.cells #[.int .i64 s1, .int .i64 s2] 38)) := nb_alloc (Below.refl _ _) _
  have HA := Lib.hid hA
  have hAx : (y1.alloc (.cells #[.int .i64 s1, .int .i64 s2] 38)).heap[w.heap.size]? = some (.cells #[.int .i64 m1, .int .i64 v1_0, .int .i64 v1_1, .int .i64 v1_2, .int .i64 v1_3, .int .i64 v1_4, .int .i64 v1_5, .int .i64 v1_6, .int .i64 v1_7] 36) := by rw [hA.block _ hy1l]; exact hy1
  have hAh : (y1.alloc (.cells #[.int .i64 s1, .int .i64 s2] 38)).heap[y1.heap.size]? = some (.cells #[.int .i64 s1, .int .i64 s2] 38) := heap_alloc_new _ _
  have HAH := Lib.hid hAh
  have ky0 : y1.cell? ⟨w.heap.size, 0, none⟩ = some (.int .i64 m1) := by rw [cell_of_row _ _ _ _ _ _ hy1]; rfl
  have ky1 : y1.cell? ⟨w.heap.size, 1, none⟩ = some (.int .i64 v1_0) := by rw [cell_of_row _ _ _ _ _ _ hy1]; rfl
  have ky2 : y1.cell? ⟨w.heap.size, 2, none⟩ = some (.int .i64 v1_1) := by rw [cell_of_row _ _ _ _ _ _ hy1]; rfl
  have ky3 : y1.cell? ⟨w.heap.size, 3, none⟩ = some (.int .i64 v1_2) := by rw [cell_of_row _ _ _ _ _ _ hy1]; rfl
  have ky4 : y1.cell? ⟨w.heap.size, 4, none⟩ = some (.int .i64 v1_3) := by rw [cell_of_row _ _ _ _ _ _ hy1]; rfl
  have ky5 : y1.cell? ⟨w.heap.size, 5, none⟩ = some (.int .i64 v1_4) := by rw [cell_of_row _ _ _ _ _ _ hy1]; rfl
  have ky6 : y1.cell? ⟨w.heap.size, 6, none⟩ = some (.int .i64 v1_5) := by rw [cell_of_row _ _ _ _ _ _ hy1]; rfl
  have ky7 : y1.cell? ⟨w.heap.size, 7, none⟩ = some (.int .i64 v1_6) := by rw [cell_of_row _ _ _ _ _ _ hy1]; rfl
  have ky8 : y1.cell? ⟨w.heap.size, 8, none⟩ = some (.int .i64 v1_7) := by rw [cell_of_row _ _ _ _ _ _ hy1]; rfl
  have kA0 : (y1.alloc (.cells #[.int .i64 s1, .int .i64 s2] 38)).cell? ⟨w.heap.size, 0, none⟩ = some (.int .i64 m1) := by rw [cell_of_row _ _ _ _ _ _ hAx]; rfl
  have kA1 : (y1.alloc (.cells #[.int .i64 s1, .int .i64 s2] 38)).cell? ⟨w.heap.size, 1, none⟩ = some (.int .i64 v1_0) := by rw [cell_of_row _ _ _ _ _ _ hAx]; rfl
  have kA2 : (y1.alloc (.cells #[.int .i64 s1, .int .i64 s2] 38)).cell? ⟨w.heap.size, 2, none⟩ = some (.int .i64 v1_1) := by rw [cell_of_row _ _ _ _ _ _ hAx]; rfl
  have kA3 : (y1.alloc (.cells #[.int .i64 s1, .int .i64 s2] 38)).cell? ⟨w.heap.size, 3, none⟩ = some (.int .i64 v1_2) := by rw [cell_of_row _ _ _ _ _ _ hAx]; rfl
  have kA4 : (y1.alloc (.cells #[.int .i64 s1, .int .i64 s2] 38)).cell? ⟨w.heap.size, 4, none⟩ = some (.int .i64 v1_3) := by rw [cell_of_row _ _ _ _ _ _ hAx]; rfl
  have kA5 : (y1.alloc (.cells #[.int .i64 s1, .int .i64 s2] 38)).cell? ⟨w.heap.size, 5, none⟩ = some (.int .i64 v1_4) := by rw [cell_of_row _ _ _ _ _ _ hAx]; rfl
  have kA6 : (y1.alloc (.cells #[.int .i64 s1, .int .i64 s2] 38)).cell? ⟨w.heap.size, 6, none⟩ = some (.int .i64 v1_5) := by rw [cell_of_row _ _ _ _ _ _ hAx]; rfl
  have kA7 : (y1.alloc (.cells #[.int .i64 s1, .int .i64 s2] 38)).cell? ⟨w.heap.size, 7, none⟩ = some (.int .i64 v1_6) := by rw [cell_of_row _ _ _ _ _ _ hAx]; rfl
  have kA8 : (y1.alloc (.cells #[.int .i64 s1, .int .i64 s2] 38)).cell? ⟨w.heap.size, 8, none⟩ = some (.int .i64 v1_7) := by rw [cell_of_row _ _ _ _ _ _ hAx]; rfl
  have hFA : ∀ b, Fx b → b < y1.heap.size := HWX1.out.lt
  have HAPX : Hid (∀ b, F1 b → ¬ Fx b) := Lib.hid (fun b hf hx => by
    rcases hm1 b hf with h | h
    · exact HAP.out b h hx
    · have := HWX8.out.lt b hx; omega)
  have HFXA := Lib.hid hFA
  have HF1 : Hid (∀ b, F1 b → X.heap.size ≤ b) := Lib.hid (hm1.above HXW8.out.size HF.out)
  have HBY1 : Hid (Below X.heap.size X y1) := Lib.hid (HXW8.out.trans (hk1.below HXW8.out.size HF.out))
  clear h1 hk1 hm1 hh hse kb0 kb1 kb2 kb3 kb4 kb5 kb6 kb7 kb8 hA hFA
  go_wp2_with fail
  refine (worldSpawn_any px Fx l rows m1 (fun j => [v1_0, v1_1, v1_2, v1_3, v1_4, v1_5, v1_6, v1_7].getD j 0) _ (HWX1.out.later HA.out) HOK.out).mono ?_
  rintro e y2 ⟨rfl, F2, h2, hk2, hm2⟩
  rw [HHH.out, HSE.out]
  have HW2 := Lib.hid h2
  have HW12 := Lib.hid ((HW1.out.later HA.out).kept hk2 (fun b hf hx => HAPX.out b hf hx))
  have hh2 : y2.heap[y1.heap.size]? = some (.cells #[.int .i64 s1, .int .i64 s2] 38) := by rw [hk2.block _ (Array.getElem?_eq_some_iff.1 HAH.out).1 (fun f => by have := HFXA.out _ f; omega)]; exact HAH.out
  have hh2l := (Array.getElem?_eq_some_iff.1 hh2).1
  have HBY2 : Hid (Below X.heap.size X y2) := Lib.hid (by
    have h0 := nb_trans HBY1.out HA.out
    exact h0.trans (hk2.below h0.size (fun b hb => by have := HFX.out b hb; have := (nb_trans HB2.out HB4.out).size; omega)))
  have kh0 : y2.cell? ⟨y1.heap.size, 0, none⟩ = some (.int .i64 s1) := by rw [cell_of_row _ _ _ _ _ _ hh2]; rfl
  have kh1 : y2.cell? ⟨y1.heap.size, 1, none⟩ = some (.int .i64 s2) := by rw [cell_of_row _ _ _ _ _ _ hh2]; rfl
  have e1 : (s1 == s1) = true := by simp
  have e2 : (s2 == s2) = true := by simp
  have e3 : (se == se) = true := by simp
  have HB3' : Hid (Below y2.heap.size y2 (y2.alloc (.cells #[.int .i64 s1, .int .i64 s2] 38))) := Lib.hid (nb_alloc (Below.refl _ _) _)
  generalize spawnR l rows m1 (fun j => [v1_0, v1_1, v1_2, v1_3, v1_4, v1_5, v1_6, v1_7].getD j 0) = rows1 at *
  generalize spawnL l m1 (fun j => [v1_0, v1_1, v1_2, v1_3, v1_4, v1_5, v1_6, v1_7].getD j 0) = l1 at *
  clear h2 hk2 hm2 hh2 ky0 ky1 ky2 ky3 ky4 ky5 ky6 ky7 ky8 kA0 kA1 kA2 kA3 kA4 kA5 kA6 kA7 kA8
  go_wp2_with fail
  generalize y2.alloc (.cells #[.int .i64 s1, .int .i64 s2] 38) = Y at *
  refine (keepAll_any px F2 l1 rows1 _ (HW2.out.later HB3'.out) HOK1.out).mono ?_
  rintro e x1 ⟨q1, rfl, o1, b1⟩
  have HQ1 := Lib.hid o1.reads
  have HC1 := Lib.hid (nb_trans HB3'.out b1)
  clear o1 b1 e1 e2 e3 kh0 kh1
  go_wp2_with fail
  refine (keepAll_any p F1 l1 rows1 _ (HW12.out.later HC1.out) HOK1.out).mono ?_
  rintro e x2 ⟨q2, rfl, o2, b2⟩
  have HQ2 := Lib.hid o2.reads
  have HQ1' := Lib.hid (HQ1.out.later b2)
  have HC2 := Lib.hid (nb_trans HC1.out b2)
  clear o2 b2
  go_wp2_with fail
  refine (eqRow_same q1 q2 rows1 _ HQ1'.out HQ2.out).mono ?_
  rintro e x3 ⟨rfl, b3⟩
  have HC3 := Lib.hid (nb_trans HC2.out b3)
  clear b3
  go_wp2_with fail
  refine (worldGens_any px F2 l1 _ _ (HW2.out.later HC3.out) HOK1.out.slots).mono ?_
  rintro e x4 ⟨q4, rfl, o4, b4⟩
  have HQ4 := Lib.hid o4.reads
  have HC4 := Lib.hid (nb_trans HC3.out b4)
  clear o4 b4
  go_wp2_with fail
  refine (worldGens_any p F1 l1 _ _ (HW12.out.later HC4.out) HOK1.out.slots).mono ?_
  rintro e x5 ⟨q5, rfl, o5, b5⟩
  have HQ5 := Lib.hid (Ints.ofReads o5.reads)
  have HQ45 := Lib.hid (Ints.ofReads (HQ4.out.later b5))
  have HC5 := Lib.hid (nb_trans HC4.out b5)
  clear o5 b5
  go_wp2_with fail
  refine (eqInt_any _ _ _ _ _ HQ45.out HQ5.out).mono ?_
  rintro e x6 ⟨rfl, hx6⟩
  rw [decide_eq_true rfl]
  have HC6 : Hid (Below w.heap.size w x6) := Lib.hid (by rw [← hx6]; exact nb_trans HX.out (nb_trans HBY2.out HC5.out))
  clear hx6
  go_wp2
  go_ret
  exact ⟨rfl, HC6.out⟩

namespace worldBack
theorem own : ownKnob Try.prog.godebug = none := by kernel_rfl
theorem laidOut : laidOutB Try.prog = true := by kernel_rfl

set_option maxRecDepth 100000 in
set_option maxHeartbeats 4000000 in
theorem lifted (os : Os) (started : os.Started) (H : Type) (enc : TypeId × Value → H) :
    ReturnsInHanded {} Try.checked os 10 .any (Rows.worldBackSpec.pre6 enc Try.prog Try.f10 Rows.worldBackRow.domain false) (Rows.worldBackSpec.post enc Try.prog Try.f10 false true false false) := by
  refine returnsInHanded_of_change (C := Try.checked) own started (by kernel_rfl) Try.func10
    (ChangeSpec.witness6 (enc := enc) (C := Try.checked) false ⟨#[], #[.slice none 0 0, .agg #[.int .i64 0, .int .i64 0, .int .i64 0, .int .i64 0, .int .i64 0, .int .i64 0, .int .i64 0, .int .i64 0, .int .i64 0]], []⟩ 8 (by kernel_rfl) (by kernel_rfl) (by kernel_rfl) (by kernel_rfl)) ?_
  intro W base args ds gs before hval0 hW hcnd _
  have hval : ∀ (j : Nat) t v, Try.f10.params[j]? = some t → args[j]? = some v → Value.okWide Try.prog W .any base t v := hval0
  have hW' := hW
  obtain ⟨p, q, hA0, hV, rfl, hfz, hnd⟩ := hW
  have hA : DataW.TrodAll enc Try.prog W 0 (fun _ => true) true Try.f10.params.toList args.toList ds p := hA0
  rw [Try.params10] at hA hval
  obtain ⟨v0, vs0, d0, ds0, p0, q0, hargs, rfl, rfl, h0, r0⟩ := trodAll_cons hA
  obtain ⟨v1, vs1, d1, ds1, p1, q1, rfl, rfl, rfl, h1, r1⟩ := trodAll_cons r0
  obtain ⟨rfl, rfl, rfl⟩ := trodAll_nil r1
  obtain rfl : args = #[v0, v1] := by cases args; simp_all
  obtain ⟨rfl, rfl⟩ := trodVars_none hV
  have k0' := h0
  have lt0 : ∀ x ∈ p0, x.block < W.heap.size := by obtain ⟨m, hm⟩ := h0; exact DataW.trod_lt m _ _ _ hm
  have k1' := h1
  have lt1 : ∀ x ∈ p1, x.block < W.heap.size := by obtain ⟨m, hm⟩ := h1; exact DataW.trod_lt m _ _ _ hm
  obtain ⟨z0, i0, j0⟩ : ∃ zs, Reads elOp W v0 zs ∧ ∀ x ∈ zs, OpOk x := by
    obtain ⟨a0, len0, cap0, rfl⟩ := okWide_slice Try.underlying22 (hval 0 22 v0 rfl rfl)
    exact Reads_ofP elOp OpOk Try.underlying22 (by kernel_rfl) op_dec h0
  obtain ⟨m1, v1_0, v1_1, v1_2, v1_3, v1_4, v1_5, v1_6, v1_7, rfl⟩ : ∃ m x0 x1 x2 x3 x4 x5 x6 x7 : Int, v1 = .agg #[.int .i64 m, .int .i64 x0, .int .i64 x1, .int .i64 x2, .int .i64 x3, .int .i64 x4, .int .i64 x5, .int .i64 x6, .int .i64 x7] := by
    obtain ⟨zs, hl, rfl, _⟩ := open_flat 4 9 Try.underlying36 (by kernel_rfl) (by kernel_rfl) (hval 1 36 v1 rfl rfl) h1
    obtain ⟨m, x0, x1, x2, x3, x4, x5, x6, x7, rfl⟩ := list9 hl
    exact ⟨m, x0, x1, x2, x3, x4, x5, x6, x7, rfl⟩
  clear hA0 hval0
  refine (worldBack_walk v0 z0 j0 m1 v1_0 v1_1 v1_2 v1_3 v1_4 v1_5 v1_6 v1_7 W i0).mono fun e W' ⟨he, bel⟩ => ?_
  subst he
  exact ⟨_, rfl, _, _, _, [], _, [], hW', trodAll_mk1 (shut_bool Try.underlying4 _), (trodAll_cons_mk (Below.trod laidOut (by kernel_rfl) (of_decide_eq_true (by kernel_rfl)) k0' bel lt0) (trodAll_cons_mk (Below.trod laidOut (by kernel_rfl) (of_decide_eq_true (by kernel_rfl)) k1' bel lt1) trodAll_mk0)), rfl, bel.frame _, fun h => by cases h⟩
end worldBack

theorem worldBack_proved : Rows.WorldBackSaid :=
  OpenClaim.holds_of_wide 10 Try.f10 rfl rfl rfl rfl rfl rfl rfl ⟨rfl, rfl, rfl, rfl, rfl⟩ rfl rfl rfl rfl rfl (by kernel_rfl) Try.func10 (by kernel_rfl)
    (of_decide_eq_true (by kernel_rfl)) (by unfold Func.isWrapper; first | (rw [if_pos (by decide +kernel)]; kernel_rfl) | (rw [if_neg (by decide +kernel)]; exact ⟨rfl, rfl⟩))
    (fun os started H enc _ => worldBack.lifted os started H enc)

end Go.Proofs.Ytakoejopgdaknaa

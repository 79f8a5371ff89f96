/- Putting a new component and dropping it restores the entity; a dropped component is absent: the statement WorldDrops. No condition. -/
import Derived.Test.YtakoejopgdaknaaGroundA
import Derived.Test.YtakoejopgdaknaaKeepWorld
import Derived.Test.YtakoejopgdaknaaKeepLived
import Derived.Test.YtakoejopgdaknaaRowFacts
namespace Go.Proofs.Ytakoejopgdaknaa
set_option maxRecDepth 8000
open Go.ChangeShapes Go.WideShapes Go.ChangeAt Go.RowKit
set_option linter.unusedVariables false

theorem Moves.ne {w : World} {F F' : Nat → Prop} (m : Moves w F F') {b : Nat} (hb : b < w.heap.size) (h : ¬ F b) : ¬ F' b := fun f => (m b f).elim h (fun e => by omega)

set_option maxRecDepth 100000 in
set_option maxHeartbeats 8000000 in
theorem worldDrops_walk (u0 : Value) (z0 : List Opm) (j0 : ∀ x ∈ z0, OpOk x) (a_1 b_1 : Int) (i1 : I64 a_1 ∧ I64 b_1) (a2 : Int) (i2 : I64 a2) (a3 : Int) (i3 : I64 a3) (w : World) (i0 : Reads elOp w u0 z0) :
    Calls Try.prog 6 #[u0, .agg #[.int .i64 a_1, .int .i64 b_1], .int .i64 a2, .int .i64 a3] w fun e w' => e = .returned (.bool true) ∧ Below w.heap.size w w' := by
  have HI := Lib.hid i0
  have HJ := Lib.hid j0
  have HAB : Hid (I64r a_1 ∧ I64r b_1) := Lib.hid i1
  clear i0 j0 i1 i2 i3
  have hX : Below w.heap.size w (w.alloc (.cells #[.int .i64 a_1, .int .i64 b_1] 38)) := nb_alloc (Below.refl _ _) _
  have hxb : (w.alloc (.cells #[.int .i64 a_1, .int .i64 b_1] 38)).heap[w.heap.size]? = some (.cells #[.int .i64 a_1, .int .i64 b_1] 38) := heap_alloc_new _ _
  have HX := Lib.hid hX
  have HXB := Lib.hid hxb
  clear hX hxb
  go_enter Try.func6, Try.ntmps6
  go_wp2_with fail
  generalize w.alloc (.cells #[.int .i64 a_1, .int .i64 b_1] 38) = X at *
  refine (lived_any _).mono ?_
  rintro e w1 ⟨rfl, hb1⟩
  have HB1 := Lib.hid hb1
  clear hb1
  go_wp2_with fail
  refine (made_any u0 z0 _ (HI.out.later (nb_trans HX.out HB1.out)) HJ.out).mono ?_
  rintro e w2 ⟨p, F, rfl, h2, hF, hb2⟩
  have hok := WOk.made z0
  generalize (madeW z0).1 = l at *
  generalize (madeW z0).2 = rows at *
  have HW := Lib.hid h2
  have HOK := Lib.hid hok
  have HF : Hid (∀ b, F b → X.heap.size ≤ b) := Lib.hid (fun b hb => Nat.le_trans HB1.out.size (hF b hb))
  have HB2 : Hid (Below X.heap.size X w2) := Lib.hid (nb_trans HB1.out hb2)
  have hxl : w.heap.size < X.heap.size := (Array.getElem?_eq_some_iff.1 HXB.out).1
  have hx2 : w2.heap[w.heap.size]? = some (.cells #[.int .i64 a_1, .int .i64 b_1] 38) := by rw [HB2.out.block _ hxl]; exact HXB.out
  have hx2l := (Array.getElem?_eq_some_iff.1 hx2).1
  have kx0 : w2.cell? ⟨w.heap.size, 0, none⟩ = some (.int .i64 a_1) := by rw [cell_of_row _ _ _ _ _ _ hx2]; rfl
  have kx1 : w2.cell? ⟨w.heap.size, 1, none⟩ = some (.int .i64 b_1) := by rw [cell_of_row _ _ _ _ _ _ hx2]; rfl
  have HX2 := Lib.hid hx2
  have HNF : Hid (¬ F w.heap.size) := Lib.hid (fun f => by have := HF.out _ f; omega)
  clear h2 hok hF hb2 hx2
  go_wp2_with fail
  obtain ⟨x, hx⟩ : ∃ x, getE rows a_1 b_1 = x := ⟨_, rfl⟩
  obtain ⟨r, hr⟩ : ∃ r, getR rows a_1 b_1 = r := ⟨_, rfl⟩
  refine (worldGet_any p F l rows a_1 b_1 r x _ HW.out HAB.out.1 HAB.out.2 hr hx).mono ?_
  rintro e w3 ⟨rfl, hb3⟩
  have HB3 := Lib.hid hb3
  have HX3 : Hid (w3.heap[w.heap.size]? = some (.cells #[.int .i64 a_1, .int .i64 b_1] 38)) := Lib.hid (by rw [hb3.block _ hx2l]; exact HX2.out)
  have hs3 := hb3.size
  have hWA : Below w3.heap.size w3 (w3.alloc (.cells #[.int .i64 r.m, .int .i64 (r.f 0), .int .i64 (r.f 1), .int .i64 (r.f 2), .int .i64 (r.f 3), .int .i64 (r.f 4), .int .i64 (r.f 5), .int .i64 (r.f 6), .int .i64 (r.f 7)] 36)) := nb_alloc (Below.refl _ _) _
  have HWA := Lib.hid hWA
  have HXA : Hid ((w3.alloc (.cells #[.int .i64 r.m, .int .i64 (r.f 0), .int .i64 (r.f 1), .int .i64 (r.f 2), .int .i64 (r.f 3), .int .i64 (r.f 4), .int .i64 (r.f 5), .int .i64 (r.f 6), .int .i64 (r.f 7)] 36)).heap[w.heap.size]? = some (.cells #[.int .i64 a_1, .int .i64 b_1] 38)) := Lib.hid (by rw [hWA.block _ (by omega)]; exact HX3.out)
  have HBA : Hid ((w3.alloc (.cells #[.int .i64 r.m, .int .i64 (r.f 0), .int .i64 (r.f 1), .int .i64 (r.f 2), .int .i64 (r.f 3), .int .i64 (r.f 4), .int .i64 (r.f 5), .int .i64 (r.f 6), .int .i64 (r.f 7)] 36)).heap[w3.heap.size]? = some (.cells #[.int .i64 r.m, .int .i64 (r.f 0), .int .i64 (r.f 1), .int .i64 (r.f 2), .int .i64 (r.f 3), .int .i64 (r.f 4), .int .i64 (r.f 5), .int .i64 (r.f 6), .int .i64 (r.f 7)] 36)) := Lib.hid (heap_alloc_new _ _)
  have HSZ : Hid (w3.heap.size < (w3.alloc (.cells #[.int .i64 r.m, .int .i64 (r.f 0), .int .i64 (r.f 1), .int .i64 (r.f 2), .int .i64 (r.f 3), .int .i64 (r.f 4), .int .i64 (r.f 5), .int .i64 (r.f 6), .int .i64 (r.f 7)] 36)).heap.size) := Lib.hid (by simp)
  have HNF3 : Hid (¬ F w3.heap.size) := Lib.hid (fun f => by have := HW.out.lt _ f; omega)
  clear hb3 kx0 kx1 hWA
  cases hh : hasH rows a_1 b_1
  · have hx7 : x = 7 := by rw [← hx]; exact (getE_no hh).1
    subst hx7
    have HE : Hid (dropE rows a_1 b_1 a2 = 7) := Lib.hid (by rw [dropE, hh]; rfl)
    clear hx hr hh
    have kx0 : (w3.alloc (.cells #[.int .i64 r.m, .int .i64 (r.f 0), .int .i64 (r.f 1), .int .i64 (r.f 2), .int .i64 (r.f 3), .int .i64 (r.f 4), .int .i64 (r.f 5), .int .i64 (r.f 6), .int .i64 (r.f 7)] 36)).cell? ⟨w.heap.size, 0, none⟩ = some (.int .i64 a_1) := by rw [cell_of_row _ _ _ _ _ _ HXA.out]; rfl
    have kx1 : (w3.alloc (.cells #[.int .i64 r.m, .int .i64 (r.f 0), .int .i64 (r.f 1), .int .i64 (r.f 2), .int .i64 (r.f 3), .int .i64 (r.f 4), .int .i64 (r.f 5), .int .i64 (r.f 6), .int .i64 (r.f 7)] 36)).cell? ⟨w.heap.size, 1, none⟩ = some (.int .i64 b_1) := by rw [cell_of_row _ _ _ _ _ _ HXA.out]; rfl
    have hl3 : w.heap.size < w3.heap.size := by omega
    have kw0 : w3.cell? ⟨w.heap.size, 0, none⟩ = some (.int .i64 a_1) := by rw [cell_of_row _ _ _ _ _ _ HX3.out]; rfl
    have kw1 : w3.cell? ⟨w.heap.size, 1, none⟩ = some (.int .i64 b_1) := by rw [cell_of_row _ _ _ _ _ _ HX3.out]; rfl
    go_wp2_with fail
    refine (worldDrop_any p F l rows a_1 b_1 a2 _ (HW.out.later (nb_trans HB3.out HWA.out)) HOK.out HAB.out.1 HAB.out.2).mono ?_
    rintro e w4 ⟨rfl, F4, h4, hk4, hm4⟩
    rw [HE.out]
    have HB4 : Hid (Below w.heap.size w w4) := Lib.hid (by
      have h0 := nb_trans HX.out (nb_trans HB2.out (nb_trans HB3.out HWA.out))
      exact h0.trans (hk4.below h0.size (fun b hb => by have := HF.out b hb; have := HX.out.size; omega)))
    clear h4 hk4 hm4 kx0 kx1 kw0 kw1
    go_wp2
    go_ret
    exact ⟨rfl, HB4.out⟩
  · have hx0 : x = 0 := by rw [← hx]; exact (getE_yes hh).1
    subst hx0
    obtain ⟨j, hja⟩ : ∃ j : Nat, a2 % 8 = (j : Int) := ⟨(a2 % 8).toNat, by omega⟩
    have hj : j < 8 := by omega
    obtain ⟨n, hna⟩ : ∃ n : Int, a3 % 1000 = n := ⟨_, rfl⟩
    have hn : inB n (-1000000000) 1000000000 = true := by simp [inB]; omega
    have HJA := Lib.hid hja
    have HNA := Lib.hid hna
    have HHH := Lib.hid hh
    have HRR := Lib.hid hr
    have HN := Lib.hid hn
    clear hja hna hx hh hr hn
    go_wp2_with fail
    generalize w3.alloc (.cells #[.int .i64 r.m, .int .i64 (r.f 0), .int .i64 (r.f 1), .int .i64 (r.f 2), .int .i64 (r.f 3), .int .i64 (r.f 4), .int .i64 (r.f 5), .int .i64 (r.f 6), .int .i64 (r.f 7)] 36) = A at *
    refine (rest_any _ _ _ (by omega) (by omega)).mono ?_
    rintro e w' ⟨rfl, rfl⟩
    rw [HJA.out]
    go_wp2_with fail
    refine (rest_any _ _ _ (by omega) (by omega)).mono ?_
    rintro e w' ⟨rfl, rfl⟩
    rw [HNA.out]
    have kx0 : A.cell? ⟨w.heap.size, 0, none⟩ = some (.int .i64 a_1) := by rw [cell_of_row _ _ _ _ _ _ HXA.out]; rfl
    have kx1 : A.cell? ⟨w.heap.size, 1, none⟩ = some (.int .i64 b_1) := by rw [cell_of_row _ _ _ _ _ _ HXA.out]; rfl
    have kb0 : A.cell? ⟨w3.heap.size, 0, none⟩ = some (.int .i64 r.m) := by rw [cell_of_row _ _ _ _ _ _ HBA.out]; rfl
    have kb1 : A.cell? ⟨w3.heap.size, 1, none⟩ = some (.int .i64 (r.f 0)) := by rw [cell_of_row _ _ _ _ _ _ HBA.out]; rfl
    have kb2 : A.cell? ⟨w3.heap.size, 2, none⟩ = some (.int .i64 (r.f 1)) := by rw [cell_of_row _ _ _ _ _ _ HBA.out]; rfl
    have kb3 : A.cell? ⟨w3.heap.size, 3, none⟩ = some (.int .i64 (r.f 2)) := by rw [cell_of_row _ _ _ _ _ _ HBA.out]; rfl
    have kb4 : A.cell? ⟨w3.heap.size, 4, none⟩ = some (.int .i64 (r.f 3)) := by rw [cell_of_row _ _ _ _ _ _ HBA.out]; rfl
    have kb5 : A.cell? ⟨w3.heap.size, 5, none⟩ = some (.int .i64 (r.f 4)) := by rw [cell_of_row _ _ _ _ _ _ HBA.out]; rfl
    have kb6 : A.cell? ⟨w3.heap.size, 6, none⟩ = some (.int .i64 (r.f 5)) := by rw [cell_of_row _ _ _ _ _ _ HBA.out]; rfl
    have kb7 : A.cell? ⟨w3.heap.size, 7, none⟩ = some (.int .i64 (r.f 6)) := by rw [cell_of_row _ _ _ _ _ _ HBA.out]; rfl
    have kb8 : A.cell? ⟨w3.heap.size, 8, none⟩ = some (.int .i64 (r.f 7)) := by rw [cell_of_row _ _ _ _ _ _ HBA.out]; rfl
    have hxa := (Array.getElem?_eq_some_iff.1 HXA.out).1
    have hba := (Array.getElem?_eq_some_iff.1 HBA.out).1
    go_wp2_with fail
    refine (refHasKind_any _ _ _ (by omega) (by omega)).mono ?_
    rintro e w' ⟨rfl, rfl⟩
    rw [Int.toNat_natCast]
    have HWLD : Hid (WldAt A p F l (· ∈ rows)) := Lib.hid (HW.out.later (nb_trans HB3.out HWA.out))
    have HBW : Hid (Below X.heap.size X A) := Lib.hid (nb_trans HB2.out (nb_trans HB3.out HWA.out))
    have hj0 : (0 : Int) ≤ (j : Int) := by omega
    have hj8 : (j : Int) < 8 := by omega
    cases ht : tb r.m j
    · obtain ⟨e1, e2, e3, e4⟩ := put_drop_facts HOK.out HHH.out HRR.out hj HN.out ht
      have HE1 := Lib.hid e1
      have HE2 := Lib.hid e2
      have HE3 := Lib.hid e3
      have HE4 := Lib.hid e4
      clear ht e1 e2 e3 e4 kb0 kb1 kb2 kb3 kb4 kb5 kb6 kb7 kb8
      go_wp2_with fail
      have HC0 : Hid (A.cell? ⟨w.heap.size, 0, none⟩ = some (.int .i64 a_1) ∧ A.cell? ⟨w.heap.size, 1, none⟩ = some (.int .i64 b_1)) := Lib.hid ⟨kx0, kx1⟩
      go_region_held3 (fun x => (x.cell? ⟨w.heap.size, 0, none⟩ = some (.int .i64 a_1) ∧ x.cell? ⟨w.heap.size, 1, none⟩ = some (.int .i64 b_1))) (first | go_keep | exact HKA.out | exact HKB.out) (first
        | ((go_at_call 24; refine (worldPut_any p F l rows a_1 b_1 j n _ (HWLD.out.later (Below.refl _ _).drew) HOK.out HAB.out.1 HAB.out.2).mono ?_; rintro e x1 ⟨rfl, F4, h4, hk4, hm4⟩; rw [HE1.out]; have HW4 := Lib.hid h4; have HK4 := Lib.hid hk4; have HM4 := Lib.hid hm4; have HKA : Hid (x1.cell? ⟨w.heap.size, 0, none⟩ = some (.int .i64 a_1) ∧ x1.cell? ⟨w.heap.size, 1, none⟩ = some (.int .i64 b_1)) := Lib.hid ⟨hk4.cellS (p := ⟨w.heap.size, 0, none⟩) HC0.out.1 HNF.out, hk4.cellS (p := ⟨w.heap.size, 1, none⟩) HC0.out.2 HNF.out⟩; clear h4 hk4 hm4))
        | ((go_at_call 26; refine (worldDrop_any p F4 l (putWR rows a_1 b_1 j n) a_1 b_1 j _ HW4.out (HOK.out.put _ _ _ _) HAB.out.1 HAB.out.2).mono ?_; rintro e x2 ⟨rfl, F5, h5, hk5, hm5⟩; rw [HE2.out]; have HW5 := Lib.hid h5; have HK5 := Lib.hid hk5; have HM5 := Lib.hid hm5; have HKB : Hid (x2.cell? ⟨w.heap.size, 0, none⟩ = some (.int .i64 a_1) ∧ x2.cell? ⟨w.heap.size, 1, none⟩ = some (.int .i64 b_1)) := Lib.hid ⟨hk5.cellS (p := ⟨w.heap.size, 0, none⟩) HKA.out.1 (HM4.out.ne hxa HNF.out), hk5.cellS (p := ⟨w.heap.size, 1, none⟩) HKA.out.2 (HM4.out.ne hxa HNF.out)⟩; clear h5 hk5 hm5)))
      clear kx0 kx1
      have hx2A : x2.heap[w3.heap.size]? = some (.cells #[.int .i64 r.m, .int .i64 (r.f 0), .int .i64 (r.f 1), .int .i64 (r.f 2), .int .i64 (r.f 3), .int .i64 (r.f 4), .int .i64 (r.f 5), .int .i64 (r.f 6), .int .i64 (r.f 7)] 36) := by
        have h1 : x1.heap[w3.heap.size]? = some (.cells #[.int .i64 r.m, .int .i64 (r.f 0), .int .i64 (r.f 1), .int .i64 (r.f 2), .int .i64 (r.f 3), .int .i64 (r.f 4), .int .i64 (r.f 5), .int .i64 (r.f 6), .int .i64 (r.f 7)] 36) := by rw [HK4.out.block _ hba HNF3.out]; exact HBA.out
        rw [HK5.out.block _ (Array.getElem?_eq_some_iff.1 h1).1 (HM4.out.ne hba HNF3.out)]; exact h1
      have HX2A := Lib.hid hx2A
      have HB5 : Hid (Below X.heap.size X x2) := Lib.hid (by
        have ha := HBW.out.drew.trans (HK4.out.below HBW.out.drew.size HF.out)
        exact ha.trans (HK5.out.below ha.size (HM4.out.above HBW.out.drew.size HF.out)))
      obtain ⟨kx0, kx1⟩ := HKB.out
      have hxx := World.block_lt_of_cell? _ _ kx0
      have hx2l := (Array.getElem?_eq_some_iff.1 hx2A).1
      clear hx2A
      go_wp2_with fail
      refine (worldGet_any p F5 l _ a_1 b_1 r 0 _ HW5.out HAB.out.1 HAB.out.2 HE4.out HE3.out).mono ?_
      rintro e w6 ⟨rfl, hb6⟩
      have HB6 := Lib.hid (nb_trans HX.out (nb_trans HB5.out hb6))
      have hbb6 : w6.heap[w3.heap.size]? = some (.cells #[.int .i64 r.m, .int .i64 (r.f 0), .int .i64 (r.f 1), .int .i64 (r.f 2), .int .i64 (r.f 3), .int .i64 (r.f 4), .int .i64 (r.f 5), .int .i64 (r.f 6), .int .i64 (r.f 7)] 36) := by rw [hb6.block _ hx2l]; exact HX2A.out
      have hbl6 := (Array.getElem?_eq_some_iff.1 hbb6).1
      have kb0 : w6.cell? ⟨w3.heap.size, 0, none⟩ = some (.int .i64 r.m) := by rw [cell_of_row _ _ _ _ _ _ hbb6]; rfl
      have kb1 : w6.cell? ⟨w3.heap.size, 1, none⟩ = some (.int .i64 (r.f 0)) := by rw [cell_of_row _ _ _ _ _ _ hbb6]; rfl
      have kb2 : w6.cell? ⟨w3.heap.size, 2, none⟩ = some (.int .i64 (r.f 1)) := by rw [cell_of_row _ _ _ _ _ _ hbb6]; rfl
      have kb3 : w6.cell? ⟨w3.heap.size, 3, none⟩ = some (.int .i64 (r.f 2)) := by rw [cell_of_row _ _ _ _ _ _ hbb6]; rfl
      have kb4 : w6.cell? ⟨w3.heap.size, 4, none⟩ = some (.int .i64 (r.f 3)) := by rw [cell_of_row _ _ _ _ _ _ hbb6]; rfl
      have kb5 : w6.cell? ⟨w3.heap.size, 5, none⟩ = some (.int .i64 (r.f 4)) := by rw [cell_of_row _ _ _ _ _ _ hbb6]; rfl
      have kb6 : w6.cell? ⟨w3.heap.size, 6, none⟩ = some (.int .i64 (r.f 5)) := by rw [cell_of_row _ _ _ _ _ _ hbb6]; rfl
      have kb7 : w6.cell? ⟨w3.heap.size, 7, none⟩ = some (.int .i64 (r.f 6)) := by rw [cell_of_row _ _ _ _ _ _ hbb6]; rfl
      have kb8 : w6.cell? ⟨w3.heap.size, 8, none⟩ = some (.int .i64 (r.f 7)) := by rw [cell_of_row _ _ _ _ _ _ hbb6]; rfl
      have heq8 := eq8b_run r.f
      clear hb6 hbb6 kx0 kx1
      go_wp2
      go_ret
      exact ⟨rfl, nb_alloc HB6.out _⟩
    · obtain ⟨e1, e2, e3, e4, e5, e6, e7, e8, e9⟩ := drop_facts HOK.out HHH.out HRR.out hj ht
      have HE1 := Lib.hid e1
      have HE2 := Lib.hid e2
      have HE3 := Lib.hid e3
      have HE4 := Lib.hid e4
      have HE5 := Lib.hid e5
      have HE6 := Lib.hid e6
      have HE7 := Lib.hid e7
      have HE8 := Lib.hid e8
      have HE9 := Lib.hid e9
      clear ht e1 e2 e3 e4 e5 e6 e7 e8 e9 kb0 kb1 kb2 kb3 kb4 kb5 kb6 kb7 kb8
      go_wp2_with fail
      refine (worldDrop_any p F l rows a_1 b_1 j _ HWLD.out HOK.out HAB.out.1 HAB.out.2).mono ?_
      rintro e w4 ⟨rfl, F4, h4, hk4, hm4⟩
      rw [HE1.out]
      have HW4 := Lib.hid h4
      have HOK4 := Lib.hid (HOK.out.drop a_1 b_1 j)
      generalize hrw : dropR rows a_1 b_1 j = rows1 at *
      have HXA4 : Hid (w4.heap[w.heap.size]? = some (.cells #[.int .i64 a_1, .int .i64 b_1] 38)) := Lib.hid (by rw [hk4.block _ hxa HNF.out]; exact HXA.out)
      have HBA4 : Hid (w4.heap[w3.heap.size]? = some (.cells #[.int .i64 r.m, .int .i64 (r.f 0), .int .i64 (r.f 1), .int .i64 (r.f 2), .int .i64 (r.f 3), .int .i64 (r.f 4), .int .i64 (r.f 5), .int .i64 (r.f 6), .int .i64 (r.f 7)] 36)) := Lib.hid (by rw [hk4.block _ hba HNF3.out]; exact HBA.out)
      have HN4 : Hid (¬ F4 w.heap.size ∧ ¬ F4 w3.heap.size) := Lib.hid ⟨hm4.ne hxa HNF.out, hm4.ne hba HNF3.out⟩
      have HF4 : Hid (∀ b, F4 b → X.heap.size ≤ b) := Lib.hid (hm4.above HBW.out.size HF.out)
      have HB4 : Hid (Below X.heap.size X w4) := Lib.hid (HBW.out.trans (hk4.below HBW.out.size HF.out))
      clear h4 hk4 hm4 kx0 kx1 hrw
      have kx0 : w4.cell? ⟨w.heap.size, 0, none⟩ = some (.int .i64 a_1) := by rw [cell_of_row _ _ _ _ _ _ HXA4.out]; rfl
      have kx1 : w4.cell? ⟨w.heap.size, 1, none⟩ = some (.int .i64 b_1) := by rw [cell_of_row _ _ _ _ _ _ HXA4.out]; rfl
      have hxa4 := (Array.getElem?_eq_some_iff.1 HXA4.out).1
      have hba4 := (Array.getElem?_eq_some_iff.1 HBA4.out).1
      go_wp2_with fail
      refine (worldGet_any p F4 l rows1 a_1 b_1 (dropK r j) 0 _ HW4.out HAB.out.1 HAB.out.2 HE3.out HE2.out).mono ?_
      rintro e w5 ⟨rfl, hb5⟩
      have HB5 := Lib.hid hb5
      have hs5 := hb5.size
      clear kx0 kx1
      generalize hdk : dropK r j = d at *
      have hW5 : Below w4.heap.size w4 (w5.alloc (.cells #[.int .i64 d.m, .int .i64 (d.f 0), .int .i64 (d.f 1), .int .i64 (d.f 2), .int .i64 (d.f 3), .int .i64 (d.f 4), .int .i64 (d.f 5), .int .i64 (d.f 6), .int .i64 (d.f 7)] 36)) := nb_alloc hb5 _
      have HW5 := Lib.hid hW5
      have h5x : (w5.alloc (.cells #[.int .i64 d.m, .int .i64 (d.f 0), .int .i64 (d.f 1), .int .i64 (d.f 2), .int .i64 (d.f 3), .int .i64 (d.f 4), .int .i64 (d.f 5), .int .i64 (d.f 6), .int .i64 (d.f 7)] 36)).heap[w.heap.size]? = some (.cells #[.int .i64 a_1, .int .i64 b_1] 38) := by rw [hW5.block _ hxa4]; exact HXA4.out
      have h5b : (w5.alloc (.cells #[.int .i64 d.m, .int .i64 (d.f 0), .int .i64 (d.f 1), .int .i64 (d.f 2), .int .i64 (d.f 3), .int .i64 (d.f 4), .int .i64 (d.f 5), .int .i64 (d.f 6), .int .i64 (d.f 7)] 36)).heap[w3.heap.size]? = some (.cells #[.int .i64 r.m, .int .i64 (r.f 0), .int .i64 (r.f 1), .int .i64 (r.f 2), .int .i64 (r.f 3), .int .i64 (r.f 4), .int .i64 (r.f 5), .int .i64 (r.f 6), .int .i64 (r.f 7)] 36) := by rw [hW5.block _ hba4]; exact HBA4.out
      have h5n : (w5.alloc (.cells #[.int .i64 d.m, .int .i64 (d.f 0), .int .i64 (d.f 1), .int .i64 (d.f 2), .int .i64 (d.f 3), .int .i64 (d.f 4), .int .i64 (d.f 5), .int .i64 (d.f 6), .int .i64 (d.f 7)] 36)).heap[w5.heap.size]? = some (.cells #[.int .i64 d.m, .int .i64 (d.f 0), .int .i64 (d.f 1), .int .i64 (d.f 2), .int .i64 (d.f 3), .int .i64 (d.f 4), .int .i64 (d.f 5), .int .i64 (d.f 6), .int .i64 (d.f 7)] 36) := heap_alloc_new _ _
      have HN5 : Hid (¬ F4 w.heap.size ∧ ¬ F4 w3.heap.size ∧ ¬ F4 w5.heap.size) := Lib.hid ⟨HN4.out.1, HN4.out.2, fun f => by have := HW4.out.lt _ f; omega⟩
      clear hb5 hW5
      go_wp2_with fail
      generalize w5.alloc (.cells #[.int .i64 d.m, .int .i64 (d.f 0), .int .i64 (d.f 1), .int .i64 (d.f 2), .int .i64 (d.f 3), .int .i64 (d.f 4), .int .i64 (d.f 5), .int .i64 (d.f 6), .int .i64 (d.f 7)] 36) = B at *
      have kx0 : B.cell? ⟨w.heap.size, 0, none⟩ = some (.int .i64 a_1) := by rw [cell_of_row _ _ _ _ _ _ h5x]; rfl
      have kx1 : B.cell? ⟨w.heap.size, 1, none⟩ = some (.int .i64 b_1) := by rw [cell_of_row _ _ _ _ _ _ h5x]; rfl
      have ky : B.cell? ⟨w3.heap.size, 1 + j, none⟩ = some (.int .i64 (r.f j)) := by rw [cell_of_row _ _ _ _ _ _ h5b]; exact vals_at r.m r.f j hj
      have kz0 : B.cell? ⟨w5.heap.size, 0, none⟩ = some (.int .i64 d.m) := by rw [cell_of_row _ _ _ _ _ _ h5n]; rfl
      have kz1 : B.cell? ⟨w5.heap.size, 1 + j, none⟩ = some (.int .i64 0) := by rw [cell_of_row _ _ _ _ _ _ h5n, vals_at d.m d.f j hj, HE9.out]
      have HC0 : Hid (B.cell? ⟨w.heap.size, 0, none⟩ = some (.int .i64 a_1) ∧ B.cell? ⟨w.heap.size, 1, none⟩ = some (.int .i64 b_1) ∧ B.cell? ⟨w3.heap.size, 1 + j, none⟩ = some (.int .i64 (r.f j)) ∧ B.cell? ⟨w5.heap.size, 0, none⟩ = some (.int .i64 d.m) ∧ B.cell? ⟨w5.heap.size, 1 + j, none⟩ = some (.int .i64 0)) := Lib.hid ⟨kx0, kx1, ky, kz0, kz1⟩
      have l1 := (Array.getElem?_eq_some_iff.1 h5x).1
      have l2 := (Array.getElem?_eq_some_iff.1 h5b).1
      have l3 := (Array.getElem?_eq_some_iff.1 h5n).1
      have HLL : Hid (w.heap.size < B.heap.size ∧ w3.heap.size < B.heap.size ∧ w5.heap.size < B.heap.size) := Lib.hid ⟨l1, l2, l3⟩
      clear h5x h5b h5n hdk
      go_region_held3 (fun x => (x.cell? ⟨w.heap.size, 0, none⟩ = some (.int .i64 a_1) ∧ x.cell? ⟨w.heap.size, 1, none⟩ = some (.int .i64 b_1) ∧ x.cell? ⟨w3.heap.size, 1 + j, none⟩ = some (.int .i64 (r.f j)) ∧ x.cell? ⟨w5.heap.size, 0, none⟩ = some (.int .i64 d.m) ∧ x.cell? ⟨w5.heap.size, 1 + j, none⟩ = some (.int .i64 0))) (first | go_keep | exact HKA.out | exact HKB.out | exact HKC.out) (first
        | ((go_at_call 25; refine (refHasKind_any _ _ _ (by omega) (by omega)).mono ?_; rintro e w' ⟨rfl, rfl⟩; rw [Int.toNat_natCast, HE8.out]))
        | ((go_at_call 26; refine (worldDrop_any p F4 l rows1 a_1 b_1 j _ (HW4.out.later HW5.out.drew) HOK4.out HAB.out.1 HAB.out.2).mono ?_; rintro e x1 ⟨rfl, F6, h6, hk6, hm6⟩; rw [HE4.out]; rw [HE5.out] at h6; have HW6 := Lib.hid h6; have HK6 := Lib.hid hk6; have HM6 := Lib.hid hm6; have HN6 : Hid (¬ F6 w.heap.size ∧ ¬ F6 w3.heap.size ∧ ¬ F6 w5.heap.size) := Lib.hid ⟨hm6.ne HLL.out.1 HN5.out.1, hm6.ne HLL.out.2.1 HN5.out.2.1, hm6.ne HLL.out.2.2 HN5.out.2.2⟩; have HKA : Hid (x1.cell? ⟨w.heap.size, 0, none⟩ = some (.int .i64 a_1) ∧ x1.cell? ⟨w.heap.size, 1, none⟩ = some (.int .i64 b_1) ∧ x1.cell? ⟨w3.heap.size, 1 + j, none⟩ = some (.int .i64 (r.f j)) ∧ x1.cell? ⟨w5.heap.size, 0, none⟩ = some (.int .i64 d.m) ∧ x1.cell? ⟨w5.heap.size, 1 + j, none⟩ = some (.int .i64 0)) := Lib.hid ⟨hk6.cellS (p := ⟨w.heap.size, 0, none⟩) HC0.out.1 HN5.out.1, hk6.cellS (p := ⟨w.heap.size, 1, none⟩) HC0.out.2.1 HN5.out.1, hk6.cellS (p := ⟨w3.heap.size, 1 + j, none⟩) HC0.out.2.2.1 HN5.out.2.1, hk6.cellS (p := ⟨w5.heap.size, 0, none⟩) HC0.out.2.2.2.1 HN5.out.2.2, hk6.cellS (p := ⟨w5.heap.size, 1 + j, none⟩) HC0.out.2.2.2.2 HN5.out.2.2⟩; clear h6 hk6 hm6))
        | ((go_at_call 24; refine (worldPut_any p F6 l rows1 a_1 b_1 j (r.f j) _ HW6.out HOK4.out HAB.out.1 HAB.out.2).mono ?_; rintro e x2 ⟨rfl, F7, h7, hk7, hm7⟩; rw [HE6.out]; have HW7 := Lib.hid h7; have HK7 := Lib.hid hk7; have HM7 := Lib.hid hm7; have HKB : Hid (x2.cell? ⟨w.heap.size, 0, none⟩ = some (.int .i64 a_1) ∧ x2.cell? ⟨w.heap.size, 1, none⟩ = some (.int .i64 b_1) ∧ x2.cell? ⟨w3.heap.size, 1 + j, none⟩ = some (.int .i64 (r.f j)) ∧ x2.cell? ⟨w5.heap.size, 0, none⟩ = some (.int .i64 d.m) ∧ x2.cell? ⟨w5.heap.size, 1 + j, none⟩ = some (.int .i64 0)) := Lib.hid ⟨hk7.cellS (p := ⟨w.heap.size, 0, none⟩) HKA.out.1 HN6.out.1, hk7.cellS (p := ⟨w.heap.size, 1, none⟩) HKA.out.2.1 HN6.out.1, hk7.cellS (p := ⟨w3.heap.size, 1 + j, none⟩) HKA.out.2.2.1 HN6.out.2.1, hk7.cellS (p := ⟨w5.heap.size, 0, none⟩) HKA.out.2.2.2.1 HN6.out.2.2, hk7.cellS (p := ⟨w5.heap.size, 1 + j, none⟩) HKA.out.2.2.2.2 HN6.out.2.2⟩; clear h7 hk7 hm7))
        | ((go_at_call 23; refine (keepAll_any p F7 l _ _ HW7.out (HOK4.out.put _ _ _ _)).mono ?_; rintro e x3 ⟨v, rfl, ho8, hb8⟩; obtain ⟨av, cv, rfl, -⟩ := ho8.reads; have HB8 := Lib.hid hb8; have hpos : (0 : Int) < ((putWR rows1 a_1 b_1 j (r.f j)).length : Int) := (by have := HE7.out; omega); have hpos2 := HE7.out; have HKC : Hid (x3.cell? ⟨w.heap.size, 0, none⟩ = some (.int .i64 a_1) ∧ x3.cell? ⟨w.heap.size, 1, none⟩ = some (.int .i64 b_1) ∧ x3.cell? ⟨w3.heap.size, 1 + j, none⟩ = some (.int .i64 (r.f j)) ∧ x3.cell? ⟨w5.heap.size, 0, none⟩ = some (.int .i64 d.m) ∧ x3.cell? ⟨w5.heap.size, 1 + j, none⟩ = some (.int .i64 0)) := Lib.hid ⟨(Kept.ofBelow (F := fun _ => False) hb8).cellS (p := ⟨w.heap.size, 0, none⟩) HKB.out.1 (⟨id, id, id⟩ : (¬ False) ∧ (¬ False) ∧ (¬ False)).1, (Kept.ofBelow (F := fun _ => False) hb8).cellS (p := ⟨w.heap.size, 1, none⟩) HKB.out.2.1 (⟨id, id, id⟩ : (¬ False) ∧ (¬ False) ∧ (¬ False)).1, (Kept.ofBelow (F := fun _ => False) hb8).cellS (p := ⟨w3.heap.size, 1 + j, none⟩) HKB.out.2.2.1 (⟨id, id, id⟩ : (¬ False) ∧ (¬ False) ∧ (¬ False)).2.1, (Kept.ofBelow (F := fun _ => False) hb8).cellS (p := ⟨w5.heap.size, 0, none⟩) HKB.out.2.2.2.1 (⟨id, id, id⟩ : (¬ False) ∧ (¬ False) ∧ (¬ False)).2.2, (Kept.ofBelow (F := fun _ => False) hb8).cellS (p := ⟨w5.heap.size, 1 + j, none⟩) HKB.out.2.2.2.2 (⟨id, id, id⟩ : (¬ False) ∧ (¬ False) ∧ (¬ False)).2.2⟩; clear ho8 hb8)))
      have HBN : Hid (Below w.heap.size w x3) := Lib.hid (by
        have h0 : Below X.heap.size X B.drew := (nb_trans HB4.out HW5.out).drew
        have h1 := h0.trans (HK6.out.below h0.size HF4.out)
        have h2 := h1.trans (HK7.out.below h1.size (HM6.out.above h0.size HF4.out))
        exact nb_trans HX.out (nb_trans h2 HB8.out))
      go_wp2
      go_ret
      exact ⟨rfl, HBN.out⟩

namespace worldDrops
theorem own : ownKnob Try.prog.godebug = none := by kernel_rfl
theorem laidOut : laidOutB Try.prog = true := by kernel_rfl

set_option maxRecDepth 100000 in
set_option maxHeartbeats 4000000 in
theorem lifted (os : Os) (started : os.Started) (H : Type) (enc : TypeId × Value → H) :
    ReturnsInHanded {} Try.checked os 6 .any (Rows.worldDropsSpec.pre6 enc Try.prog Try.f6 Rows.worldDropsRow.domain false) (Rows.worldDropsSpec.post enc Try.prog Try.f6 false true false false) := by
  refine returnsInHanded_of_change (C := Try.checked) own started (by kernel_rfl) Try.func6
    (ChangeSpec.witness6 (enc := enc) (C := Try.checked) false ⟨#[], #[.slice none 0 0, .agg #[.int .i64 0, .int .i64 0], .int .i64 0, .int .i64 0], []⟩ 8 (by kernel_rfl) (by kernel_rfl) (by kernel_rfl) (by kernel_rfl)) ?_
  intro W base args ds gs before hval0 hW hcnd _
  have hval : ∀ (j : Nat) t v, Try.f6.params[j]? = some t → args[j]? = some v → Value.okWide Try.prog W .any base t v := hval0
  have hW' := hW
  obtain ⟨p, q, hA0, hV, rfl, hfz, hnd⟩ := hW
  have hA : DataW.TrodAll enc Try.prog W 0 (fun _ => true) true Try.f6.params.toList args.toList ds p := hA0
  rw [Try.params6] at hA hval
  obtain ⟨v0, vs0, d0, ds0, p0, q0, hargs, rfl, rfl, h0, r0⟩ := trodAll_cons hA
  obtain ⟨v1, vs1, d1, ds1, p1, q1, rfl, rfl, rfl, h1, r1⟩ := trodAll_cons r0
  obtain ⟨v2, vs2, d2, ds2, p2, q2, rfl, rfl, rfl, h2, r2⟩ := trodAll_cons r1
  obtain ⟨v3, vs3, d3, ds3, p3, q3, rfl, rfl, rfl, h3, r3⟩ := trodAll_cons r2
  obtain ⟨rfl, rfl, rfl⟩ := trodAll_nil r3
  obtain rfl : args = #[v0, v1, v2, v3] := by cases args; simp_all
  obtain ⟨rfl, rfl⟩ := trodVars_none hV
  have k0' := h0
  have lt0 : ∀ x ∈ p0, x.block < W.heap.size := by obtain ⟨m, hm⟩ := h0; exact DataW.trod_lt m _ _ _ hm
  have k1' := h1
  have lt1 : ∀ x ∈ p1, x.block < W.heap.size := by obtain ⟨m, hm⟩ := h1; exact DataW.trod_lt m _ _ _ hm
  have k2' := h2
  have lt2 : ∀ x ∈ p2, x.block < W.heap.size := by obtain ⟨m, hm⟩ := h2; exact DataW.trod_lt m _ _ _ hm
  have k3' := h3
  have lt3 : ∀ x ∈ p3, x.block < W.heap.size := by obtain ⟨m, hm⟩ := h3; exact DataW.trod_lt m _ _ _ hm
  obtain ⟨z0, i0, j0⟩ : ∃ zs, Reads elOp W v0 zs ∧ ∀ x ∈ zs, OpOk x := by
    obtain ⟨a0, len0, cap0, rfl⟩ := okWide_slice Try.underlying22 (hval 0 22 v0 rfl rfl)
    exact Reads_ofP elOp OpOk Try.underlying22 (by kernel_rfl) op_dec h0
  obtain ⟨a_1, b_1, rfl, i1⟩ : ∃ a_1 b_1 : Int, v1 = .agg #[.int .i64 a_1, .int .i64 b_1] ∧ (I64 a_1 ∧ I64 b_1) := by
    obtain ⟨zs, hl, rfl, hz⟩ := open_flat 3 2 Try.underlying38 (by kernel_rfl) (by kernel_rfl) (hval 1 38 v1 rfl rfl) h1
    obtain ⟨a_1, b_1, rfl⟩ := list2 hl
    exact ⟨a_1, b_1, rfl, hz a_1 (by simp), hz b_1 (by simp)⟩
  obtain ⟨a2, rfl, i2⟩ : ∃ a : Int, v2 = .int .i64 a ∧ I64 a := by
    obtain ⟨a, rfl, _, _, wa⟩ := open_int Try.underlying3 (hval 2 3 v2 rfl rfl) h2
    exact ⟨a, rfl, I64_of wa⟩
  obtain ⟨a3, rfl, i3⟩ : ∃ a : Int, v3 = .int .i64 a ∧ I64 a := by
    obtain ⟨a, rfl, _, _, wa⟩ := open_int Try.underlying3 (hval 3 3 v3 rfl rfl) h3
    exact ⟨a, rfl, I64_of wa⟩
  clear hA0 hval0
  refine (worldDrops_walk v0 z0 j0 a_1 b_1 i1 a2 i2 a3 i3 W i0).mono fun e W' ⟨he, bel⟩ => ?_
  subst he
  exact ⟨_, rfl, _, _, _, [], _, [], hW', trodAll_mk1 (shut_bool Try.underlying4 _), (trodAll_cons_mk (Below.trod laidOut (by kernel_rfl) (of_decide_eq_true (by kernel_rfl)) k0' bel lt0) (trodAll_cons_mk (Below.trod laidOut (by kernel_rfl) (of_decide_eq_true (by kernel_rfl)) k1' bel lt1) (trodAll_cons_mk (Below.trod laidOut (by kernel_rfl) (of_decide_eq_true (by kernel_rfl)) k2' bel lt2) (trodAll_cons_mk (Below.trod laidOut (by kernel_rfl) (of_decide_eq_true (by kernel_rfl)) k3' bel lt3) trodAll_mk0)))), rfl, bel.frame _, fun h => by cases h⟩
end worldDrops

theorem worldDrops_proved : Rows.WorldDropsSaid :=
  OpenClaim.holds_of_wide 6 Try.f6 rfl rfl rfl rfl rfl rfl rfl ⟨rfl, rfl, rfl, rfl, rfl⟩ rfl rfl rfl rfl rfl (by kernel_rfl) Try.func6 (by kernel_rfl)
    (of_decide_eq_true (by kernel_rfl)) (by unfold Func.isWrapper; first | (rw [if_pos (by decide +kernel)]; kernel_rfl) | (rw [if_neg (by decide +kernel)]; exact ⟨rfl, rfl⟩))
    (fun os started H enc _ => worldDrops.lifted os started H enc)

end Go.Proofs.Ytakoejopgdaknaa


/- text.readBeast, text.readRow. -/
import Derived.Test.YtndhomjfjhohoaaGreatDoorPReadB
import Derived.Test.YtndhomjfjhohoaaGreatDoorGroundA
namespace Go.Proofs.YtndhomjfjhohoaaGreatDoor
set_option maxRecDepth 8000
set_option maxRecDepth 8000
open Go.RowKit

theorem cut_len (c : UInt8) (l : List UInt8) : (Lib.cut l [c]).1.length ≤ l.length ∧ (Lib.cut l [c]).2.1.length ≤ l.length := by
  rcases cut_one c l with ⟨-, e⟩ | ⟨x, y, rfl, -, e⟩
  · rw [e]; exact ⟨Nat.le_refl _, by simp⟩
  · rw [e]; simp; omega
def RZPost (w : World) (ws : List (List UInt8)) (e : Ending) (w' : World) : Prop :=
  ∃ (m : Int) (f : Nat → Int), e = .returned (.tuple #[.agg #[.int .i64 m, .int .i64 (f 0), .int .i64 (f 1), .int .i64 (f 2), .int .i64 (f 3), .int .i64 (f 4), .int .i64 (f 5), .int .i64 (f 6), .int .i64 (f 7)], .bool (rdB ws).isSome]) ∧ (∀ x, rdB ws = some x → x = (m, f)) ∧ Below w.heap.size w w'
theorem RZPost.no {w w' : World} {ws : List (List UInt8)} (h : rdB ws = none) (hb : Below w.heap.size w w') : RZPost w ws (.returned (.tuple #[.agg #[.int .i64 0, .int .i64 0, .int .i64 0, .int .i64 0, .int .i64 0, .int .i64 0, .int .i64 0, .int .i64 0, .int .i64 0], .bool false])) w' :=
  ⟨0, fun _ => 0, by rw [h]; rfl, fun x hx => (by rw [h] at hx; cases hx), hb⟩
theorem RZPost.yes {w w' : World} {ws : List (List UInt8)} {m : Int} {f : Nat → Int} (h : rdB ws = some (m, f)) (hb : Below w.heap.size w w') : RZPost w ws (.returned (.tuple #[.agg #[.int .i64 m, .int .i64 (f 0), .int .i64 (f 1), .int .i64 (f 2), .int .i64 (f 3), .int .i64 (f 4), .int .i64 (f 5), .int .i64 (f 6), .int .i64 (f 7)], .bool true])) w' :=
  ⟨m, f, by rw [h]; rfl, fun x hx => (by rw [h] at hx; cases hx; rfl), hb⟩
theorem nums_two {a b : List UInt8} : numsA [a, b] = (numA a).bind fun k => (numA b).bind fun v => some [k, v] := by
  cases ha : numA a <;> cases hb : numA b <;> simp [numsA, stN, ha, hb]
set_option maxHeartbeats 4000000 in
theorem readBeast_any (v : Value) (ws : List (List UInt8)) (w : World) (h : Reads elStr w v ws) (hl : ws.length ≤ 100000) (hb : ∀ x ∈ ws, x.length ≤ 1000000) (hv : VarsIs w) :
    Calls Tryz.prog 147 #[v] w (RZPost w ws) := by
  have hX : Below w.heap.size w ((w.alloc (.cells #[.int .i64 0, .int .i64 0, .int .i64 0, .int .i64 0, .int .i64 0, .int .i64 0, .int .i64 0, .int .i64 0, .int .i64 0] 52)).alloc (.cells #[.int .i64 0, .int .i64 0, .int .i64 0, .int .i64 0, .int .i64 0, .int .i64 0, .int .i64 0, .int .i64 0, .int .i64 0] 52)) := nb_alloc (nb_alloc (Below.refl _ _) _) _
  have hq2 := heap_alloc2_old w (.cells #[.int .i64 0, .int .i64 0, .int .i64 0, .int .i64 0, .int .i64 0, .int .i64 0, .int .i64 0, .int .i64 0, .int .i64 0] 52) (.cells #[.int .i64 0, .int .i64 0, .int .i64 0, .int .i64 0, .int .i64 0, .int .i64 0, .int .i64 0, .int .i64 0, .int .i64 0] 52)
  have hq4 := heap_alloc2_new w (.cells #[.int .i64 0, .int .i64 0, .int .i64 0, .int .i64 0, .int .i64 0, .int .i64 0, .int .i64 0, .int .i64 0, .int .i64 0] 52) (.cells #[.int .i64 0, .int .i64 0, .int .i64 0, .int .i64 0, .int .i64 0, .int .i64 0, .int .i64 0, .int .i64 0, .int .i64 0] 52)
  have HX := Lib.hid hX
  have HQ2 := Lib.hid hq2
  have HQ4 := Lib.hid hq4
  obtain ⟨a, c, rfl, hlc, hm, hcc⟩ := h
  unfold maxLen at hm
  have HC := Lib.hid hcc
  have HV := Lib.hid hv
  have HBL := Lib.hid hb
  generalize hn : ws.length = n at *
  have HN := Lib.hid hn
  clear hn hcc hv hb hX hq2 hq4
  go_enter Tryz.func147, Tryz.ntmps147
  go_wp2
  generalize (w.alloc (.cells #[.int .i64 0, .int .i64 0, .int .i64 0, .int .i64 0, .int .i64 0, .int .i64 0, .int .i64 0, .int .i64 0, .int .i64 0] 52)).alloc (.cells #[.int .i64 0, .int .i64 0, .int .i64 0, .int .i64 0, .int .i64 0, .int .i64 0, .int .i64 0, .int .i64 0, .int .i64 0] 52) = X at *
  go_loopw [16] (fun i wr => ∃ (k : Nat) (m : Int) (f : Nat → Int), k ≤ n ∧ i = .int .i64 k ∧ Hid (rdB (ws.take k) = some (m, f)) ∧ Hid (wr.heap[w.heap.size + 1]? = some (.cells #[.int .i64 m, .int .i64 (f 0), .int .i64 (f 1), .int .i64 (f 2), .int .i64 (f 3), .int .i64 (f 4), .int .i64 (f 5), .int .i64 (f 6), .int .i64 (f 7)] 52)) ∧ Hid (wr.heap[w.heap.size]? = some (.cells #[.int .i64 0, .int .i64 0, .int .i64 0, .int .i64 0, .int .i64 0, .int .i64 0, .int .i64 0, .int .i64 0, .int .i64 0] 52)) ∧ Hid (Below w.heap.size w wr)) (fun i _ => n - (intOf i).toNat)
  case atStart => exact ⟨0, 0, fun _ => 0, by omega, rfl, Lib.hid rfl, HQ4, HQ2, HX⟩
  case round =>
    obtain ⟨k, m, f, hk, rfl, hmf, hp4, hp2, hB⟩ := hrel
    have hl4 := (Array.getElem?_eq_some_iff.1 hp4.out).1
    have hl2 := (Array.getElem?_eq_some_iff.1 hp2.out).1
    by_cases hlt : k < n
    · obtain ⟨b, off, rfl, hbl, hck⟩ := HC.out k hlt
      obtain ⟨y, hy⟩ : ∃ y, ws.getD k [] = y := ⟨_, rfl⟩
      have hkl : k < ws.length := by rw [HN.out]; exact hlt
      have hyk : ws[k]? = some y := by rw [← hy, List.getD_eq_getElem?_getD, List.getElem?_eq_getElem hkl]; rfl
      have hyl : y.length ≤ 1000000 := HBL.out y (List.mem_of_getElem? hyk)
      have c0 : wr.cell? ⟨b, off + k, none⟩ = some (.string { data := y.toArray }) := by
        rw [hB.out.cell (p := ⟨b, off + k, none⟩) hbl]
        have := hck 0 (by decide)
        rw [show off + k * elStr.size + 0 = off + k by simp [elStr], show ws.getD k elStr.zero = y from hy] at this
        exact this
      have hbw : b < wr.heap.size := Nat.lt_of_lt_of_le hbl hB.out.size
      have HST : Hid (rdB (ws.take (k + 1)) = stB (some (m, f)) y) := Lib.hid (by have := hmf.out; rw [rdB] at this ⊢; rw [fold_take hyk, this])
      have HFAIL : Hid (stB (some (m, f)) y = none → rdB ws = none) := Lib.hid (fun e => fold_fail (k := k + 1) stB_none (HST.out.trans e))
      have hcl := cut_len 61 y
      have HSB : Hid (stB (some (m, f)) y = (numA (Lib.cut y [61]).1).bind fun k => (numA (Lib.cut y [61]).2.1).bind fun v => if isK k then some (bits .or .i64 m (2 ^ k.toNat), upd f k.toNat v) else none) := Lib.hid rfl
      have HCUT := Lib.hid (cut_any 61 y hyl wr (HV.out.later hB.out))
      obtain ⟨A, hA⟩ : ∃ A, (Lib.cut y [61]).1 = A := ⟨_, rfl⟩
      obtain ⟨D, hD⟩ : ∃ A, (Lib.cut y [61]).2.1 = A := ⟨_, rfl⟩
      obtain ⟨g, hg⟩ : ∃ A, (Lib.cut y [61]).2.2 = A := ⟨_, rfl⟩
      rw [hA, hD, hg] at HCUT
      rw [hA, hD] at hcl HSB
      clear hA hD hg hck hy hyk
      go_wp2_with (go_at_call 37; refine HCUT.out.mono ?_; rintro e W1 ⟨rfl, hb1⟩; refine Hid.out ?_)
      refine Lib.hid ?_
      have HA1 : Hid (Below wr.heap.size wr (W1.alloc (.cells #[.string { data := A.toArray }, .string { data := D.toArray }] 9))) := Lib.hid (nb_trans hb1 (nb_alloc (Below.refl _ _) _))
      have HNN := Lib.hid (readNumbers_any (.slice (some ⟨W1.heap.size, 0, none⟩) 2 2) [A, D] (W1.alloc (.cells #[.string { data := A.toArray }, .string { data := D.toArray }] 9)) (Reads.ofBlock (E := elStr) (xs := [A, D]) (heap_alloc_new W1 _) (by simp [maxLen])) (by simp) (by intro x hx; simp at hx; rcases hx with rfl | rfl <;> omega) (HV.out.later (hB.out.trans (HA1.out.mono hB.out.size))))
      clear c0 hb1 HCUT hcl
      go_wp2_with (go_at_call 107; refine HNN.out.mono ?_; rintro e W2 ⟨u, rfl, ho, hb2⟩; refine Hid.out ?_)
      refine Lib.hid ?_
      have hbW : Below wr.heap.size wr W2 := nb_trans HA1.out hb2
      have hq4 : W2.heap[w.heap.size + 1]? = some (.cells #[.int .i64 m, .int .i64 (f 0), .int .i64 (f 1), .int .i64 (f 2), .int .i64 (f 3), .int .i64 (f 4), .int .i64 (f 5), .int .i64 (f 6), .int .i64 (f 7)] 52) := (hbW.block _ hl4).trans hp4.out
      have hq2 : W2.heap[w.heap.size]? = some (.cells #[.int .i64 0, .int .i64 0, .int .i64 0, .int .i64 0, .int .i64 0, .int .i64 0, .int .i64 0, .int .i64 0, .int .i64 0] 52) := (hbW.block _ hl2).trans hp2.out
      have HB2 := Lib.hid (nb_trans hB.out hbW)
      have HQ4 := Lib.hid hq4
      have HQ2 := Lib.hid hq2
      have hl2' := (Array.getElem?_eq_some_iff.1 hq2).1
      have hl4' := (Array.getElem?_eq_some_iff.1 hq4).1
      have fz2 : ∀ j, W2.frozen? ⟨w.heap.size, j, none⟩ = false := fun j => frozen_of_row _ _ _ _ _ hq2
      clear hb2 HNN hbW hl2
      cases hns : numsA [A, D] with
      | none =>
        have HE : Hid (rdB ws = none) := Lib.hid (HFAIL.out (by
          rw [HSB.out]; rw [nums_two] at hns
          cases h1 : numA A <;> cases h2 : numA D <;> rw [h1, h2] at hns <;> simp at hns ⊢))
        rw [hns] at ho
        clear hns ho hq4
        obtain ⟨k0, k1, k2, k3, k4, k5, k6, k7, k8⟩ := bCells0 hq2
        clear hq2
        simp only [Option.isSome_none]
        go_wp2
        refine bodyPost_ret (v := .tuple #[.agg #[.int .i64 0, .int .i64 0, .int .i64 0, .int .i64 0, .int .i64 0, .int .i64 0, .int .i64 0, .int .i64 0, .int .i64 0], .bool false]) (by simp [results, Tryz.results147, go_sem, k0, k1, k2, k3, k4, k5, k6, k7, k8]) rfl (RZPost.no HE.out ?_)
        iterate 9 (refine nb_setW ?_ _ _ _ (Nat.le_refl _))
        exact HB2.out
      | some l =>
        rw [hns, Option.getD_some] at ho
        simp only [Option.isSome_some]
        have h2l := numsA_len hns
        match l, h2l with
        | [z, x], _ =>
          obtain ⟨ha, hd⟩ : numA A = some z ∧ numA D = some x := by
            rw [nums_two] at hns
            cases h1 : numA A <;> cases h2 : numA D <;> rw [h1, h2] at hns <;> simp at hns
            exact ⟨by rw [hns.1], by rw [hns.2]⟩
          rcases ho.owns.form with ⟨-, e⟩ | ⟨g2, cap, cur, rfl, hh, hg2, hn2, hcap, hsz⟩
          · cases e
          · have ho' : OwnsF elInt W2 (W1.alloc (.cells #[.string { data := A.toArray }, .string { data := D.toArray }] 9)).heap.size 3 (.slice (some ⟨g2, 0, none⟩) 2 cap) [z, x] := ho
            obtain ⟨d0, -, hgl⟩ := ho'.open1 rfl (k := 0) (by simp)
            obtain ⟨d1, -, -⟩ := ho'.open1 rfl (k := 1) (by simp)
            have hg1 : w.heap.size + 1 < g2 := by have h1 : (W1.alloc (.cells #[.string { data := A.toArray }, .string { data := D.toArray }] 9)).heap.size ≤ g2 := ho'.ge rfl; have h2 := HA1.out.size; omega
            replace d0 : W2.cell? ⟨g2, 0, none⟩ = some (.int .i64 z) := d0
            replace d1 : W2.cell? ⟨g2, 1, none⟩ = some (.int .i64 x) := d1
            have hcp : 2 ≤ cap := hn2
            have hcm : cap ≤ 9223372036854775807 := by unfold maxLen at hcap; exact hcap
            have HOF := Lib.hid (of_any (.slice (some ⟨g2, 0, none⟩) 1 cap) [z] W2 ⟨_, cap, rfl, by simp; omega, hcap, fun t ht => ⟨g2, 0, rfl, hg2, (by have e : t = 0 := (by simpa using ht); subst e; exact d0)⟩⟩)
            simp only [List.length_cons, List.length_nil, Nat.reduceAdd]
            clear ho ho' hns hh hsz hn2 hcap
            cases hik : isK z with
            | false =>
              have HE : Hid (rdB ws = none) := Lib.hid (HFAIL.out (by rw [HSB.out, ha, hd, Option.bind_some, Option.bind_some, hik]; rfl))
              have hof : ofR [z] = (0, 1) := ofR_arg (k := 0) (by simp) hik
              rw [hof] at HOF
              clear ha hd hof d0 d1 hq4
              obtain ⟨k0, k1, k2, k3, k4, k5, k6, k7, k8⟩ := bCells0 hq2
              clear hq2
              go_wp2_with (go_at_call 157; refine HOF.out.mono ?_; rintro e w' ⟨rfl, rfl⟩)
              refine bodyPost_ret (v := .tuple #[.agg #[.int .i64 0, .int .i64 0, .int .i64 0, .int .i64 0, .int .i64 0, .int .i64 0, .int .i64 0, .int .i64 0, .int .i64 0], .bool false]) (by simp [results, Tryz.results147, go_sem, k0, k1, k2, k3, k4, k5, k6, k7, k8]) rfl (RZPost.no HE.out ?_)
              iterate 9 (refine nb_setW ?_ _ _ _ (Nat.le_refl _))
              exact HB2.out
            | true =>
              obtain ⟨hz0, hz7⟩ := isK_iff.1 hik
              obtain ⟨j, rfl⟩ := Int.eq_ofNat_of_zero_le hz0
              have hj : j < 8 := by omega
              have hof : ofR [((j : Nat) : Int)] = (2 ^ j, 0) := by
                rw [ofR_ok (by simp [hik]) (by simp), show [((j : Nat) : Int)] = [] ++ [((j : Nat) : Int)] from rfl, setOf_snoc, show setOf [] = 0 from rfl, Int.toNat_natCast, (or_small 0 j (by decide) (by decide) hj).2.2 (tb_zero j), Int.zero_add]
              rw [hof] at HOF
              have HNX : Hid (rdB (ws.take (k + 1)) = some (bits .or .i64 m (2 ^ j), upd f j x)) := Lib.hid (by rw [HST.out, HSB.out, ha, hd, Option.bind_some, Option.bind_some, if_pos hik, Int.toNat_natCast])
              generalize (2 : Int) ^ j = P at HOF HNX
              have k0 : W2.cell? ⟨w.heap.size + 1, 0, none⟩ = some (.int .i64 m) := by rw [cell_of_row _ _ _ _ _ _ hq4]; rfl
              have fz4 : ∀ j, W2.frozen? ⟨w.heap.size + 1, j, none⟩ = false := fun j => frozen_of_row _ _ _ _ _ hq4
              clear ha hd hof hik hq4 hq2
              go_wp2_with (go_at_call 157; refine HOF.out.mono ?_; rintro e w' ⟨rfl, rfl⟩)
              have hv4 : (W2.setCell ⟨w.heap.size + 1, 0, none⟩ (.int .i64 (bits .or .i64 m P))).heap[w.heap.size + 1]? = some (.cells #[.int .i64 (bits .or .i64 m P), .int .i64 (f 0), .int .i64 (f 1), .int .i64 (f 2), .int .i64 (f 3), .int .i64 (f 4), .int .i64 (f 5), .int .i64 (f 6), .int .i64 (f 7)] 52) := heap_setCell_same _ _ 0 _ _ _ HQ4.out
              have hv2 : (W2.setCell ⟨w.heap.size + 1, 0, none⟩ (.int .i64 (bits .or .i64 m P))).heap[w.heap.size]? = some (.cells #[.int .i64 0, .int .i64 0, .int .i64 0, .int .i64 0, .int .i64 0, .int .i64 0, .int .i64 0, .int .i64 0, .int .i64 0] 52) := by rw [heap_setCell_other _ _ _ _ (by simp)]; exact HQ2.out
              have e0 : (W2.setCell ⟨w.heap.size + 1, 0, none⟩ (.int .i64 (bits .or .i64 m P))).cell? ⟨g2, 0, none⟩ = some (.int .i64 ((j : Nat) : Int)) := by rw [World.cell?_setCell_other _ _ _ _ (by intro e; simp only [Addr.mk.injEq] at e; omega)]; exact d0
              have e1 : (W2.setCell ⟨w.heap.size + 1, 0, none⟩ (.int .i64 (bits .or .i64 m P))).cell? ⟨g2, 1, none⟩ = some (.int .i64 x) := by rw [World.cell?_setCell_other _ _ _ _ (by intro e; simp only [Addr.mk.injEq] at e; omega)]; exact d1
              have hbv : Below w.heap.size w (W2.setCell ⟨w.heap.size + 1, 0, none⟩ (.int .i64 (bits .or .i64 m P))) := nb_setW HB2.out _ _ _ (by omega)
              clear k0 fz4 d0 d1 fz2
              generalize W2.setCell ⟨w.heap.size + 1, 0, none⟩ (.int .i64 (bits .or .i64 m P)) = V at *
              generalize bits .or .i64 m P = M at *
              have hvl := (Array.getElem?_eq_some_iff.1 hv4).1
              have fv : ∀ j, V.frozen? ⟨w.heap.size + 1, j, none⟩ = false := fun j => frozen_of_row _ _ _ _ _ hv4
              have kj : V.cell? ⟨w.heap.size + 1, 1 + j, none⟩ = some (.int .i64 (f j)) := by rw [cell_of_row _ _ _ _ _ _ hv4]; exact vals_at M f j hj
              have HV4 := Lib.hid hv4
              have HV2 := Lib.hid hv2
              have HBV := Lib.hid hbv
              have hj0 : (0 : Int) ≤ (j : Int) := by omega
              have hj8 : (j : Int) < 8 := by omega
              clear hv4 hv2 hbv
              go_wp2_with fail
              go_still_tail 8, (by kernel_rfl)
              change wpList _ _ _ _ _ V.drew
              clear e0 e1
              have HV5 : Hid ((V.drew.setCell ⟨w.heap.size + 1, 1 + j, none⟩ (.int .i64 x)).heap[w.heap.size + 1]? = some (.cells #[.int .i64 M, .int .i64 ((upd f j x) 0), .int .i64 ((upd f j x) 1), .int .i64 ((upd f j x) 2), .int .i64 ((upd f j x) 3), .int .i64 ((upd f j x) 4), .int .i64 ((upd f j x) 5), .int .i64 ((upd f j x) 6), .int .i64 ((upd f j x) 7)] 52)) := Lib.hid (by
                have := heap_setCell_same V.drew (w.heap.size + 1) (1 + j) _ _ (.int .i64 x) HV4.out
                rw [vals_set M f j x hj] at this; exact this)
              have HV6 : Hid ((V.drew.setCell ⟨w.heap.size + 1, 1 + j, none⟩ (.int .i64 x)).heap[w.heap.size]? = some (.cells #[.int .i64 0, .int .i64 0, .int .i64 0, .int .i64 0, .int .i64 0, .int .i64 0, .int .i64 0, .int .i64 0, .int .i64 0] 52)) := Lib.hid (by rw [heap_setCell_other _ _ _ _ (by simp)]; exact HV2.out)
              have HV7 : Hid (Below w.heap.size w (V.drew.setCell ⟨w.heap.size + 1, 1 + j, none⟩ (.int .i64 x))) := Lib.hid (nb_setW HBV.out.drew _ _ _ (by omega))
              go_wp2
              go_roundw
              case rel => exact ⟨k + 1, M, upd f j x, by omega, by go_num, HNX, HV5, HV6, HV7⟩
              case measure => simp [intOf]; omega
    · obtain rfl : k = n := by omega
      have HE : Hid (rdB ws = some (m, f)) := Lib.hid (by have := hmf.out; rwa [List.take_of_length_le (by rw [HN.out]; exact Nat.le_refl _)] at this)
      have hq4 := hp4.out
      have hq2 := hp2.out
      obtain ⟨k0, k1, k2, k3, k4, k5, k6, k7, k8⟩ := bCells0 hq2
      obtain ⟨b0, b1, b2, b3, b4, b5, b6, b7, b8⟩ := bCells (m := m) (f := f) hq4
      have fz2 : ∀ j, wr.frozen? ⟨w.heap.size, j, none⟩ = false := fun j => frozen_of_row _ _ _ _ _ hq2
      clear hq4 hq2
      go_wp2
      refine bodyPost_ret (v := .tuple #[.agg #[.int .i64 m, .int .i64 (f 0), .int .i64 (f 1), .int .i64 (f 2), .int .i64 (f 3), .int .i64 (f 4), .int .i64 (f 5), .int .i64 (f 6), .int .i64 (f 7)], .bool true]) (by simp [results, Tryz.results147, go_sem, k0, k1, k2, k3, k4, k5, k6, k7, k8]) rfl (RZPost.yes HE.out ?_)
      iterate 9 (refine nb_setW ?_ _ _ _ (Nat.le_refl _))
      exact hB.out

def RRPost (w : World) (ws : List (List UInt8)) (e : Ending) (w' : World) : Prop :=
  ∃ r : Rw, e = .returned (.tuple #[.agg #[.int .i64 r.s, .int .i64 r.g, .int .i64 r.m, .int .i64 (r.f 0), .int .i64 (r.f 1), .int .i64 (r.f 2), .int .i64 (r.f 3), .int .i64 (r.f 4), .int .i64 (r.f 5), .int .i64 (r.f 6), .int .i64 (r.f 7)], .bool (rdRow ws).isSome]) ∧ (∀ x, rdRow ws = some x → x = r) ∧ Below w.heap.size w w'
theorem RRPost.no {w w' : World} {ws : List (List UInt8)} (h : rdRow ws = none) (hb : Below w.heap.size w w') : RRPost w ws (.returned (.tuple #[.agg #[.int .i64 0, .int .i64 0, .int .i64 0, .int .i64 0, .int .i64 0, .int .i64 0, .int .i64 0, .int .i64 0, .int .i64 0, .int .i64 0, .int .i64 0], .bool false])) w' :=
  ⟨rowZ, by rw [h]; rfl, fun x hx => (by rw [h] at hx; cases hx), hb⟩
theorem RRPost.yes {w w' : World} {ws : List (List UInt8)} {r : Rw} (h : rdRow ws = some r) (hb : Below w.heap.size w w') : RRPost w ws (.returned (.tuple #[.agg #[.int .i64 r.s, .int .i64 r.g, .int .i64 r.m, .int .i64 (r.f 0), .int .i64 (r.f 1), .int .i64 (r.f 2), .int .i64 (r.f 3), .int .i64 (r.f 4), .int .i64 (r.f 5), .int .i64 (r.f 6), .int .i64 (r.f 7)], .bool true])) w' :=
  ⟨r, by rw [h]; rfl, fun x hx => (by rw [h] at hx; cases hx; rfl), hb⟩
theorem Reads.takeW {w : World} {a : Option Addr} {n cap t : Nat} {xs : List (List UInt8)} (h : Reads elStr w (.slice a n cap) xs) (ht : t ≤ xs.length) : Reads elStr w (.slice a t cap) (xs.take t) := by
  obtain ⟨a', cap', e, hl, hm, hc⟩ := h
  simp only [Value.slice.injEq] at e
  obtain ⟨rfl, rfl, rfl⟩ := e
  have hlen : (xs.take t).length = t := by rw [List.length_take]; omega
  refine ⟨a, cap, by rw [hlen], by rw [hlen]; omega, hm, fun k hk => ?_⟩
  rw [hlen] at hk
  obtain ⟨b, off, e, hb, hcc⟩ := hc k (by omega)
  refine ⟨b, off, e, hb, fun j hj => ?_⟩
  rw [hcc j hj, List.getD_eq_getElem?_getD, List.getD_eq_getElem?_getD, List.getElem?_take_of_lt hk]
theorem Reads.dropW {w : World} {b off n cap t : Nat} {xs : List (List UInt8)} (h : Reads elStr w (.slice (some ⟨b, off, none⟩) n cap) xs) (ht : t ≤ xs.length) : Reads elStr w (.slice (some ⟨b, off + t, none⟩) (n - t) (cap - t)) (xs.drop t) := by
  obtain ⟨a', cap', e, hl, hm, hc⟩ := h
  simp only [Value.slice.injEq] at e
  obtain ⟨rfl, rfl, rfl⟩ := e
  have hlen : (xs.drop t).length = xs.length - t := by rw [List.length_drop]
  refine ⟨_, cap - t, by rw [hlen], by rw [hlen]; omega, by omega, fun k hk => ?_⟩
  rw [hlen] at hk
  obtain ⟨b', off', e, hb, hcc⟩ := hc (t + k) (by omega)
  simp only [Option.some.injEq, Addr.mk.injEq, and_true] at e
  obtain ⟨rfl, rfl⟩ := e
  refine ⟨b, off + t, rfl, hb, fun j hj => ?_⟩
  have hj1 : j < 1 := hj
  have : off + t + k * elStr.size + j = off + (t + k) * elStr.size + j := by simp [elStr]; omega
  rw [this, hcc j hj, List.getD_eq_getElem?_getD, List.getD_eq_getElem?_getD, List.getElem?_drop]
theorem Reads.emptyW {w : World} {a : Option Addr} {cap : Nat} (hc : cap ≤ maxLen) : Reads elStr w (.slice a 0 cap) [] := ⟨a, cap, rfl, Nat.zero_le _, hc, fun k hk => by simp at hk⟩
set_option maxHeartbeats 4000000 in
theorem readRow_any (v : Value) (ws : List (List UInt8)) (w : World) (h : Reads elStr w v ws) (hl : ws.length ≤ 100000) (hb : ∀ x ∈ ws, x.length ≤ 1000000) (hv : VarsIs w) :
    Calls Tryz.prog 108 #[v] w (RRPost w ws) := by
  have hX : Below w.heap.size w (w.alloc (.cells #[.int .i64 rowZ.s, .int .i64 rowZ.g, .int .i64 rowZ.m, .int .i64 (rowZ.f 0), .int .i64 (rowZ.f 1), .int .i64 (rowZ.f 2), .int .i64 (rowZ.f 3), .int .i64 (rowZ.f 4), .int .i64 (rowZ.f 5), .int .i64 (rowZ.f 6), .int .i64 (rowZ.f 7)] 54)) := nb_alloc (Below.refl _ _) _
  have hxb : (w.alloc (.cells #[.int .i64 rowZ.s, .int .i64 rowZ.g, .int .i64 rowZ.m, .int .i64 (rowZ.f 0), .int .i64 (rowZ.f 1), .int .i64 (rowZ.f 2), .int .i64 (rowZ.f 3), .int .i64 (rowZ.f 4), .int .i64 (rowZ.f 5), .int .i64 (rowZ.f 6), .int .i64 (rowZ.f 7)] 54)).heap[w.heap.size]? = some (.cells #[.int .i64 rowZ.s, .int .i64 rowZ.g, .int .i64 rowZ.m, .int .i64 (rowZ.f 0), .int .i64 (rowZ.f 1), .int .i64 (rowZ.f 2), .int .i64 (rowZ.f 3), .int .i64 (rowZ.f 4), .int .i64 (rowZ.f 5), .int .i64 (rowZ.f 6), .int .i64 (rowZ.f 7)] 54) := heap_alloc_new _ _
  have HX := Lib.hid hX
  have HXB := Lib.hid hxb
  have HV := Lib.hid hv
  have HH := Lib.hid h
  have HBL := Lib.hid hb
  obtain ⟨a, c, rfl, hlc, hm, hcc⟩ := h
  unfold maxLen at hm
  have HC := Lib.hid hcc
  clear hX hxb hb hv hcc
  by_cases h2 : ws.length < 2
  · have HE : Hid (rdRow ws = none) := Lib.hid (by rw [rdRow, if_pos h2])
    generalize ws.length = n at *
    have hn2 : (n : Int) < 2 := by omega
    go_enter Tryz.func108, Tryz.ntmps108
    go_wp2
    refine bodyPost_ret (v := .tuple #[.agg #[.int .i64 0, .int .i64 0, .int .i64 0, .int .i64 0, .int .i64 0, .int .i64 0, .int .i64 0, .int .i64 0, .int .i64 0, .int .i64 0, .int .i64 0], .bool false]) (by simp [results, Tryz.results108, go_sem]) rfl (RRPost.no HE.out ?_)
    exact HX.out
  · obtain ⟨b, off, rfl, hbl, -⟩ := HC.out 0 (by omega)
    have HN1 := Lib.hid (readNumbers_any (.slice (some ⟨b, off, none⟩) 2 c) (ws.take 2) _ ((HH.out.takeW (t := 2) (by omega)).later HX.out) (by rw [List.length_take]; omega) (fun x hx => HBL.out x (List.mem_of_mem_take hx)) (HV.out.later HX.out))
    have ht2 : ws.take 2 = [ws.getD 0 [], ws.getD 1 []] := by
      match ws, h2 with
      | [], h2 => exact absurd (by simp) h2
      | [_], h2 => exact absurd (by simp) h2
      | x :: y :: r, _ => rfl
    have HRD : Hid (rdRow ws = (numA (ws.getD 0 [])).bind fun s => (numA (ws.getD 1 [])).bind fun g => (rdB (ws.drop 2)).map fun b => ⟨s, g, b.1, b.2⟩) := Lib.hid (by rw [rdRow, if_neg h2])
    have HRB : Hid (∀ (v : Value) (W : World), Below w.heap.size w W → Reads elStr W v (ws.drop 2) → Calls Tryz.prog 147 #[v] W (RZPost W (ws.drop 2))) := Lib.hid (fun v W hW hR => readBeast_any v (ws.drop 2) W hR (by rw [List.length_drop]; omega) (fun x hx => HBL.out x (List.mem_of_mem_drop hx)) (HV.out.later hW))
    have HDR := Lib.hid (fun ht => HH.out.dropW (t := 2) ht)
    have HD0 : Hid (ws.length = 2 → ws.drop 2 = []) := Lib.hid (fun e => List.drop_eq_nil_of_le (by omega))
    generalize hn : ws.length = n at *
    have hn2 : 2 ≤ n := by omega
    have hn2' : ¬ (n : Int) < 2 := by omega
    have hc2 : 2 ≤ c := by omega
    obtain ⟨D, hD⟩ : ∃ D, ws.drop 2 = D := ⟨_, rfl⟩
    rw [hD] at HRD HRB HDR HD0
    obtain ⟨x0, hx0⟩ : ∃ x, ws.getD 0 [] = x := ⟨_, rfl⟩
    obtain ⟨x1, hx1⟩ : ∃ x, ws.getD 1 [] = x := ⟨_, rfl⟩
    rw [hx0, hx1] at HRD ht2
    rw [ht2] at HN1
    clear h2 hD hx0 hx1 ht2
    go_enter Tryz.func108, Tryz.ntmps108
    go_wp2_with (go_at_call 107; refine HN1.out.mono ?_; rintro e W1 ⟨u, rfl, ho, hb1⟩; refine Hid.out ?_)
    refine Lib.hid ?_
    have hq1 : W1.heap[w.heap.size]? = some (.cells #[.int .i64 rowZ.s, .int .i64 rowZ.g, .int .i64 rowZ.m, .int .i64 (rowZ.f 0), .int .i64 (rowZ.f 1), .int .i64 (rowZ.f 2), .int .i64 (rowZ.f 3), .int .i64 (rowZ.f 4), .int .i64 (rowZ.f 5), .int .i64 (rowZ.f 6), .int .i64 (rowZ.f 7)] 54) := (hb1.block _ (Array.getElem?_eq_some_iff.1 HXB.out).1).trans HXB.out
    have HQ1 := Lib.hid hq1
    have HB1 := Lib.hid (nb_trans HX.out hb1)
    have hql := (Array.getElem?_eq_some_iff.1 hq1).1
    have fz1 : ∀ j, W1.frozen? ⟨w.heap.size, j, none⟩ = false := fun j => frozen_of_row _ _ _ _ _ hq1
    clear hb1 HN1
    cases hns : numsA [x0, x1] with
    | none =>
      have HE : Hid (rdRow ws = none) := Lib.hid (by
        rw [HRD.out]; rw [nums_two] at hns
        cases h1 : numA x0 <;> cases h2 : numA x1 <;> rw [h1, h2] at hns <;> simp at hns ⊢)
      obtain ⟨k0, k1, k2, k3, k4, k5, k6, k7, k8, k9, k10⟩ := rCells (r := rowZ) hq1
      clear hns ho hq1
      simp only [Option.isSome_none]
      dsimp only [rowZ] at *
      go_wp2
      refine bodyPost_ret (v := .tuple #[.agg #[.int .i64 0, .int .i64 0, .int .i64 0, .int .i64 0, .int .i64 0, .int .i64 0, .int .i64 0, .int .i64 0, .int .i64 0, .int .i64 0, .int .i64 0], .bool false]) (by simp [results, Tryz.results108, go_sem, k0, k1, k2, k3, k4, k5, k6, k7, k8, k9, k10]) rfl (RRPost.no HE.out ?_)
      iterate 11 (refine nb_setW ?_ _ _ _ (Nat.le_refl _))
      exact HB1.out
    | some l =>
      rw [hns, Option.getD_some] at ho
      simp only [Option.isSome_some]
      have h2l := numsA_len hns
      match l, h2l with
      | [z, x], _ =>
        obtain ⟨ha, hd⟩ : numA x0 = some z ∧ numA x1 = some x := by
          rw [nums_two] at hns
          cases h1 : numA x0 <;> cases h2 : numA x1 <;> rw [h1, h2] at hns <;> simp at hns
          exact ⟨by rw [hns.1], by rw [hns.2]⟩
        rcases ho.owns.form with ⟨-, e⟩ | ⟨g2, cap, cur, rfl, hh, hg2, hgn, hcap, hsz⟩
        · cases e
        · have ho' : OwnsF elInt W1 (w.alloc (.cells #[.int .i64 rowZ.s, .int .i64 rowZ.g, .int .i64 rowZ.m, .int .i64 (rowZ.f 0), .int .i64 (rowZ.f 1), .int .i64 (rowZ.f 2), .int .i64 (rowZ.f 3), .int .i64 (rowZ.f 4), .int .i64 (rowZ.f 5), .int .i64 (rowZ.f 6), .int .i64 (rowZ.f 7)] 54)).heap.size 3 (.slice (some ⟨g2, 0, none⟩) 2 cap) [z, x] := ho
          obtain ⟨d0, -, hgl⟩ := ho'.open1 rfl (k := 0) (by simp)
          obtain ⟨d1, -, -⟩ := ho'.open1 rfl (k := 1) (by simp)
          replace d0 : W1.cell? ⟨g2, 0, none⟩ = some (.int .i64 z) := d0
          replace d1 : W1.cell? ⟨g2, 1, none⟩ = some (.int .i64 x) := d1
          have HD0' := Lib.hid d0
          have HD1' := Lib.hid d1
          simp only [List.length_cons, List.length_nil, Nat.reduceAdd]
          have HRD' : Hid (rdRow ws = (rdB D).map fun b => ⟨z, x, b.1, b.2⟩) := Lib.hid (by rw [HRD.out, ha, hd]; rfl)
          have hwW : Below w.heap.size w W1 := HB1.out
          clear ho ho' hns hh hsz ha hd hgn hcap d0 d1 hq1
          obtain ⟨v2, hv2, hr2⟩ : ∃ v2, (v2 = if c = 2 then .slice (some ⟨b, off, none⟩) 0 0 else .slice (some ⟨b, off + 2, none⟩) (n - 2) (c - 2)) ∧ Reads elStr W1 v2 D := by
            by_cases hcc : c = 2
            · refine ⟨_, rfl, ?_⟩
              rw [if_pos hcc, HD0.out (by omega)]
              exact Reads.emptyW (by unfold maxLen; omega)
            · refine ⟨_, rfl, ?_⟩
              rw [if_neg hcc]
              exact (HDR.out hn2).later hwW
          have HRB' := Lib.hid (HRB.out v2 W1 hwW hr2)
          clear hr2 hwW
          by_cases hcc : c = 2
          all_goals
            first | (rw [if_pos hcc] at hv2; obtain rfl : n = 2 := by omega) | rw [if_neg hcc] at hv2
            subst hv2
            first | subst hcc | skip
            go_wp2_with (go_at_call 147; refine HRB'.out.mono ?_; rintro e W2 ⟨m, f, rfl, hrb, hb2⟩; refine Hid.out ?_)
            refine Lib.hid ?_
            have hb6 : Below W1.heap.size W1 (W2.alloc (.cells #[.int .i64 m, .int .i64 (f 0), .int .i64 (f 1), .int .i64 (f 2), .int .i64 (f 3), .int .i64 (f 4), .int .i64 (f 5), .int .i64 (f 6), .int .i64 (f 7)] 52)) := nb_alloc hb2 _
            have hq2 : (W2.alloc (.cells #[.int .i64 m, .int .i64 (f 0), .int .i64 (f 1), .int .i64 (f 2), .int .i64 (f 3), .int .i64 (f 4), .int .i64 (f 5), .int .i64 (f 6), .int .i64 (f 7)] 52)).heap[w.heap.size]? = some (.cells #[.int .i64 rowZ.s, .int .i64 rowZ.g, .int .i64 rowZ.m, .int .i64 (rowZ.f 0), .int .i64 (rowZ.f 1), .int .i64 (rowZ.f 2), .int .i64 (rowZ.f 3), .int .i64 (rowZ.f 4), .int .i64 (rowZ.f 5), .int .i64 (rowZ.f 6), .int .i64 (rowZ.f 7)] 54) := (hb6.block _ hql).trans HQ1.out
            have hq6 : (W2.alloc (.cells #[.int .i64 m, .int .i64 (f 0), .int .i64 (f 1), .int .i64 (f 2), .int .i64 (f 3), .int .i64 (f 4), .int .i64 (f 5), .int .i64 (f 6), .int .i64 (f 7)] 52)).heap[W2.heap.size]? = some (.cells #[.int .i64 m, .int .i64 (f 0), .int .i64 (f 1), .int .i64 (f 2), .int .i64 (f 3), .int .i64 (f 4), .int .i64 (f 5), .int .i64 (f 6), .int .i64 (f 7)] 52) := heap_alloc_new _ _
            have HB2 := Lib.hid (nb_trans HB1.out hb6)
            have HQ2 := Lib.hid hq2
            have HQ6 := Lib.hid hq6
            have hsz2 : w.heap.size < W2.heap.size := Nat.lt_of_lt_of_le hql hb2.size
            have hqw : W2.heap[w.heap.size]? = some (.cells #[.int .i64 rowZ.s, .int .i64 rowZ.g, .int .i64 rowZ.m, .int .i64 (rowZ.f 0), .int .i64 (rowZ.f 1), .int .i64 (rowZ.f 2), .int .i64 (rowZ.f 3), .int .i64 (rowZ.f 4), .int .i64 (rowZ.f 5), .int .i64 (rowZ.f 6), .int .i64 (rowZ.f 7)] 54) := (hb2.block _ hql).trans HQ1.out
            have HQW := Lib.hid hqw
            have HBW := Lib.hid (nb_trans HB1.out hb2)
            have HG : Hid ((W2.alloc (.cells #[.int .i64 m, .int .i64 (f 0), .int .i64 (f 1), .int .i64 (f 2), .int .i64 (f 3), .int .i64 (f 4), .int .i64 (f 5), .int .i64 (f 6), .int .i64 (f 7)] 52)).cell? ⟨g2, 0, none⟩ = some (.int .i64 z) ∧ (W2.alloc (.cells #[.int .i64 m, .int .i64 (f 0), .int .i64 (f 1), .int .i64 (f 2), .int .i64 (f 3), .int .i64 (f 4), .int .i64 (f 5), .int .i64 (f 6), .int .i64 (f 7)] 52)).cell? ⟨g2, 1, none⟩ = some (.int .i64 x)) := Lib.hid ⟨(hb6.cell (p := ⟨g2, 0, none⟩) hg2).trans HD0'.out, (hb6.cell (p := ⟨g2, 1, none⟩) hg2).trans HD1'.out⟩
            have hgw : g2 < W2.heap.size := Nat.lt_of_lt_of_le hg2 hb2.size
            have d0 : W2.cell? ⟨g2, 0, none⟩ = some (.int .i64 z) := (hb2.cell (p := ⟨g2, 0, none⟩) hg2).trans HD0'.out
            have d1 : W2.cell? ⟨g2, 1, none⟩ = some (.int .i64 x) := (hb2.cell (p := ⟨g2, 1, none⟩) hg2).trans HD1'.out
            clear hb2 hb6 hq2 hq6 fz1
            cases hrd : rdB D with
            | none =>
              have HE : Hid (rdRow ws = none) := Lib.hid (by rw [HRD'.out, hrd]; rfl)
              obtain ⟨k0, k1, k2, k3, k4, k5, k6, k7, k8, k9, k10⟩ := rCells (r := rowZ) hqw
              have fz2 : ∀ j, W2.frozen? ⟨w.heap.size, j, none⟩ = false := fun j => frozen_of_row _ _ _ _ _ hqw
              dsimp only [rowZ] at k0 k1 k2 k3 k4 k5 k6 k7 k8 k9 k10
              clear hrd hrb hqw
              simp only [Option.isSome_none]
              go_wp2
              refine bodyPost_ret (v := .tuple #[.agg #[.int .i64 0, .int .i64 0, .int .i64 0, .int .i64 0, .int .i64 0, .int .i64 0, .int .i64 0, .int .i64 0, .int .i64 0, .int .i64 0, .int .i64 0], .bool false]) (by simp [results, Tryz.results108, go_sem, hsz2, k0, k1, k2, k3, k4, k5, k6, k7, k8, k9, k10]) rfl (RRPost.no HE.out ?_)
              refine nb_alloc ?_ _
              iterate 11 (refine nb_setW ?_ _ _ _ (Nat.le_refl _))
              exact HBW.out
            | some mf =>
              have HE : Hid (rdRow ws = some ⟨z, x, m, f⟩) := Lib.hid (by rw [HRD'.out, hrd, hrb _ hrd]; rfl)
              clear hrd hrb hqw d0 d1
              simp only [Option.isSome_some]
              go_wp2_with fail
              generalize W2.alloc (.cells #[.int .i64 m, .int .i64 (f 0), .int .i64 (f 1), .int .i64 (f 2), .int .i64 (f 3), .int .i64 (f 4), .int .i64 (f 5), .int .i64 (f 6), .int .i64 (f 7)] 52) = Y at *
              obtain ⟨d0, d1⟩ := HG.out
              have hly := (Array.getElem?_eq_some_iff.1 HQ2.out).1
              have hly6 := (Array.getElem?_eq_some_iff.1 HQ6.out).1
              have hlg : g2 < Y.heap.size := World.block_lt_of_cell? _ _ d0
              obtain ⟨c0, c1, c2, c3, c4, c5, c6, c7, c8⟩ := bCells (m := m) (f := f) HQ6.out
              obtain ⟨k0, k1, k2, k3, k4, k5, k6, k7, k8, k9, k10⟩ := rCells (r := rowZ) HQ2.out
              have fz2 : ∀ j, Y.frozen? ⟨w.heap.size, j, none⟩ = false := fun j => frozen_of_row _ _ _ _ _ HQ2.out
              dsimp only [rowZ] at k0 k1 k2 k3 k4 k5 k6 k7 k8 k9 k10
              go_still_tail 9, (by kernel_rfl)
              change wpList _ _ _ _ _ Y.drew
              clear c0 c1 c2 c3 c4 c5 c6 c7 c8 d0 d1
              go_wp2
              refine bodyPost_ret (v := .tuple #[.agg #[.int .i64 z, .int .i64 x, .int .i64 m, .int .i64 (f 0), .int .i64 (f 1), .int .i64 (f 2), .int .i64 (f 3), .int .i64 (f 4), .int .i64 (f 5), .int .i64 (f 6), .int .i64 (f 7)], .bool true]) (by simp [results, Tryz.results108, go_sem, k0, k1, k2, k3, k4, k5, k6, k7, k8, k9, k10]) rfl (RRPost.yes HE.out ?_)
              refine Below.drew ?_
              iterate 11 (refine nb_setW ?_ _ _ _ (Nat.le_refl _))
              exact HB2.out
end Go.Proofs.YtndhomjfjhohoaaGreatDoor

/- An operation on a world and on the reference's zoo: the contract of did of package vivariumlaw. -/
import Derived.Test.YtlclceiebnnpgaaGreatRefZooSpawn
import Derived.Test.YtlclceiebnnpgaaGreatRefZooPut
import Derived.Test.YtlclceiebnnpgaaGreatRefZooKill
import Derived.Test.YtlclceiebnnpgaaGreatWorldPut
import Derived.Test.YtlclceiebnnpgaaGreatWorldSpawn
import Derived.Test.YtlclceiebnnpgaaGreatKeepModel
namespace Go.Proofs.YtlclceiebnnpgaaGreat
set_option maxRecDepth 8000
open Go.RowKit

def DidPost (w : World) (p q : Nat) (F G : Nat → Prop) (l : List (Int × Bool)) (rows : List Rw) (vB : Value) (o : Opm) (e : Ending) (w' : World) : Prop :=
  e = .returned (.bool true) ∧ ∃ F' G', WldAt w' p F' (stepL l o) (· ∈ stepR l rows o) ∧ ZooAt w' q G' (stepL l o) (stepR l rows o) vB ∧ (∀ b, F' b → ¬ G' b) ∧ Kept (fun b => F b ∨ G b) w w' ∧ Moves w F F' ∧ Moves w G G'
theorem DidPost.mk2 {w X x1 x2 : World} {p q : Nat} {F G F1 G2 : Nat → Prop} {l l' : List (Int × Bool)} {rows rows' : List Rw} {vB : Value} {o : Opm} (hX : Below w.heap.size w X) (e1 : stepL l o = l') (e2 : stepR l rows o = rows')
    (h1 : WldAt x1 p F1 l' (· ∈ rows')) (hk1 : Kept F X x1) (hm1 : Moves X F F1) (h2 : ZooAt x2 q G2 l' rows' vB) (hk2 : Kept G x1 x2) (hm2 : Moves x1 G G2) (hG : ∀ b, G b → b < w.heap.size) (hap : ∀ b, F b → ¬ G b) : DidPost w p q F G l rows vB o (.returned (.bool true)) x2 := by
  have s1 := hX.size
  have s2 := hk1.size
  have hap1 : ∀ b, F1 b → ¬ G b := fun b hb hg => (hm1 b hb).elim (fun h => hap b h hg) (fun h => by have := hG b hg; omega)
  refine ⟨rfl, F1, G2, by rw [e1, e2]; exact h1.kept hk2 hap1, by rw [e1, e2]; exact h2, fun b hb hg => ?_, ?_, fun b hb => (hm1 b hb).imp id (fun h => by omega), fun b hb => (hm2 b hb).imp id (fun h => by omega)⟩
  · rcases hm2 b hg with h | h
    · exact hap1 b hb h
    · have := h1.lt b hb; omega
  · exact ((Kept.ofBelow hX).trans hk1 (fun b hb => .inl (.inl hb))).trans hk2 (fun b hb => .inl (.inr hb))

set_option maxHeartbeats 8000000 in
theorem did_any (p q : Nat) (F G : Nat → Prop) (l : List (Int × Bool)) (rows : List Rw) (vB : Value) (o : Opm) (w : World) (hW : WldAt w p F l (· ∈ rows)) (hZ : ZooAt w q G l rows vB) (hap : ∀ b, F b → ¬ G b) (ok : WOk l rows) (hop : OpOk o) :
    Calls Tryz.prog 6 #[.pointer (some ⟨p, 0, none⟩), .pointer (some ⟨q, 0, none⟩), (.agg #[.int .i64 o.d, .int .i64 o.m, .int .i64 (o.f 0), .int .i64 (o.f 1), .int .i64 (o.f 2), .int .i64 (o.f 3), .int .i64 (o.f 4), .int .i64 (o.f 5), .int .i64 (o.f 6), .int .i64 (o.f 7), .int .i64 o.a, .int .i64 o.b, .int .i64 o.ta, .int .i64 o.tb, .int .i64 o.k, .int .i64 o.n])] w (DidPost w p q F G l rows vB o) := by
  have hX : Below w.heap.size w (w.alloc (.cells #[.int .i64 o.d, .int .i64 o.m, .int .i64 (o.f 0), .int .i64 (o.f 1), .int .i64 (o.f 2), .int .i64 (o.f 3), .int .i64 (o.f 4), .int .i64 (o.f 5), .int .i64 (o.f 6), .int .i64 (o.f 7), .int .i64 o.a, .int .i64 o.b, .int .i64 o.ta, .int .i64 o.tb, .int .i64 o.k, .int .i64 o.n] 30)) := nb_alloc (Below.refl _ _) _
  have hxb : (w.alloc (.cells #[.int .i64 o.d, .int .i64 o.m, .int .i64 (o.f 0), .int .i64 (o.f 1), .int .i64 (o.f 2), .int .i64 (o.f 3), .int .i64 (o.f 4), .int .i64 (o.f 5), .int .i64 (o.f 6), .int .i64 (o.f 7), .int .i64 o.a, .int .i64 o.b, .int .i64 o.ta, .int .i64 o.tb, .int .i64 o.k, .int .i64 o.n] 30)).heap[w.heap.size]? = some (.cells #[.int .i64 o.d, .int .i64 o.m, .int .i64 (o.f 0), .int .i64 (o.f 1), .int .i64 (o.f 2), .int .i64 (o.f 3), .int .i64 (o.f 4), .int .i64 (o.f 5), .int .i64 (o.f 6), .int .i64 (o.f 7), .int .i64 o.a, .int .i64 o.b, .int .i64 o.ta, .int .i64 o.tb, .int .i64 o.k, .int .i64 o.n] 30) := heap_alloc_new _ _
  have HX := Lib.hid hX
  have HXB := Lib.hid hxb
  have HWX := Lib.hid (hW.later hX)
  have HZX := Lib.hid (hZ.later hX)
  have HLG := Lib.hid hZ.lt
  have HAP := Lib.hid hap
  have HOK := Lib.hid ok
  have HOP : Hid (I64r o.a ∧ I64r o.b ∧ I64r o.ta ∧ I64r o.tb) := Lib.hid hop
  have HNB : Hid (¬ F w.heap.size ∧ ¬ G w.heap.size) := Lib.hid ⟨fun f => by have := hW.lt _ f; omega, fun f => by have := hZ.lt _ f; omega⟩
  have H0 : Hid (WldAt w p F l (· ∈ rows) ∧ ZooAt w q G l rows vB) := Lib.hid ⟨hW, hZ⟩
  have c0 : (w.alloc (.cells #[.int .i64 o.d, .int .i64 o.m, .int .i64 (o.f 0), .int .i64 (o.f 1), .int .i64 (o.f 2), .int .i64 (o.f 3), .int .i64 (o.f 4), .int .i64 (o.f 5), .int .i64 (o.f 6), .int .i64 (o.f 7), .int .i64 o.a, .int .i64 o.b, .int .i64 o.ta, .int .i64 o.tb, .int .i64 o.k, .int .i64 o.n] 30)).cell? ⟨w.heap.size, 0, none⟩ = some (.int .i64 o.d) := by rw [cell_of_row _ _ _ _ _ _ hxb]; rfl
  have c1 : (w.alloc (.cells #[.int .i64 o.d, .int .i64 o.m, .int .i64 (o.f 0), .int .i64 (o.f 1), .int .i64 (o.f 2), .int .i64 (o.f 3), .int .i64 (o.f 4), .int .i64 (o.f 5), .int .i64 (o.f 6), .int .i64 (o.f 7), .int .i64 o.a, .int .i64 o.b, .int .i64 o.ta, .int .i64 o.tb, .int .i64 o.k, .int .i64 o.n] 30)).cell? ⟨w.heap.size, 1, none⟩ = some (.int .i64 o.m) := by rw [cell_of_row _ _ _ _ _ _ hxb]; rfl
  have c2 : (w.alloc (.cells #[.int .i64 o.d, .int .i64 o.m, .int .i64 (o.f 0), .int .i64 (o.f 1), .int .i64 (o.f 2), .int .i64 (o.f 3), .int .i64 (o.f 4), .int .i64 (o.f 5), .int .i64 (o.f 6), .int .i64 (o.f 7), .int .i64 o.a, .int .i64 o.b, .int .i64 o.ta, .int .i64 o.tb, .int .i64 o.k, .int .i64 o.n] 30)).cell? ⟨w.heap.size, 2, none⟩ = some (.int .i64 (o.f 0)) := by rw [cell_of_row _ _ _ _ _ _ hxb]; rfl
  have c3 : (w.alloc (.cells #[.int .i64 o.d, .int .i64 o.m, .int .i64 (o.f 0), .int .i64 (o.f 1), .int .i64 (o.f 2), .int .i64 (o.f 3), .int .i64 (o.f 4), .int .i64 (o.f 5), .int .i64 (o.f 6), .int .i64 (o.f 7), .int .i64 o.a, .int .i64 o.b, .int .i64 o.ta, .int .i64 o.tb, .int .i64 o.k, .int .i64 o.n] 30)).cell? ⟨w.heap.size, 3, none⟩ = some (.int .i64 (o.f 1)) := by rw [cell_of_row _ _ _ _ _ _ hxb]; rfl
  have c4 : (w.alloc (.cells #[.int .i64 o.d, .int .i64 o.m, .int .i64 (o.f 0), .int .i64 (o.f 1), .int .i64 (o.f 2), .int .i64 (o.f 3), .int .i64 (o.f 4), .int .i64 (o.f 5), .int .i64 (o.f 6), .int .i64 (o.f 7), .int .i64 o.a, .int .i64 o.b, .int .i64 o.ta, .int .i64 o.tb, .int .i64 o.k, .int .i64 o.n] 30)).cell? ⟨w.heap.size, 4, none⟩ = some (.int .i64 (o.f 2)) := by rw [cell_of_row _ _ _ _ _ _ hxb]; rfl
  have c5 : (w.alloc (.cells #[.int .i64 o.d, .int .i64 o.m, .int .i64 (o.f 0), .int .i64 (o.f 1), .int .i64 (o.f 2), .int .i64 (o.f 3), .int .i64 (o.f 4), .int .i64 (o.f 5), .int .i64 (o.f 6), .int .i64 (o.f 7), .int .i64 o.a, .int .i64 o.b, .int .i64 o.ta, .int .i64 o.tb, .int .i64 o.k, .int .i64 o.n] 30)).cell? ⟨w.heap.size, 5, none⟩ = some (.int .i64 (o.f 3)) := by rw [cell_of_row _ _ _ _ _ _ hxb]; rfl
  have c6 : (w.alloc (.cells #[.int .i64 o.d, .int .i64 o.m, .int .i64 (o.f 0), .int .i64 (o.f 1), .int .i64 (o.f 2), .int .i64 (o.f 3), .int .i64 (o.f 4), .int .i64 (o.f 5), .int .i64 (o.f 6), .int .i64 (o.f 7), .int .i64 o.a, .int .i64 o.b, .int .i64 o.ta, .int .i64 o.tb, .int .i64 o.k, .int .i64 o.n] 30)).cell? ⟨w.heap.size, 6, none⟩ = some (.int .i64 (o.f 4)) := by rw [cell_of_row _ _ _ _ _ _ hxb]; rfl
  have c7 : (w.alloc (.cells #[.int .i64 o.d, .int .i64 o.m, .int .i64 (o.f 0), .int .i64 (o.f 1), .int .i64 (o.f 2), .int .i64 (o.f 3), .int .i64 (o.f 4), .int .i64 (o.f 5), .int .i64 (o.f 6), .int .i64 (o.f 7), .int .i64 o.a, .int .i64 o.b, .int .i64 o.ta, .int .i64 o.tb, .int .i64 o.k, .int .i64 o.n] 30)).cell? ⟨w.heap.size, 7, none⟩ = some (.int .i64 (o.f 5)) := by rw [cell_of_row _ _ _ _ _ _ hxb]; rfl
  have c8 : (w.alloc (.cells #[.int .i64 o.d, .int .i64 o.m, .int .i64 (o.f 0), .int .i64 (o.f 1), .int .i64 (o.f 2), .int .i64 (o.f 3), .int .i64 (o.f 4), .int .i64 (o.f 5), .int .i64 (o.f 6), .int .i64 (o.f 7), .int .i64 o.a, .int .i64 o.b, .int .i64 o.ta, .int .i64 o.tb, .int .i64 o.k, .int .i64 o.n] 30)).cell? ⟨w.heap.size, 8, none⟩ = some (.int .i64 (o.f 6)) := by rw [cell_of_row _ _ _ _ _ _ hxb]; rfl
  have c9 : (w.alloc (.cells #[.int .i64 o.d, .int .i64 o.m, .int .i64 (o.f 0), .int .i64 (o.f 1), .int .i64 (o.f 2), .int .i64 (o.f 3), .int .i64 (o.f 4), .int .i64 (o.f 5), .int .i64 (o.f 6), .int .i64 (o.f 7), .int .i64 o.a, .int .i64 o.b, .int .i64 o.ta, .int .i64 o.tb, .int .i64 o.k, .int .i64 o.n] 30)).cell? ⟨w.heap.size, 9, none⟩ = some (.int .i64 (o.f 7)) := by rw [cell_of_row _ _ _ _ _ _ hxb]; rfl
  have c10 : (w.alloc (.cells #[.int .i64 o.d, .int .i64 o.m, .int .i64 (o.f 0), .int .i64 (o.f 1), .int .i64 (o.f 2), .int .i64 (o.f 3), .int .i64 (o.f 4), .int .i64 (o.f 5), .int .i64 (o.f 6), .int .i64 (o.f 7), .int .i64 o.a, .int .i64 o.b, .int .i64 o.ta, .int .i64 o.tb, .int .i64 o.k, .int .i64 o.n] 30)).cell? ⟨w.heap.size, 10, none⟩ = some (.int .i64 o.a) := by rw [cell_of_row _ _ _ _ _ _ hxb]; rfl
  have c11 : (w.alloc (.cells #[.int .i64 o.d, .int .i64 o.m, .int .i64 (o.f 0), .int .i64 (o.f 1), .int .i64 (o.f 2), .int .i64 (o.f 3), .int .i64 (o.f 4), .int .i64 (o.f 5), .int .i64 (o.f 6), .int .i64 (o.f 7), .int .i64 o.a, .int .i64 o.b, .int .i64 o.ta, .int .i64 o.tb, .int .i64 o.k, .int .i64 o.n] 30)).cell? ⟨w.heap.size, 11, none⟩ = some (.int .i64 o.b) := by rw [cell_of_row _ _ _ _ _ _ hxb]; rfl
  have c12 : (w.alloc (.cells #[.int .i64 o.d, .int .i64 o.m, .int .i64 (o.f 0), .int .i64 (o.f 1), .int .i64 (o.f 2), .int .i64 (o.f 3), .int .i64 (o.f 4), .int .i64 (o.f 5), .int .i64 (o.f 6), .int .i64 (o.f 7), .int .i64 o.a, .int .i64 o.b, .int .i64 o.ta, .int .i64 o.tb, .int .i64 o.k, .int .i64 o.n] 30)).cell? ⟨w.heap.size, 12, none⟩ = some (.int .i64 o.ta) := by rw [cell_of_row _ _ _ _ _ _ hxb]; rfl
  have c13 : (w.alloc (.cells #[.int .i64 o.d, .int .i64 o.m, .int .i64 (o.f 0), .int .i64 (o.f 1), .int .i64 (o.f 2), .int .i64 (o.f 3), .int .i64 (o.f 4), .int .i64 (o.f 5), .int .i64 (o.f 6), .int .i64 (o.f 7), .int .i64 o.a, .int .i64 o.b, .int .i64 o.ta, .int .i64 o.tb, .int .i64 o.k, .int .i64 o.n] 30)).cell? ⟨w.heap.size, 13, none⟩ = some (.int .i64 o.tb) := by rw [cell_of_row _ _ _ _ _ _ hxb]; rfl
  have c14 : (w.alloc (.cells #[.int .i64 o.d, .int .i64 o.m, .int .i64 (o.f 0), .int .i64 (o.f 1), .int .i64 (o.f 2), .int .i64 (o.f 3), .int .i64 (o.f 4), .int .i64 (o.f 5), .int .i64 (o.f 6), .int .i64 (o.f 7), .int .i64 o.a, .int .i64 o.b, .int .i64 o.ta, .int .i64 o.tb, .int .i64 o.k, .int .i64 o.n] 30)).cell? ⟨w.heap.size, 14, none⟩ = some (.int .i64 o.k) := by rw [cell_of_row _ _ _ _ _ _ hxb]; rfl
  have c15 : (w.alloc (.cells #[.int .i64 o.d, .int .i64 o.m, .int .i64 (o.f 0), .int .i64 (o.f 1), .int .i64 (o.f 2), .int .i64 (o.f 3), .int .i64 (o.f 4), .int .i64 (o.f 5), .int .i64 (o.f 6), .int .i64 (o.f 7), .int .i64 o.a, .int .i64 o.b, .int .i64 o.ta, .int .i64 o.tb, .int .i64 o.k, .int .i64 o.n] 30)).cell? ⟨w.heap.size, 15, none⟩ = some (.int .i64 o.n) := by rw [cell_of_row _ _ _ _ _ _ hxb]; rfl
  have hxl := (Array.getElem?_eq_some_iff.1 hxb).1
  clear hX hxb hW hZ hap ok hop
  go_enter Tryz.func6, Tryz.ntmps6
  by_cases h1 : o.d = 1
  · have hd1 : (o.d == 1) = true := by simpa using h1
    have HST : Hid (stepL l o = spawnL l o.m o.f ∧ stepR l rows o = spawnR l rows o.m o.f) := Lib.hid ⟨by rw [stepL, if_pos h1], by rw [stepR, if_pos h1]⟩
    clear h1
    go_wp2_with fail
    generalize w.alloc (.cells #[.int .i64 o.d, .int .i64 o.m, .int .i64 (o.f 0), .int .i64 (o.f 1), .int .i64 (o.f 2), .int .i64 (o.f 3), .int .i64 (o.f 4), .int .i64 (o.f 5), .int .i64 (o.f 6), .int .i64 (o.f 7), .int .i64 o.a, .int .i64 o.b, .int .i64 o.ta, .int .i64 o.tb, .int .i64 o.k, .int .i64 o.n] 30) = X at *
    refine (worldSpawn_any p F l rows o.m o.f _ HWX.out HOK.out).mono ?_
    rintro e x1 ⟨rfl, F1, hw1, hk1, hm1⟩
    obtain ⟨⟨s1, s2⟩, hh⟩ : ∃ x, spawnH l o.m o.f = x := ⟨_, rfl⟩
    obtain ⟨se, hse⟩ : ∃ x, spawnE l o.m o.f = x := ⟨_, rfl⟩
    rw [hh, hse]
    have HHH := Lib.hid hh
    have HSE := Lib.hid hse
    have HW1 := Lib.hid hw1
    have HK1 := Lib.hid hk1
    have HM1 := Lib.hid hm1
    have hx1 : x1.heap[w.heap.size]? = some (.cells #[.int .i64 o.d, .int .i64 o.m, .int .i64 (o.f 0), .int .i64 (o.f 1), .int .i64 (o.f 2), .int .i64 (o.f 3), .int .i64 (o.f 4), .int .i64 (o.f 5), .int .i64 (o.f 6), .int .i64 (o.f 7), .int .i64 o.a, .int .i64 o.b, .int .i64 o.ta, .int .i64 o.tb, .int .i64 o.k, .int .i64 o.n] 30) := by rw [hk1.block _ hxl HNB.out.1]; exact HXB.out
    have hx1l := (Array.getElem?_eq_some_iff.1 hx1).1
    have hA : Below x1.heap.size x1 (x1.alloc (.cells #[.int .i64 s1, .int .i64 s2] 28)) := nb_alloc (Below.refl _ _) _
    have HA := Lib.hid hA
    have hAx : (x1.alloc (.cells #[.int .i64 s1, .int .i64 s2] 28)).heap[w.heap.size]? = some (.cells #[.int .i64 o.d, .int .i64 o.m, .int .i64 (o.f 0), .int .i64 (o.f 1), .int .i64 (o.f 2), .int .i64 (o.f 3), .int .i64 (o.f 4), .int .i64 (o.f 5), .int .i64 (o.f 6), .int .i64 (o.f 7), .int .i64 o.a, .int .i64 o.b, .int .i64 o.ta, .int .i64 o.tb, .int .i64 o.k, .int .i64 o.n] 30) := by rw [hA.block _ hx1l]; exact hx1
    have HAH : Hid ((x1.alloc (.cells #[.int .i64 s1, .int .i64 s2] 28)).heap[x1.heap.size]? = some (.cells #[.int .i64 s1, .int .i64 s2] 28)) := Lib.hid (heap_alloc_new _ _)
    have HZ1 := Lib.hid (HZX.out.kept hk1 (fun b hg hf => HAP.out b hf hg))
    have HG1 := Lib.hid HZ1.out.lt
    have d1 : x1.cell? ⟨w.heap.size, 1, none⟩ = some (.int .i64 o.m) := by rw [cell_of_row _ _ _ _ _ _ hx1]; rfl
    have d2 : x1.cell? ⟨w.heap.size, 2, none⟩ = some (.int .i64 (o.f 0)) := by rw [cell_of_row _ _ _ _ _ _ hx1]; rfl
    have d3 : x1.cell? ⟨w.heap.size, 3, none⟩ = some (.int .i64 (o.f 1)) := by rw [cell_of_row _ _ _ _ _ _ hx1]; rfl
    have d4 : x1.cell? ⟨w.heap.size, 4, none⟩ = some (.int .i64 (o.f 2)) := by rw [cell_of_row _ _ _ _ _ _ hx1]; rfl
    have d5 : x1.cell? ⟨w.heap.size, 5, none⟩ = some (.int .i64 (o.f 3)) := by rw [cell_of_row _ _ _ _ _ _ hx1]; rfl
    have d6 : x1.cell? ⟨w.heap.size, 6, none⟩ = some (.int .i64 (o.f 4)) := by rw [cell_of_row _ _ _ _ _ _ hx1]; rfl
    have d7 : x1.cell? ⟨w.heap.size, 7, none⟩ = some (.int .i64 (o.f 5)) := by rw [cell_of_row _ _ _ _ _ _ hx1]; rfl
    have d8 : x1.cell? ⟨w.heap.size, 8, none⟩ = some (.int .i64 (o.f 6)) := by rw [cell_of_row _ _ _ _ _ _ hx1]; rfl
    have d9 : x1.cell? ⟨w.heap.size, 9, none⟩ = some (.int .i64 (o.f 7)) := by rw [cell_of_row _ _ _ _ _ _ hx1]; rfl
    have f1 : (x1.alloc (.cells #[.int .i64 s1, .int .i64 s2] 28)).cell? ⟨w.heap.size, 1, none⟩ = some (.int .i64 o.m) := by rw [cell_of_row _ _ _ _ _ _ hAx]; rfl
    have f2 : (x1.alloc (.cells #[.int .i64 s1, .int .i64 s2] 28)).cell? ⟨w.heap.size, 2, none⟩ = some (.int .i64 (o.f 0)) := by rw [cell_of_row _ _ _ _ _ _ hAx]; rfl
    have f3 : (x1.alloc (.cells #[.int .i64 s1, .int .i64 s2] 28)).cell? ⟨w.heap.size, 3, none⟩ = some (.int .i64 (o.f 1)) := by rw [cell_of_row _ _ _ _ _ _ hAx]; rfl
    have f4 : (x1.alloc (.cells #[.int .i64 s1, .int .i64 s2] 28)).cell? ⟨w.heap.size, 4, none⟩ = some (.int .i64 (o.f 2)) := by rw [cell_of_row _ _ _ _ _ _ hAx]; rfl
    have f5 : (x1.alloc (.cells #[.int .i64 s1, .int .i64 s2] 28)).cell? ⟨w.heap.size, 5, none⟩ = some (.int .i64 (o.f 3)) := by rw [cell_of_row _ _ _ _ _ _ hAx]; rfl
    have f6 : (x1.alloc (.cells #[.int .i64 s1, .int .i64 s2] 28)).cell? ⟨w.heap.size, 6, none⟩ = some (.int .i64 (o.f 4)) := by rw [cell_of_row _ _ _ _ _ _ hAx]; rfl
    have f7 : (x1.alloc (.cells #[.int .i64 s1, .int .i64 s2] 28)).cell? ⟨w.heap.size, 7, none⟩ = some (.int .i64 (o.f 5)) := by rw [cell_of_row _ _ _ _ _ _ hAx]; rfl
    have f8 : (x1.alloc (.cells #[.int .i64 s1, .int .i64 s2] 28)).cell? ⟨w.heap.size, 8, none⟩ = some (.int .i64 (o.f 6)) := by rw [cell_of_row _ _ _ _ _ _ hAx]; rfl
    have f9 : (x1.alloc (.cells #[.int .i64 s1, .int .i64 s2] 28)).cell? ⟨w.heap.size, 9, none⟩ = some (.int .i64 (o.f 7)) := by rw [cell_of_row _ _ _ _ _ _ hAx]; rfl
    clear hw1 hk1 hm1 hh hse hA hAx hx1 c0 c1 c2 c3 c4 c5 c6 c7 c8 c9 c10 c11 c12 c13 c14 c15
    go_wp2_with fail
    refine (refSpawn_any q G l rows vB o.m o.f _ (HZ1.out.later HA.out) HOK.out).mono ?_
    rintro e x2 ⟨rfl, G2, hz2, hk2, hm2⟩
    rw [HHH.out, HSE.out]
    have hh2 : x2.heap[x1.heap.size]? = some (.cells #[.int .i64 s1, .int .i64 s2] 28) := by rw [hk2.block _ (Array.getElem?_eq_some_iff.1 HAH.out).1 (fun f => by have := HG1.out _ f; omega)]; exact HAH.out
    have hh2l := (Array.getElem?_eq_some_iff.1 hh2).1
    have kh0 : x2.cell? ⟨x1.heap.size, 0, none⟩ = some (.int .i64 s1) := by rw [cell_of_row _ _ _ _ _ _ hh2]; rfl
    have kh1 : x2.cell? ⟨x1.heap.size, 1, none⟩ = some (.int .i64 s2) := by rw [cell_of_row _ _ _ _ _ _ hh2]; rfl
    have e1 : (s1 == s1) = true := by simp
    have e2 : (s2 == s2) = true := by simp
    have e3 : (se == se) = true := by simp
    have HEND : Hid (DidPost w p q F G l rows vB o (.returned (.bool true)) (x2.alloc (.cells #[.int .i64 s1, .int .i64 s2] 28))) := Lib.hid (by
      have hkA : Kept F X (x1.alloc (.cells #[.int .i64 s1, .int .i64 s2] 28)) := HK1.out.trans (Kept.ofBelow (F := F) HA.out) (fun _ h => .inl h)
      have hd := DidPost.mk2 HX.out HST.out.1 HST.out.2 (HW1.out.later HA.out) hkA HM1.out hz2 hk2 hm2 HLG.out HAP.out
      obtain ⟨_, F', G', g1, g2, g3, g4, g5, g6⟩ := hd
      have hb := nb_alloc (Below.refl x2.heap.size x2) (.cells #[.int .i64 s1, .int .i64 s2] 28)
      exact ⟨rfl, F', G', g1.later hb, g2.later hb, g3, g4.trans (Kept.ofBelow (F := fun b => F b ∨ G b) hb) (fun _ h => .inl h), g5, g6⟩)
    clear hz2 hk2 hm2 hh2 d1 d2 d3 d4 d5 d6 d7 d8 d9 f1 f2 f3 f4 f5 f6 f7 f8 f9
    go_wp2
    go_ret
    exact HEND.out
  have hd1 : (o.d == 1) = false := by simpa using h1
  have HD1 := Lib.hid h1
  clear h1
  by_cases h2 : o.d = 2
  · have hd2 : (o.d == 2) = true := by simpa using h2
    have HD2 := Lib.hid h2
    clear h2
    have HST : Hid (stepL l o = freeL l o.a o.b ∧ stepR l rows o = killR rows o.a o.b) := Lib.hid (⟨by rw [stepL, if_neg HD1.out, if_pos HD2.out], by rw [stepR, if_neg HD1.out, if_pos HD2.out]⟩)
    have hne : (killE rows o.a o.b == killE rows o.a o.b) = true := by simp
    go_wp2_with fail
    generalize w.alloc (.cells #[.int .i64 o.d, .int .i64 o.m, .int .i64 (o.f 0), .int .i64 (o.f 1), .int .i64 (o.f 2), .int .i64 (o.f 3), .int .i64 (o.f 4), .int .i64 (o.f 5), .int .i64 (o.f 6), .int .i64 (o.f 7), .int .i64 o.a, .int .i64 o.b, .int .i64 o.ta, .int .i64 o.tb, .int .i64 o.k, .int .i64 o.n] 30) = X at *
    have HC0 : Hid (X.cell? ⟨w.heap.size, 10, none⟩ = some (.int .i64 o.a) ∧ X.cell? ⟨w.heap.size, 11, none⟩ = some (.int .i64 o.b)) := Lib.hid ⟨c10, c11⟩
    go_region_held3 (fun x => (x.cell? ⟨w.heap.size, 10, none⟩ = some (.int .i64 o.a) ∧ x.cell? ⟨w.heap.size, 11, none⟩ = some (.int .i64 o.b))) (first | go_keep | exact HKA.out | exact HKB.out) (first
      | ((go_at_call 20; refine (worldKill_any p F l rows o.a o.b _ (HWX.out.later (Below.refl _ _).drew) HOK.out HOP.out.1 HOP.out.2.1).mono ?_; rintro e x1 ⟨rfl, F1, h1, hk1, hm1⟩; have HW1 := Lib.hid h1; have HK1 := Lib.hid hk1; have HM1 := Lib.hid hm1; have HKA : Hid (x1.cell? ⟨w.heap.size, 10, none⟩ = some (.int .i64 o.a) ∧ x1.cell? ⟨w.heap.size, 11, none⟩ = some (.int .i64 o.b)) := Lib.hid ⟨hk1.cellS HC0.out.1 HNB.out.1, hk1.cellS HC0.out.2 HNB.out.1⟩; clear h1 hk1 hm1))
      | ((go_at_call 21; refine (refKill_any q G l rows vB o.a o.b _ ((HZX.out.later (Below.refl _ _).drew).kept HK1.out (fun b hg hf => HAP.out b hf hg)) HOK.out).mono ?_; rintro e x2 ⟨rfl, G2, h2, hk2, hm2⟩; have HZ2 := Lib.hid h2; have HK2 := Lib.hid hk2; have HM2 := Lib.hid hm2; have HKB : Hid (x2.cell? ⟨w.heap.size, 10, none⟩ = some (.int .i64 o.a) ∧ x2.cell? ⟨w.heap.size, 11, none⟩ = some (.int .i64 o.b)) := Lib.hid ⟨hk2.cellS HKA.out.1 HNB.out.2, hk2.cellS HKA.out.2 HNB.out.2⟩; clear h2 hk2 hm2)))
    have HEND : Hid (DidPost w p q F G l rows vB o (.returned (.bool true)) x2) := Lib.hid (DidPost.mk2 HX.out.drew HST.out.1 HST.out.2 HW1.out HK1.out HM1.out HZ2.out HK2.out HM2.out HLG.out HAP.out)
    go_wp2
    go_ret
    exact HEND.out
  have hd2 : (o.d == 2) = false := by simpa using h2
  have HD2 := Lib.hid h2
  clear h2
  by_cases h3 : o.d = 3
  · have hd3 : (o.d == 3) = true := by simpa using h3
    have HD3 := Lib.hid h3
    clear h3
    have HST : Hid (stepL l o = l ∧ stepR l rows o = putWR rows o.a o.b o.k o.n) := Lib.hid (⟨by rw [stepL, if_neg HD1.out, if_neg HD2.out], by rw [stepR, if_neg HD1.out, if_neg HD2.out, if_pos HD3.out]⟩)
    have hne : (putWE rows o.a o.b o.k o.n == putWE rows o.a o.b o.k o.n) = true := by simp
    go_wp2_with fail
    generalize w.alloc (.cells #[.int .i64 o.d, .int .i64 o.m, .int .i64 (o.f 0), .int .i64 (o.f 1), .int .i64 (o.f 2), .int .i64 (o.f 3), .int .i64 (o.f 4), .int .i64 (o.f 5), .int .i64 (o.f 6), .int .i64 (o.f 7), .int .i64 o.a, .int .i64 o.b, .int .i64 o.ta, .int .i64 o.tb, .int .i64 o.k, .int .i64 o.n] 30) = X at *
    have HC0 : Hid (X.cell? ⟨w.heap.size, 10, none⟩ = some (.int .i64 o.a) ∧ X.cell? ⟨w.heap.size, 11, none⟩ = some (.int .i64 o.b) ∧ X.cell? ⟨w.heap.size, 14, none⟩ = some (.int .i64 o.k) ∧ X.cell? ⟨w.heap.size, 15, none⟩ = some (.int .i64 o.n)) := Lib.hid ⟨c10, c11, c14, c15⟩
    go_region_held3 (fun x => (x.cell? ⟨w.heap.size, 10, none⟩ = some (.int .i64 o.a) ∧ x.cell? ⟨w.heap.size, 11, none⟩ = some (.int .i64 o.b) ∧ x.cell? ⟨w.heap.size, 14, none⟩ = some (.int .i64 o.k) ∧ x.cell? ⟨w.heap.size, 15, none⟩ = some (.int .i64 o.n))) (first | go_keep | exact HKA.out | exact HKB.out) (first
      | ((go_at_call 22; refine (worldPut_any p F l rows o.a o.b o.k o.n _ (HWX.out.later (Below.refl _ _).drew) HOK.out HOP.out.1 HOP.out.2.1).mono ?_; rintro e x1 ⟨rfl, F1, h1, hk1, hm1⟩; have HW1 := Lib.hid h1; have HK1 := Lib.hid hk1; have HM1 := Lib.hid hm1; have HKA : Hid (x1.cell? ⟨w.heap.size, 10, none⟩ = some (.int .i64 o.a) ∧ x1.cell? ⟨w.heap.size, 11, none⟩ = some (.int .i64 o.b) ∧ x1.cell? ⟨w.heap.size, 14, none⟩ = some (.int .i64 o.k) ∧ x1.cell? ⟨w.heap.size, 15, none⟩ = some (.int .i64 o.n)) := Lib.hid ⟨hk1.cellS HC0.out.1 HNB.out.1, hk1.cellS HC0.out.2.1 HNB.out.1, hk1.cellS HC0.out.2.2.1 HNB.out.1, hk1.cellS HC0.out.2.2.2 HNB.out.1⟩; clear h1 hk1 hm1))
      | ((go_at_call 23; refine (refPut_any q G l rows vB o.a o.b o.k o.n _ ((HZX.out.later (Below.refl _ _).drew).kept HK1.out (fun b hg hf => HAP.out b hf hg)) HOK.out).mono ?_; rintro e x2 ⟨rfl, G2, h2, hk2, hm2⟩; have HZ2 := Lib.hid h2; have HK2 := Lib.hid hk2; have HM2 := Lib.hid hm2; have HKB : Hid (x2.cell? ⟨w.heap.size, 10, none⟩ = some (.int .i64 o.a) ∧ x2.cell? ⟨w.heap.size, 11, none⟩ = some (.int .i64 o.b) ∧ x2.cell? ⟨w.heap.size, 14, none⟩ = some (.int .i64 o.k) ∧ x2.cell? ⟨w.heap.size, 15, none⟩ = some (.int .i64 o.n)) := Lib.hid ⟨hk2.cellS HKA.out.1 HNB.out.2, hk2.cellS HKA.out.2.1 HNB.out.2, hk2.cellS HKA.out.2.2.1 HNB.out.2, hk2.cellS HKA.out.2.2.2 HNB.out.2⟩; clear h2 hk2 hm2)))
    have HEND : Hid (DidPost w p q F G l rows vB o (.returned (.bool true)) x2) := Lib.hid (DidPost.mk2 HX.out.drew HST.out.1 HST.out.2 HW1.out HK1.out HM1.out HZ2.out HK2.out HM2.out HLG.out HAP.out)
    go_wp2
    go_ret
    exact HEND.out
  have hd3 : (o.d == 3) = false := by simpa using h3
  have HD3 := Lib.hid h3
  clear h3
  by_cases h4 : o.d = 4
  · have hd4 : (o.d == 4) = true := by simpa using h4
    have HD4 := Lib.hid h4
    clear h4
    have HST : Hid (stepL l o = l ∧ stepR l rows o = dropR rows o.a o.b o.k) := Lib.hid (⟨by rw [stepL, if_neg HD1.out, if_neg HD2.out], by rw [stepR, if_neg HD1.out, if_neg HD2.out, if_neg HD3.out, if_pos HD4.out]⟩)
    have hne : (dropE rows o.a o.b o.k == dropE rows o.a o.b o.k) = true := by simp
    go_wp2_with fail
    generalize w.alloc (.cells #[.int .i64 o.d, .int .i64 o.m, .int .i64 (o.f 0), .int .i64 (o.f 1), .int .i64 (o.f 2), .int .i64 (o.f 3), .int .i64 (o.f 4), .int .i64 (o.f 5), .int .i64 (o.f 6), .int .i64 (o.f 7), .int .i64 o.a, .int .i64 o.b, .int .i64 o.ta, .int .i64 o.tb, .int .i64 o.k, .int .i64 o.n] 30) = X at *
    have HC0 : Hid (X.cell? ⟨w.heap.size, 10, none⟩ = some (.int .i64 o.a) ∧ X.cell? ⟨w.heap.size, 11, none⟩ = some (.int .i64 o.b) ∧ X.cell? ⟨w.heap.size, 14, none⟩ = some (.int .i64 o.k)) := Lib.hid ⟨c10, c11, c14⟩
    go_region_held3 (fun x => (x.cell? ⟨w.heap.size, 10, none⟩ = some (.int .i64 o.a) ∧ x.cell? ⟨w.heap.size, 11, none⟩ = some (.int .i64 o.b) ∧ x.cell? ⟨w.heap.size, 14, none⟩ = some (.int .i64 o.k))) (first | go_keep | exact HKA.out | exact HKB.out) (first
      | ((go_at_call 24; refine (worldDrop_any p F l rows o.a o.b o.k _ (HWX.out.later (Below.refl _ _).drew) HOK.out HOP.out.1 HOP.out.2.1).mono ?_; rintro e x1 ⟨rfl, F1, h1, hk1, hm1⟩; have HW1 := Lib.hid h1; have HK1 := Lib.hid hk1; have HM1 := Lib.hid hm1; have HKA : Hid (x1.cell? ⟨w.heap.size, 10, none⟩ = some (.int .i64 o.a) ∧ x1.cell? ⟨w.heap.size, 11, none⟩ = some (.int .i64 o.b) ∧ x1.cell? ⟨w.heap.size, 14, none⟩ = some (.int .i64 o.k)) := Lib.hid ⟨hk1.cellS HC0.out.1 HNB.out.1, hk1.cellS HC0.out.2.1 HNB.out.1, hk1.cellS HC0.out.2.2 HNB.out.1⟩; clear h1 hk1 hm1))
      | ((go_at_call 25; refine (refDrop_any q G l rows vB o.a o.b o.k _ ((HZX.out.later (Below.refl _ _).drew).kept HK1.out (fun b hg hf => HAP.out b hf hg)) HOK.out).mono ?_; rintro e x2 ⟨rfl, G2, h2, hk2, hm2⟩; have HZ2 := Lib.hid h2; have HK2 := Lib.hid hk2; have HM2 := Lib.hid hm2; have HKB : Hid (x2.cell? ⟨w.heap.size, 10, none⟩ = some (.int .i64 o.a) ∧ x2.cell? ⟨w.heap.size, 11, none⟩ = some (.int .i64 o.b) ∧ x2.cell? ⟨w.heap.size, 14, none⟩ = some (.int .i64 o.k)) := Lib.hid ⟨hk2.cellS HKA.out.1 HNB.out.2, hk2.cellS HKA.out.2.1 HNB.out.2, hk2.cellS HKA.out.2.2 HNB.out.2⟩; clear h2 hk2 hm2)))
    have HEND : Hid (DidPost w p q F G l rows vB o (.returned (.bool true)) x2) := Lib.hid (DidPost.mk2 HX.out.drew HST.out.1 HST.out.2 HW1.out HK1.out HM1.out HZ2.out HK2.out HM2.out HLG.out HAP.out)
    go_wp2
    go_ret
    exact HEND.out
  have hd4 : (o.d == 4) = false := by simpa using h4
  have HD4 := Lib.hid h4
  clear h4
  have HST : Hid (stepL l o = l ∧ stepR l rows o = rows) := Lib.hid ⟨by rw [stepL, if_neg HD1.out, if_neg HD2.out], by rw [stepR, if_neg HD1.out, if_neg HD2.out, if_neg HD3.out, if_neg HD4.out]⟩
  go_wp2
  go_ret
  exact ⟨rfl, F, G, by rw [HST.out.1, HST.out.2]; exact H0.out.1.later HX.out, by rw [HST.out.1, HST.out.2]; exact H0.out.2.later HX.out, HAP.out, Kept.ofBelow HX.out, Moves.refl _ _, Moves.refl _ _⟩
end Go.Proofs.YtlclceiebnnpgaaGreat

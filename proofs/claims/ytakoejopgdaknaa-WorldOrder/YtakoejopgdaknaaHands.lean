/- The contracts of the reference's Eq and Has over lists of handles. -/
import Derived.Test.YtakoejopgdaknaaEls
import Derived.Deep.QuietTactic
namespace Go.Proofs.Ytakoejopgdaknaa
set_option maxRecDepth 8000
open Go.RowKit

theorem nb_drewN {B n : Nat} {a w : World} (h : Below B a w) : Below B a (w.drewN n) := ⟨h.os, h.tape, h.output, h.size, h.block⟩
theorem eqD {α : Type} {a b : List α} {d : α} (hl : a.length = b.length) (h : ∀ j, j < a.length → a.getD j d = b.getD j d) : a = b := by
  refine List.ext_getElem hl fun j h1 h2 => ?_
  have := h j h1
  rwa [List.getD_eq_getElem?_getD, List.getD_eq_getElem?_getD, List.getElem?_eq_getElem h1, List.getElem?_eq_getElem h2] at this
theorem neD {α : Type} {a b : List α} {d : α} {j : Nat} (h : a.getD j d ≠ b.getD j d) : a ≠ b := fun e => h (by rw [e])
theorem memD {α : Type} {a : List α} {d : α} {j : Nat} (h : j < a.length) : a.getD j d ∈ a := by
  rw [List.getD_eq_getElem?_getD, List.getElem?_eq_getElem h]; exact List.getElem_mem h
theorem notMemD {α : Type} {a : List α} {d x : α} (h : ∀ j, j < a.length → a.getD j d ≠ x) : ¬ x ∈ a := fun hx => by
  obtain ⟨j, hj, e⟩ := List.getElem_of_mem hx
  refine h j hj ?_
  rw [List.getD_eq_getElem?_getD, List.getElem?_eq_getElem hj]; exact e

set_option maxHeartbeats 1000000 in
theorem hasHand_any (v : Value) (hs : List (Int × Int)) (a b : Int) (w : World) (h : Reads elHand w v hs) :
    Calls Try.prog 103 #[v, .agg #[.int .i64 a, .int .i64 b]] w fun e w' => e = .returned (.bool (decide ((a, b) ∈ hs))) ∧ Below w.heap.size w w' := by
  obtain ⟨hm, h⟩ := h.open
  unfold maxLen at hm
  generalize hn : hs.length = n at *
  have HN := Lib.hid hn
  clear hn
  rcases h with ⟨ad, cap, rfl, hz⟩ | ⟨bl, off, cap, rfl, hb, hlc, hcm, hc⟩
  all_goals
    go_enter Try.func103, Try.ntmps103
    go_wp2
    go_loopw [9] (fun i wr => ∃ k : Nat, k ≤ n ∧ i = .int .i64 k ∧ Hid (∀ j, j < k → hs.getD j (0, 0) ≠ (a, b)) ∧ Hid (Below (w.heap.size + 1) (w.alloc (.cells #[.int .i64 a, .int .i64 b] 38)) wr)) (fun i _ => n - (intOf i).toNat)
    case atStart => exact ⟨0, by omega, rfl, fun j hj => by omega, Below.refl _ _⟩
    case round =>
      obtain ⟨k, hk, rfl, hno, hB⟩ := hrel
      have HBW : Hid (Below w.heap.size w wr) := Lib.hid ((nb_alloc (Below.refl _ _) _).trans (hB.out.mono (by omega)))
      by_cases hlt : k < n
      · first
          | omega
          | (obtain ⟨c0, c1⟩ := cells2 rfl hc hlt
             clear hc
             have c0' : wr.cell? ⟨bl, off + k * 2, none⟩ = some (.int .i64 (hs.getD k (0, 0)).1) := by rw [HBW.out.cell (p := ⟨bl, _, none⟩) hb, c0]; rfl
             have c1' : wr.cell? ⟨bl, off + k * 2 + 1, none⟩ = some (.int .i64 (hs.getD k (0, 0)).2) := by rw [HBW.out.cell (p := ⟨bl, _, none⟩) hb, c1]; rfl
             have k0 : wr.cell? ⟨w.heap.size, 0, none⟩ = some (.int .i64 a) := by rw [hB.out.cell (p := ⟨w.heap.size, 0, none⟩) (by simp)]; simp
             have k1 : wr.cell? ⟨w.heap.size, 1, none⟩ = some (.int .i64 b) := by rw [hB.out.cell (p := ⟨w.heap.size, 1, none⟩) (by simp)]; simp
             have hsz : w.heap.size < wr.heap.size := by have := hB.out.size; simp at this; omega
             have hbw : bl < wr.heap.size := by omega
             clear c0 c1
             have HG : Hid (hs.getD k (0, 0) ∈ hs) := Lib.hid (memD (by rw [HN.out]; exact hlt))
             generalize hy : hs.getD k (0, 0) = y at *
             have HY := Lib.hid hy
             clear hy
             obtain ⟨y1, y2⟩ := y
             cases h1 : (a == y1) <;> cases h2 : (b == y2)
             all_goals
               go_wp2
               first
                 | (go_roundw
                    case rel => exact ⟨k + 1, by omega, by go_num, fun j hj => if e : j = k then by rw [e, HY.out]; intro e2; simp only [Prod.mk.injEq] at e2; obtain ⟨rfl, rfl⟩ := e2; first | (simp at h1; done) | (simp at h2; done) else hno.out j (by omega), hB.out.alloc (by omega) _⟩
                    case measure => simp [intOf]; omega)
                 | (go_ret
                    obtain rfl := eq_of_beq h1
                    obtain rfl := eq_of_beq h2
                    exact ⟨ret_bool (by rw [decide_eq_true HG.out]), nb_alloc HBW.out _⟩))
      · obtain rfl : k = n := by omega
        go_wp2
        go_ret
        exact ⟨ret_bool (by rw [decide_eq_false (notMemD (by rw [HN.out]; exact hno.out))]), HBW.out⟩
end Go.Proofs.Ytakoejopgdaknaa

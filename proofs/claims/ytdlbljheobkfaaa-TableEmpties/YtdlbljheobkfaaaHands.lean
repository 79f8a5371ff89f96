/- The contracts of the reference's Eq and Has over lists of handles. -/
import Derived.Test.YtdlbljheobkfaaaEls
import Derived.Deep.QuietTactic
namespace Go.Proofs.Ytdlbljheobkfaaa
open Go.RowKit

theorem nb_drewN {B n : Nat} {a w : World} (h : Below B a w) : Below B a (w.drewN n) := ⟨h.os, h.tape, h.output, h.size, h.block⟩
theorem eqD {α : Type} {a b : List α} {d : α} (hl : a.length = b.length) (h : ∀ j, j < a.length → a.getD j d = b.getD j d) : a = b := by
  refine List.ext_getElem hl fun j h1 h2 => ?_
  have := h j h1
  rwa [List.getD_eq_getElem?_getD, List.getD_eq_getElem?_getD, List.getElem?_eq_getElem h1, List.getElem?_eq_getElem h2] at this
theorem neD {α : Type} {a b : List α} {d : α} {j : Nat} (h : a.getD j d ≠ b.getD j d) : a ≠ b := fun e => h (by rw [e])
theorem memD {α : Type} {a : List α} {d : α} {j : Nat} (h : j < a.length) : a.getD j d ∈ a := by
  rw [List.getD_eq_getElem?_getD, List.getElem?_eq_getElem h]; exact List.getElem_mem h
theorem notMemD {α : Type} {a : List α} {d x : α} (h : ∀ j, j < a.length → a.getD j d ≠ x) : ¬ x ∈ a := fun hx => by
  obtain ⟨j, hj, e⟩ := List.getElem_of_mem hx
  refine h j hj ?_
  rw [List.getD_eq_getElem?_getD, List.getElem?_eq_getElem hj]; exact e

set_option maxHeartbeats 2000000 in
theorem eqHand_any (u v : Value) (xs ys : List (Int × Int)) (w : World) (hx : Reads elHand w u xs) (hy : Reads elHand w v ys) :
    Calls Try.prog 19 #[u, v] w fun e w' => e = .returned (.bool (decide (xs = ys))) ∧ Below w.heap.size w w' := by
  obtain ⟨hm, hx⟩ := hx.open
  obtain ⟨hm', hy⟩ := hy.open
  unfold maxLen at hm hm'
  generalize hn : xs.length = n at *
  generalize hn' : ys.length = n' at *
  have HN := Lib.hid hn
  have HN' := Lib.hid hn'
  clear hn hn'
  by_cases e : n = n'
  · subst e
    rcases hx with ⟨a, cap, rfl, hz⟩ | ⟨b, off, cap, rfl, hb, hlc, hcm, hc⟩ <;> rcases hy with ⟨a', cap', rfl, hz'⟩ | ⟨b', off', cap', rfl, hb', hlc', hcm', hc'⟩
    all_goals
      have hne : ((n : Int) != (n : Int)) = false := by simp
      go_enter Try.func19, Try.ntmps19
      go_wp2
      go_loopw [14] (fun i wr => ∃ k : Nat, k ≤ n ∧ i = .int .i64 k ∧ Hid (∀ j, j < k → xs.getD j (0, 0) = ys.getD j (0, 0)) ∧ Hid (Below w.heap.size w wr)) (fun i _ => n - (intOf i).toNat)
      case atStart => exact ⟨0, by omega, rfl, fun j hj => by omega, Below.refl _ _⟩
      case round =>
        obtain ⟨k, hk, rfl, hno, hB⟩ := hrel
        by_cases hlt : k < n
        · first
            | omega
            | (obtain ⟨c0, c1⟩ := cells2 rfl hc hlt
               obtain ⟨e0, e1⟩ := cells2 rfl hc' hlt
               clear hc hc'
               have c0' : wr.cell? ⟨b, off + k * 2, none⟩ = some (.int .i64 (xs.getD k (0, 0)).1) := by rw [hB.out.cell (p := ⟨b, _, none⟩) hb, c0]; rfl
               have c1' : wr.cell? ⟨b, off + k * 2 + 1, none⟩ = some (.int .i64 (xs.getD k (0, 0)).2) := by rw [hB.out.cell (p := ⟨b, _, none⟩) hb, c1]; rfl
               have e0' : wr.cell? ⟨b', off' + k * 2, none⟩ = some (.int .i64 (ys.getD k (0, 0)).1) := by rw [hB.out.cell (p := ⟨b', _, none⟩) hb', e0]; rfl
               have e1' : wr.cell? ⟨b', off' + k * 2 + 1, none⟩ = some (.int .i64 (ys.getD k (0, 0)).2) := by rw [hB.out.cell (p := ⟨b', _, none⟩) hb', e1]; rfl
               clear c0 c1 e0 e1
               have hbw : b < wr.heap.size := Nat.lt_of_lt_of_le hb hB.out.size
               have hbw' : b' < wr.heap.size := Nat.lt_of_lt_of_le hb' hB.out.size
               have HD := Lib.hid (fun h => neD (a := xs) (b := ys) (d := (0, 0)) (j := k) h)
               generalize hgx : xs.getD k (0, 0) = x at *
               generalize hgy : ys.getD k (0, 0) = y at *
               have HX := Lib.hid hgx
               have HY := Lib.hid hgy
               clear hgx hgy
               obtain ⟨x1, x2⟩ := x
               obtain ⟨y1, y2⟩ := y
               cases h1 : (x1 == y1) <;> cases h2 : (x2 == y2)
               all_goals
                 go_wp2
                 go_quiet (fail)
                 go_wp2
                 first
                   | (go_roundw
                      case rel =>
                        obtain rfl := eq_of_beq h1
                        obtain rfl := eq_of_beq h2
                        exact ⟨k + 1, by omega, by go_num, fun j hj => if e : j = k then by rw [e, HX.out, HY.out] else hno.out j (by omega), nb_drewN (nb_alloc hB.out _)⟩
                      case measure => simp [intOf]; omega)
                   | (go_ret
                      have hne' : ¬ ((x1, x2) = (y1, y2)) := by intro e2; simp only [Prod.mk.injEq] at e2; obtain ⟨rfl, rfl⟩ := e2; first | (simp at h1; done) | (simp at h2; done)
                      exact ⟨ret_bool (by rw [decide_eq_false (HD.out hne')]), nb_drewN (nb_alloc hB.out _)⟩))
        · obtain rfl : k = n := by omega
          go_wp2
          go_ret
          exact ⟨ret_bool (by rw [decide_eq_true (eqD (by rw [HN.out, HN'.out]) (by rw [HN.out]; exact hno.out))]), hB.out⟩
  · have hne : ((n : Int) != (n' : Int)) = true := by rw [bne_iff_ne]; omega
    have HF : Hid (xs ≠ ys) := Lib.hid (fun h => e (by rw [← HN.out, ← HN'.out, h]))
    clear e
    rcases hx with ⟨a, cap, rfl, hz⟩ | ⟨b, off, cap, rfl, hb, hlc, hcm, hc⟩ <;> rcases hy with ⟨a', cap', rfl, hz'⟩ | ⟨b', off', cap', rfl, hb', hlc', hcm', hc'⟩
    all_goals
      go_enter Try.func19, Try.ntmps19
      go_wp2
      go_ret
      exact ⟨ret_bool (by rw [decide_eq_false HF.out]), Below.refl _ _⟩
end Go.Proofs.Ytdlbljheobkfaaa

/- Bonds as they lie in slices; cmp.Or of two ints; the contracts of the reference's Eq and Has over bonds. -/
import Derived.Test.YtlclceiebnnpgaaFamAt
namespace Go.Proofs.Ytlclceiebnnpgaa
set_option maxRecDepth 8000
open Go.RowKit

def bdZ : Bd := ((0, 0), (0, 0))
def elBond : El Bd := { enc := fun x => [.int .i64 x.1.1, .int .i64 x.1.2, .int .i64 x.2.1, .int .i64 x.2.2], size := 4, zero := bdZ, len := fun _ => rfl, pos := by decide, one := fun x u hu => by simp at hu; rcases hu with rfl | rfl | rfl | rfl <;> rfl }
theorem infoBond : (Try.prog.info? 44).map (fun i => (i.zero, i.size, i.bytes)) = some (some (.agg #[.int .i64 0, .int .i64 0, .int .i64 0, .int .i64 0]), 4, 32) := by kernel_rfl

theorem orInt_any (v : Value) (a b r : Int) (w : World) (hr : (if a = 0 then b else a) = r) (h : Ints w v [a, b]) :
    Calls Try.prog 49 #[v] w fun e w' => e = .returned (.int .i64 r) ∧ w = w' := by
  obtain ⟨ad, cap, rfl, hl, hm, hc⟩ := h
  obtain ⟨bl, off, rfl, hb, c0⟩ := hc 0 (by simp)
  obtain ⟨bl', off', e, _, c1⟩ := hc 1 (by simp)
  simp only [Option.some.injEq, Addr.mk.injEq, and_true] at e
  obtain ⟨rfl, rfl⟩ := e
  have hcc : ∀ k : Nat, k < 2 → w.cell? ⟨bl, off + k, none⟩ = some (.int .i64 (if k = 0 then a else b)) := fun k hk => by
    rcases (show k = 0 ∨ k = 1 by omega) with rfl | rfl
    · simpa using c0
    · simpa using c1
  have HCC := Lib.hid hcc
  have HRR := Lib.hid hr
  clear hr c0 c1 hc hcc hl hm
  go_enter Try.func49, Try.ntmps49
  go_wp2
  go_loopw [8] (fun i wr => ∃ k : Nat, k ≤ 2 ∧ i = .int .i64 k ∧ Hid (k ≠ 0 → a = 0) ∧ Hid (k = 2 → b = 0) ∧ wr = w) (fun i _ => 2 - (intOf i).toNat)
  case atStart => exact ⟨0, by omega, rfl, Lib.hid (fun h => absurd rfl h), Lib.hid (fun h => by omega), rfl⟩
  case round =>
    obtain ⟨k, hk, rfl, h0, h2, rfl⟩ := hrel
    by_cases hlt : k < 2
    · have hlt' : (k : Int) < 2 := by omega
      have ck := HCC.out k hlt
      obtain ⟨x, hx⟩ : ∃ x, (if k = 0 then a else b) = x := ⟨_, rfl⟩
      rw [hx] at ck
      have HX := Lib.hid hx
      clear hx
      cases hn : (x != 0)
      · have HN := Lib.hid hn
        go_wp2
        go_roundw
        case rel =>
          have hx0 : x = 0 := by simpa using HN.out
          refine ⟨k + 1, by omega, by go_num, Lib.hid (fun _ => ?_), Lib.hid (fun e => ?_), by simp⟩
          · by_cases e : k = 0
            · have := HX.out; rw [if_pos e] at this; omega
            · exact h0.out e
          · have := HX.out; rw [if_neg (by omega)] at this; omega
        case measure => simp [intOf]; omega
      · have HN := Lib.hid hn
        go_wp2
        go_ret
        refine ⟨ret_int ?_, rfl⟩
        have hx0 : x ≠ 0 := by simpa using HN.out
        by_cases e : k = 0
        · have := HX.out; rw [if_pos e] at this; rw [← HRR.out, if_neg (by omega), this]
        · have := HX.out; rw [if_neg e] at this; rw [← HRR.out, if_pos (h0.out e), this]
    · obtain rfl : k = 2 := by omega
      go_wp2
      go_ret
      exact ⟨ret_int (by rw [← HRR.out, if_pos (h0.out (by decide)), h2.out (by simp)]), rfl⟩


set_option maxHeartbeats 1000000 in
theorem hasBond_any (v : Value) (hs : List Bd) (a b c d : Int) (w : World) (h : Reads elBond w v hs) :
    Calls Try.prog 23 #[v, .agg #[.int .i64 a, .int .i64 b, .int .i64 c, .int .i64 d]] w fun e w' => e = .returned (.bool (decide (((a, b), (c, d)) ∈ hs))) ∧ Below w.heap.size w w' := by
  obtain ⟨hm, h⟩ := h.open
  unfold maxLen at hm
  generalize hn : hs.length = n at *
  have HN := Lib.hid hn
  clear hn
  rcases h with ⟨ad, cap, rfl, hz⟩ | ⟨bl, off, cap, rfl, hb, hlc, hcm, hc⟩
  all_goals
    go_enter Try.func23, Try.ntmps23
    go_wp2
    go_loopw [9] (fun i wr => ∃ k : Nat, k ≤ n ∧ i = .int .i64 k ∧ Hid (∀ j, j < k → hs.getD j bdZ ≠ ((a, b), (c, d))) ∧ Hid (Below (w.heap.size + 1) (w.alloc (.cells #[.int .i64 a, .int .i64 b, .int .i64 c, .int .i64 d] 44)) wr)) (fun i _ => n - (intOf i).toNat)
    case atStart => exact ⟨0, by omega, rfl, fun j hj => by omega, Below.refl _ _⟩
    case round =>
      obtain ⟨k, hk, rfl, hno, hB⟩ := hrel
      have HBW : Hid (Below w.heap.size w wr) := Lib.hid ((nb_alloc (Below.refl _ _) _).trans (hB.out.mono (by omega)))
      by_cases hlt : k < n
      · first
          | omega
          | (have hcr : ∀ jj, jj < 4 → wr.cell? ⟨bl, off + k * 4 + jj, none⟩ = (elBond.enc (hs.getD k bdZ))[jj]? := fun jj hjj => by rw [HBW.out.cell (p := ⟨bl, _, none⟩) hb]; exact hc k hlt jj hjj
             clear hc
             have k0 : wr.cell? ⟨w.heap.size, 0, none⟩ = some (.int .i64 a) := by rw [hB.out.cell (p := ⟨w.heap.size, 0, none⟩) (by simp)]; simp
             have k1 : wr.cell? ⟨w.heap.size, 1, none⟩ = some (.int .i64 b) := by rw [hB.out.cell (p := ⟨w.heap.size, 1, none⟩) (by simp)]; simp
             have k2 : wr.cell? ⟨w.heap.size, 2, none⟩ = some (.int .i64 c) := by rw [hB.out.cell (p := ⟨w.heap.size, 2, none⟩) (by simp)]; simp
             have k3 : wr.cell? ⟨w.heap.size, 3, none⟩ = some (.int .i64 d) := by rw [hB.out.cell (p := ⟨w.heap.size, 3, none⟩) (by simp)]; simp
             have hsz : w.heap.size < wr.heap.size := by have := hB.out.size; simp at this; omega
             have hbw : bl < wr.heap.size := by omega
             have HG : Hid (hs.getD k bdZ ∈ hs) := Lib.hid (memD (by rw [HN.out]; exact hlt))
             generalize hy : hs.getD k bdZ = y at *
             have HY := Lib.hid hy
             clear hy
             obtain ⟨⟨y1, y2⟩, y3, y4⟩ := y
             have c0 : wr.cell? ⟨bl, off + k * 4, none⟩ = some (.int .i64 y1) := hcr 0 (by decide)
             have c1 : wr.cell? ⟨bl, off + k * 4 + 1, none⟩ = some (.int .i64 y2) := hcr 1 (by decide)
             have c2 : wr.cell? ⟨bl, off + k * 4 + 2, none⟩ = some (.int .i64 y3) := hcr 2 (by decide)
             have c3 : wr.cell? ⟨bl, off + k * 4 + 3, none⟩ = some (.int .i64 y4) := hcr 3 (by decide)
             clear hcr
             cases h1 : (a == y1) <;> cases h2 : (b == y2) <;> cases h3 : (c == y3) <;> cases h4 : (d == y4)
             all_goals
               go_wp2
               first
                 | (go_roundw
                    case rel => exact ⟨k + 1, by omega, by go_num, fun j hj => if e : j = k then by rw [e, HY.out]; intro e2; simp only [Prod.mk.injEq] at e2; obtain ⟨⟨rfl, rfl⟩, rfl, rfl⟩ := e2; first | (simp at h1; done) | (simp at h2; done) | (simp at h3; done) | (simp at h4; done) else hno.out j (by omega), hB.out.alloc (by omega) _⟩
                    case measure => simp [intOf]; omega)
                 | (go_ret
                    obtain rfl := eq_of_beq h1
                    obtain rfl := eq_of_beq h2
                    obtain rfl := eq_of_beq h3
                    obtain rfl := eq_of_beq h4
                    exact ⟨ret_bool (by rw [decide_eq_true HG.out]), nb_alloc HBW.out _⟩))
      · obtain rfl : k = n := by omega
        go_wp2
        go_ret
        exact ⟨ret_bool (by rw [decide_eq_false (notMemD (by rw [HN.out]; exact hno.out))]), HBW.out⟩
set_option maxHeartbeats 2000000 in
theorem eqBond_any (u v : Value) (xs ys : List Bd) (w : World) (hx : Reads elBond w u xs) (hy : Reads elBond w v ys) :
    Calls Try.prog 10 #[u, v] w fun e w' => e = .returned (.bool (decide (xs = ys))) ∧ Below w.heap.size w w' := by
  obtain ⟨hm, hx⟩ := hx.open
  obtain ⟨hm', hy⟩ := hy.open
  unfold maxLen at hm hm'
  generalize hn : xs.length = n at *
  generalize hn' : ys.length = n' at *
  have HN := Lib.hid hn
  have HN' := Lib.hid hn'
  clear hn hn'
  by_cases e : n = n'
  · subst e
    rcases hx with ⟨a, cap, rfl, hz⟩ | ⟨b, off, cap, rfl, hb, hlc, hcm, hc⟩ <;> rcases hy with ⟨a', cap', rfl, hz'⟩ | ⟨b', off', cap', rfl, hb', hlc', hcm', hc'⟩
    all_goals
      have hne : ((n : Int) != (n : Int)) = false := by simp
      go_enter Try.func10, Try.ntmps10
      go_wp2
      go_loopw [14] (fun i wr => ∃ k : Nat, k ≤ n ∧ i = .int .i64 k ∧ Hid (∀ j, j < k → xs.getD j bdZ = ys.getD j bdZ) ∧ Hid (Below w.heap.size w wr)) (fun i _ => n - (intOf i).toNat)
      case atStart => exact ⟨0, by omega, rfl, fun j hj => by omega, Below.refl _ _⟩
      case round =>
        obtain ⟨k, hk, rfl, hno, hB⟩ := hrel
        by_cases hlt : k < n
        · first
            | omega
            | (have hcr : ∀ jj, jj < 4 → wr.cell? ⟨b, off + k * 4 + jj, none⟩ = (elBond.enc (xs.getD k bdZ))[jj]? := fun jj hjj => by rw [hB.out.cell (p := ⟨b, _, none⟩) hb]; exact hc k hlt jj hjj
               have hcr' : ∀ jj, jj < 4 → wr.cell? ⟨b', off' + k * 4 + jj, none⟩ = (elBond.enc (ys.getD k bdZ))[jj]? := fun jj hjj => by rw [hB.out.cell (p := ⟨b', _, none⟩) hb']; exact hc' k hlt jj hjj
               clear hc hc'
               have hbw : b < wr.heap.size := Nat.lt_of_lt_of_le hb hB.out.size
               have hbw' : b' < wr.heap.size := Nat.lt_of_lt_of_le hb' hB.out.size
               have HD := Lib.hid (fun h => neD (a := xs) (b := ys) (d := bdZ) (j := k) h)
               generalize hgx : xs.getD k bdZ = x at *
               generalize hgy : ys.getD k bdZ = y at *
               have HX := Lib.hid hgx
               have HY := Lib.hid hgy
               clear hgx hgy
               obtain ⟨⟨x1, x2⟩, x3, x4⟩ := x
               obtain ⟨⟨y1, y2⟩, y3, y4⟩ := y
               have c0 : wr.cell? ⟨b, off + k * 4, none⟩ = some (.int .i64 x1) := hcr 0 (by decide)
               have c1 : wr.cell? ⟨b, off + k * 4 + 1, none⟩ = some (.int .i64 x2) := hcr 1 (by decide)
               have c2 : wr.cell? ⟨b, off + k * 4 + 2, none⟩ = some (.int .i64 x3) := hcr 2 (by decide)
               have c3 : wr.cell? ⟨b, off + k * 4 + 3, none⟩ = some (.int .i64 x4) := hcr 3 (by decide)
               have e0 : wr.cell? ⟨b', off' + k * 4, none⟩ = some (.int .i64 y1) := hcr' 0 (by decide)
               have e1 : wr.cell? ⟨b', off' + k * 4 + 1, none⟩ = some (.int .i64 y2) := hcr' 1 (by decide)
               have e2 : wr.cell? ⟨b', off' + k * 4 + 2, none⟩ = some (.int .i64 y3) := hcr' 2 (by decide)
               have e3 : wr.cell? ⟨b', off' + k * 4 + 3, none⟩ = some (.int .i64 y4) := hcr' 3 (by decide)
               clear hcr hcr'
               cases h1 : (x1 == y1) <;> cases h2 : (x2 == y2) <;> cases h3 : (x3 == y3) <;> cases h4 : (x4 == y4)
               all_goals
                 go_wp2
                 go_quiet (fail)
                 go_wp2
                 first
                   | (go_roundw
                      case rel =>
                        obtain rfl := eq_of_beq h1
                        obtain rfl := eq_of_beq h2
                        obtain rfl := eq_of_beq h3
                        obtain rfl := eq_of_beq h4
                        exact ⟨k + 1, by omega, by go_num, fun j hj => if e : j = k then by rw [e, HX.out, HY.out] else hno.out j (by omega), nb_drewN (nb_alloc hB.out _)⟩
                      case measure => simp [intOf]; omega)
                   | (go_ret
                      have hne' : ¬ (((x1, x2), (x3, x4)) = ((y1, y2), (y3, y4))) := by intro e9; simp only [Prod.mk.injEq] at e9; obtain ⟨⟨rfl, rfl⟩, rfl, rfl⟩ := e9; first | (simp at h1; done) | (simp at h2; done) | (simp at h3; done) | (simp at h4; done)
                      exact ⟨ret_bool (by rw [decide_eq_false (HD.out hne')]), nb_drewN (nb_alloc hB.out _)⟩))
        · obtain rfl : k = n := by omega
          go_wp2
          go_ret
          exact ⟨ret_bool (by rw [decide_eq_true (eqD (by rw [HN.out, HN'.out]) (by rw [HN.out]; exact hno.out))]), hB.out⟩
  · have hne : ((n : Int) != (n' : Int)) = true := by rw [bne_iff_ne]; omega
    have HF : Hid (xs ≠ ys) := Lib.hid (fun h => e (by rw [← HN.out, ← HN'.out, h]))
    clear e
    rcases hx with ⟨a, cap, rfl, hz⟩ | ⟨b, off, cap, rfl, hb, hlc, hcm, hc⟩ <;> rcases hy with ⟨a', cap', rfl, hz'⟩ | ⟨b', off', cap', rfl, hb', hlc', hcm', hc'⟩
    all_goals
      go_enter Try.func10, Try.ntmps10
      go_wp2
      go_ret
      exact ⟨ret_bool (by rw [decide_eq_false HF.out]), Below.refl _ _⟩
end Go.Proofs.Ytlclceiebnnpgaa

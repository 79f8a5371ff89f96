
/- Lists of rows compared: a list and another, where rows of one slot are one. -/
import Derived.Test.YtndhomjfjhohoaaGreatDoorGroundF
import Derived.Test.YtndhomjfjhohoaaGreatDoorGroundH
namespace Go.Proofs.YtndhomjfjhohoaaGreatDoor
set_option maxRecDepth 8000
open Go.RowKit

set_option maxHeartbeats 4000000 in
theorem eqRow_any (u v : Value) (xs ys : List Rw) (w : World) (hx : Reads elRow w u xs) (hy : Reads elRow w v ys) (hu : ∀ k, (xs.getD k rowZ).s = (ys.getD k rowZ).s → xs.getD k rowZ = ys.getD k rowZ) :
    Calls Tryz.prog 29 #[u, v] w fun e w' => (∃ t : Bool, e = .returned (.bool t) ∧ (t = true ↔ xs = ys)) ∧ Below w.heap.size w w' := by
  obtain ⟨hm, hx⟩ := hx.open
  obtain ⟨hm', hy⟩ := hy.open
  unfold maxLen at hm hm'
  have HU := Lib.hid hu
  generalize hn : xs.length = n at *
  generalize hn' : ys.length = n' at *
  have HN := Lib.hid hn
  have HN' := Lib.hid hn'
  clear hn hn' hu
  by_cases e : n = n'
  · subst e
    rcases hx with ⟨a, cap, rfl, hz⟩ | ⟨b, off, cap, rfl, hb, hlc, hcm, hc⟩ <;> rcases hy with ⟨a', cap', rfl, hz'⟩ | ⟨b', off', cap', rfl, hb', hlc', hcm', hc'⟩
    all_goals
      have hne : ((n : Int) != (n : Int)) = false := by simp
      go_enter Tryz.func29, Tryz.ntmps29
      go_wp2
      go_loopw [14] (fun i wr => ∃ k : Nat, k ≤ n ∧ i = .int .i64 k ∧ Hid (∀ j, j < k → xs.getD j rowZ = ys.getD j rowZ) ∧ Hid (Below w.heap.size w wr)) (fun i _ => n - (intOf i).toNat)
      case atStart => exact ⟨0, by omega, rfl, fun j hj => by omega, Below.refl _ _⟩
      case round =>
        obtain ⟨k, hk, rfl, hno, hB⟩ := hrel
        by_cases hlt : k < n
        · first
            | omega
            | (have hcr : ∀ jj, jj < 11 → wr.cell? ⟨b, off + k * 11 + jj, none⟩ = (elRow.enc (xs.getD k rowZ))[jj]? := fun jj hjj => by rw [hB.out.cell (p := ⟨b, _, none⟩) hb]; exact hc k hlt jj hjj
               have hcr' : ∀ jj, jj < 11 → wr.cell? ⟨b', off' + k * 11 + jj, none⟩ = (elRow.enc (ys.getD k rowZ))[jj]? := fun jj hjj => by rw [hB.out.cell (p := ⟨b', _, none⟩) hb']; exact hc' k hlt jj hjj
               clear hc hc'
               have hbw : b < wr.heap.size := Nat.lt_of_lt_of_le hb hB.out.size
               have hbw' : b' < wr.heap.size := Nat.lt_of_lt_of_le hb' hB.out.size
               have HD := Lib.hid (fun h => neD (a := xs) (b := ys) (d := rowZ) (j := k) h)
               have HUK := Lib.hid (HU.out k)
               generalize hgx : xs.getD k rowZ = x at *
               generalize hgy : ys.getD k rowZ = y at *
               have HX := Lib.hid hgx
               have HY := Lib.hid hgy
               clear hgx hgy
               cases h1 : (x.s == y.s)
               · skip
                 obtain ⟨c0, c1, c2, c3, c4, c5, c6, c7, c8, c9, c10⟩ := lRow (O := off + k * 11) (r := x) hcr
                 obtain ⟨d0, d1, d2, d3, d4, d5, d6, d7, d8, d9, d10⟩ := lRow (O := off' + k * 11) (r := y) hcr'
                 clear hcr hcr'
                 have HNE : Hid (x ≠ y) := Lib.hid (fun e9 => by rw [e9] at h1; simp at h1)
                 cases h2 : (x.g == y.g) <;> cases h3 : (x.m == y.m)
                 all_goals
                   go_wp2
                   go_quiet (fail)
                   go_wp2
                   go_ret
                   exact ⟨⟨false, rfl, ⟨(fun h => by cases h), fun h => absurd h (HD.out HNE.out)⟩⟩, nb_drewN (nb_alloc hB.out _)⟩
               · obtain rfl : x = y := HUK.out (eq_of_beq h1)
                 obtain ⟨c0, c1, c2, c3, c4, c5, c6, c7, c8, c9, c10⟩ := lRow (O := off + k * 11) (r := x) hcr
                 obtain ⟨d0, d1, d2, d3, d4, d5, d6, d7, d8, d9, d10⟩ := lRow (O := off' + k * 11) (r := x) hcr'
                 have heq8 := eq8_run x.f
                 clear hcr hcr'
                 go_wp2
                 go_quiet (fail)
                 go_wp2
                 go_roundw
                 case rel => exact ⟨k + 1, by omega, by go_num, fun j hj => if e : j = k then by rw [e, HX.out, HY.out] else hno.out j (by omega), nb_drewN (nb_alloc hB.out _)⟩
                 case measure => simp [intOf]; omega)
        · obtain rfl : k = n := by omega
          go_wp2
          go_ret
          exact ⟨⟨true, rfl, ⟨fun _ => eqD (by rw [HN.out, HN'.out]) (by rw [HN.out]; exact hno.out), fun _ => rfl⟩⟩, hB.out⟩
  · have hne : ((n : Int) != (n' : Int)) = true := by rw [bne_iff_ne]; omega
    have HF : Hid (xs ≠ ys) := Lib.hid (fun h => e (by rw [← HN.out, ← HN'.out, h]))
    clear e
    rcases hx with ⟨a, cap, rfl, hz⟩ | ⟨b, off, cap, rfl, hb, hlc, hcm, hc⟩ <;> rcases hy with ⟨a', cap', rfl, hz'⟩ | ⟨b', off', cap', rfl, hb', hlc', hcm', hc'⟩
    all_goals
      go_enter Tryz.func29, Tryz.ntmps29
      go_wp2
      go_ret
      exact ⟨⟨false, rfl, ⟨(fun h => by cases h), fun h => absurd h HF.out⟩⟩, Below.refl _ _⟩
end Go.Proofs.YtndhomjfjhohoaaGreatDoor

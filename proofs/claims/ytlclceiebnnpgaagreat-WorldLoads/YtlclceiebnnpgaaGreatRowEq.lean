/- Lists of rows compared with themselves; a row looked for in rows of distinct slots. -/
import Derived.Test.YtlclceiebnnpgaaGreatEq8
import Derived.Test.YtlclceiebnnpgaaGreatGroundA
namespace Go.Proofs.YtlclceiebnnpgaaGreat
set_option maxRecDepth 8000
open Go.RowKit

set_option maxHeartbeats 4000000 in
theorem eqRow_same (u v : Value) (xs : List Rw) (w : World) (hx : Reads elRow w u xs) (hy : Reads elRow w v xs) :
    Calls Tryz.prog 8 #[u, v] w fun e w' => e = .returned (.bool true) ∧ Below w.heap.size w w' := by
  obtain ⟨hm, hx⟩ := hx.open
  obtain ⟨-, hy⟩ := hy.open
  unfold maxLen at hm
  generalize hn : xs.length = n at *
  clear hn
  rcases hx with ⟨a, cap, rfl, hz⟩ | ⟨b, off, cap, rfl, hb, hlc, hcm, hc⟩ <;> rcases hy with ⟨a', cap', rfl, hz'⟩ | ⟨b', off', cap', rfl, hb', hlc', hcm', hc'⟩
  all_goals
    have hne : ((n : Int) != (n : Int)) = false := by simp
    go_enter Tryz.func8, Tryz.ntmps8
    go_wp2
    go_loopw [14] (fun i wr => ∃ k : Nat, k ≤ n ∧ i = .int .i64 k ∧ Hid (Below w.heap.size w wr)) (fun i _ => n - (intOf i).toNat)
    case atStart => exact ⟨0, by omega, rfl, Below.refl _ _⟩
    case round =>
      obtain ⟨k, hk, rfl, hB⟩ := hrel
      by_cases hlt : k < n
      · first
          | omega
          | (have hcr : ∀ jj, jj < 11 → wr.cell? ⟨b, off + k * 11 + jj, none⟩ = (elRow.enc (xs.getD k rowZ))[jj]? := fun jj hjj => by rw [hB.out.cell (p := ⟨b, _, none⟩) hb]; exact hc k hlt jj hjj
             have hcr' : ∀ jj, jj < 11 → wr.cell? ⟨b', off' + k * 11 + jj, none⟩ = (elRow.enc (xs.getD k rowZ))[jj]? := fun jj hjj => by rw [hB.out.cell (p := ⟨b', _, none⟩) hb']; exact hc' k hlt jj hjj
             generalize xs.getD k rowZ = r at *
             have c0 : wr.cell? ⟨b, off + k * 11, none⟩ = some (.int .i64 r.s) := hcr 0 (by decide)
             have c1 : wr.cell? ⟨b, off + k * 11 + 1, none⟩ = some (.int .i64 r.g) := hcr 1 (by decide)
             have c2 : wr.cell? ⟨b, off + k * 11 + 2, none⟩ = some (.int .i64 r.m) := hcr 2 (by decide)
             have c3 : wr.cell? ⟨b, off + k * 11 + 3, none⟩ = some (.int .i64 (r.f 0)) := hcr 3 (by decide)
             have c4 : wr.cell? ⟨b, off + k * 11 + 4, none⟩ = some (.int .i64 (r.f 1)) := hcr 4 (by decide)
             have c5 : wr.cell? ⟨b, off + k * 11 + 5, none⟩ = some (.int .i64 (r.f 2)) := hcr 5 (by decide)
             have c6 : wr.cell? ⟨b, off + k * 11 + 6, none⟩ = some (.int .i64 (r.f 3)) := hcr 6 (by decide)
             have c7 : wr.cell? ⟨b, off + k * 11 + 7, none⟩ = some (.int .i64 (r.f 4)) := hcr 7 (by decide)
             have c8 : wr.cell? ⟨b, off + k * 11 + 8, none⟩ = some (.int .i64 (r.f 5)) := hcr 8 (by decide)
             have c9 : wr.cell? ⟨b, off + k * 11 + 9, none⟩ = some (.int .i64 (r.f 6)) := hcr 9 (by decide)
             have c10 : wr.cell? ⟨b, off + k * 11 + 10, none⟩ = some (.int .i64 (r.f 7)) := hcr 10 (by decide)
             have d0 : wr.cell? ⟨b', off' + k * 11, none⟩ = some (.int .i64 r.s) := hcr' 0 (by decide)
             have d1 : wr.cell? ⟨b', off' + k * 11 + 1, none⟩ = some (.int .i64 r.g) := hcr' 1 (by decide)
             have d2 : wr.cell? ⟨b', off' + k * 11 + 2, none⟩ = some (.int .i64 r.m) := hcr' 2 (by decide)
             have d3 : wr.cell? ⟨b', off' + k * 11 + 3, none⟩ = some (.int .i64 (r.f 0)) := hcr' 3 (by decide)
             have d4 : wr.cell? ⟨b', off' + k * 11 + 4, none⟩ = some (.int .i64 (r.f 1)) := hcr' 4 (by decide)
             have d5 : wr.cell? ⟨b', off' + k * 11 + 5, none⟩ = some (.int .i64 (r.f 2)) := hcr' 5 (by decide)
             have d6 : wr.cell? ⟨b', off' + k * 11 + 6, none⟩ = some (.int .i64 (r.f 3)) := hcr' 6 (by decide)
             have d7 : wr.cell? ⟨b', off' + k * 11 + 7, none⟩ = some (.int .i64 (r.f 4)) := hcr' 7 (by decide)
             have d8 : wr.cell? ⟨b', off' + k * 11 + 8, none⟩ = some (.int .i64 (r.f 5)) := hcr' 8 (by decide)
             have d9 : wr.cell? ⟨b', off' + k * 11 + 9, none⟩ = some (.int .i64 (r.f 6)) := hcr' 9 (by decide)
             have d10 : wr.cell? ⟨b', off' + k * 11 + 10, none⟩ = some (.int .i64 (r.f 7)) := hcr' 10 (by decide)
             have hbw : b < wr.heap.size := Nat.lt_of_lt_of_le hb hB.out.size
             have hbw' : b' < wr.heap.size := Nat.lt_of_lt_of_le hb' hB.out.size
             have heq8 := eq8_run r.f
             clear hc hc' hcr hcr'
             go_wp2
             go_quiet (fail)
             go_wp2
             go_roundw
             case rel => exact ⟨k + 1, by omega, by go_num, nb_drewN (nb_alloc hB.out _)⟩
             case measure => simp [intOf]; omega)
      · obtain rfl : k = n := by omega
        go_wp2
        go_ret
        exact ⟨rfl, hB.out⟩
end Go.Proofs.YtlclceiebnnpgaaGreat

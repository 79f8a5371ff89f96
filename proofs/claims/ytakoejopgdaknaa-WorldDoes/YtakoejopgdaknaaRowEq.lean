/- Lists of rows compared with themselves; a row looked for in rows of distinct slots. -/
import Derived.Test.YtakoejopgdaknaaEq8
import Derived.Test.YtakoejopgdaknaaGroundA
namespace Go.Proofs.Ytakoejopgdaknaa
set_option maxRecDepth 8000
open Go.RowKit

set_option maxHeartbeats 4000000 in
theorem eqRow_same (u v : Value) (xs : List Rw) (w : World) (hx : Reads elRow w u xs) (hy : Reads elRow w v xs) :
    Calls Try.prog 20 #[u, v] w fun e w' => e = .returned (.bool true) ∧ Below w.heap.size w w' := by
  obtain ⟨hm, hx⟩ := hx.open
  obtain ⟨-, hy⟩ := hy.open
  unfold maxLen at hm
  generalize hn : xs.length = n at *
  clear hn
  rcases hx with ⟨a, cap, rfl, hz⟩ | ⟨b, off, cap, rfl, hb, hlc, hcm, hc⟩ <;> rcases hy with ⟨a', cap', rfl, hz'⟩ | ⟨b', off', cap', rfl, hb', hlc', hcm', hc'⟩
  all_goals
    have hne : ((n : Int) != (n : Int)) = false := by simp
    go_enter Try.func20, Try.ntmps20
    go_wp2
    go_loopw [14] (fun i wr => ∃ k : Nat, k ≤ n ∧ i = .int .i64 k ∧ Hid (Below w.heap.size w wr)) (fun i _ => n - (intOf i).toNat)
    case atStart => exact ⟨0, by omega, rfl, Below.refl _ _⟩
    case round =>
      obtain ⟨k, hk, rfl, hB⟩ := hrel
      by_cases hlt : k < n
      · first
          | omega
          | (have hcr : ∀ jj, jj < 11 → wr.cell? ⟨b, off + k * 11 + jj, none⟩ = (elRow.enc (xs.getD k rowZ))[jj]? := fun jj hjj => by rw [hB.out.cell (p := ⟨b, _, none⟩) hb]; exact hc k hlt jj hjj
             have hcr' : ∀ jj, jj < 11 → wr.cell? ⟨b', off' + k * 11 + jj, none⟩ = (elRow.enc (xs.getD k rowZ))[jj]? := fun jj hjj => by rw [hB.out.cell (p := ⟨b', _, none⟩) hb']; exact hc' k hlt jj hjj
             generalize xs.getD k rowZ = r at *
             have c0 : wr.cell? ⟨b, off + k * 11, none⟩ = some (.int .i64 r.s) := hcr 0 (by decide)
             have c1 : wr.cell? ⟨b, off + k * 11 + 1, none⟩ = some (.int .i64 r.g) := hcr 1 (by decide)
             have c2 : wr.cell? ⟨b, off + k * 11 + 2, none⟩ = some (.int .i64 r.m) := hcr 2 (by decide)
             have c3 : wr.cell? ⟨b, off + k * 11 + 3, none⟩ = some (.int .i64 (r.f 0)) := hcr 3 (by decide)
             have c4 : wr.cell? ⟨b, off + k * 11 + 4, none⟩ = some (.int .i64 (r.f 1)) := hcr 4 (by decide)
             have c5 : wr.cell? ⟨b, off + k * 11 + 5, none⟩ = some (.int .i64 (r.f 2)) := hcr 5 (by decide)
             have c6 : wr.cell? ⟨b, off + k * 11 + 6, none⟩ = some (.int .i64 (r.f 3)) := hcr 6 (by decide)
             have c7 : wr.cell? ⟨b, off + k * 11 + 7, none⟩ = some (.int .i64 (r.f 4)) := hcr 7 (by decide)
             have c8 : wr.cell? ⟨b, off + k * 11 + 8, none⟩ = some (.int .i64 (r.f 5)) := hcr 8 (by decide)
             have c9 : wr.cell? ⟨b, off + k * 11 + 9, none⟩ = some (.int .i64 (r.f 6)) := hcr 9 (by decide)
             have c10 : wr.cell? ⟨b, off + k * 11 + 10, none⟩ = some (.int .i64 (r.f 7)) := hcr 10 (by decide)
             have d0 : wr.cell? ⟨b', off' + k * 11, none⟩ = some (.int .i64 r.s) := hcr' 0 (by decide)
             have d1 : wr.cell? ⟨b', off' + k * 11 + 1, none⟩ = some (.int .i64 r.g) := hcr' 1 (by decide)
             have d2 : wr.cell? ⟨b', off' + k * 11 + 2, none⟩ = some (.int .i64 r.m) := hcr' 2 (by decide)
             have d3 : wr.cell? ⟨b', off' + k * 11 + 3, none⟩ = some (.int .i64 (r.f 0)) := hcr' 3 (by decide)
             have d4 : wr.cell? ⟨b', off' + k * 11 + 4, none⟩ = some (.int .i64 (r.f 1)) := hcr' 4 (by decide)
             have d5 : wr.cell? ⟨b', off' + k * 11 + 5, none⟩ = some (.int .i64 (r.f 2)) := hcr' 5 (by decide)
             have d6 : wr.cell? ⟨b', off' + k * 11 + 6, none⟩ = some (.int .i64 (r.f 3)) := hcr' 6 (by decide)
             have d7 : wr.cell? ⟨b', off' + k * 11 + 7, none⟩ = some (.int .i64 (r.f 4)) := hcr' 7 (by decide)
             have d8 : wr.cell? ⟨b', off' + k * 11 + 8, none⟩ = some (.int .i64 (r.f 5)) := hcr' 8 (by decide)
             have d9 : wr.cell? ⟨b', off' + k * 11 + 9, none⟩ = some (.int .i64 (r.f 6)) := hcr' 9 (by decide)
             have d10 : wr.cell? ⟨b', off' + k * 11 + 10, none⟩ = some (.int .i64 (r.f 7)) := hcr' 10 (by decide)
             have hbw : b < wr.heap.size := Nat.lt_of_lt_of_le hb hB.out.size
             have hbw' : b' < wr.heap.size := Nat.lt_of_lt_of_le hb' hB.out.size
             have heq8 := eq8_run r.f
             clear hc hc' hcr hcr'
             go_wp2
             go_quiet (fail)
             go_wp2
             go_roundw
             case rel => exact ⟨k + 1, by omega, by go_num, nb_drewN (nb_alloc hB.out _)⟩
             case measure => simp [intOf]; omega)
      · obtain rfl : k = n := by omega
        go_wp2
        go_ret
        exact ⟨rfl, hB.out⟩
set_option maxHeartbeats 4000000 in
theorem refHasRow_any (v : Value) (ys : List Rw) (r : Rw) (w : World) (h : Reads elRow w v ys) (hu : ∀ y ∈ ys, y.s = r.s → y = r) :
    Calls Try.prog 28 #[v, .agg #[.int .i64 r.s, .int .i64 r.g, .int .i64 r.m, .int .i64 (r.f 0), .int .i64 (r.f 1), .int .i64 (r.f 2), .int .i64 (r.f 3), .int .i64 (r.f 4), .int .i64 (r.f 5), .int .i64 (r.f 6), .int .i64 (r.f 7)]] w fun e w' => e = .returned (.bool (ys.any (fun y => y.s == r.s))) ∧ Below w.heap.size w w' := by
  obtain ⟨hm, h⟩ := h.open
  unfold maxLen at hm
  have HU := Lib.hid hu
  generalize hn : ys.length = n at *
  have HN := Lib.hid hn
  clear hn hu
  rcases h with ⟨ad, cap, rfl, hz⟩ | ⟨bl, off, cap, rfl, hb, hlc, hcm, hc⟩
  all_goals
    go_enter Try.func28, Try.ntmps28
    go_wp2
    go_loopw [9] (fun i wr => ∃ k : Nat, k ≤ n ∧ i = .int .i64 k ∧ Hid (∀ j, j < k → ((ys.getD j rowZ).s == r.s) = false) ∧ Hid (Below (w.heap.size + 1) (w.alloc (.cells #[.int .i64 r.s, .int .i64 r.g, .int .i64 r.m, .int .i64 (r.f 0), .int .i64 (r.f 1), .int .i64 (r.f 2), .int .i64 (r.f 3), .int .i64 (r.f 4), .int .i64 (r.f 5), .int .i64 (r.f 6), .int .i64 (r.f 7)] 55)) wr)) (fun i _ => n - (intOf i).toNat)
    case atStart => exact ⟨0, by omega, rfl, fun j hj => by omega, Below.refl _ _⟩
    case round =>
      obtain ⟨k, hk, rfl, hno, hB⟩ := hrel
      have HBW : Hid (Below w.heap.size w wr) := Lib.hid ((nb_alloc (Below.refl _ _) _).trans (hB.out.mono (by omega)))
      by_cases hlt : k < n
      · first
          | omega
          | (have hcr : ∀ jj, jj < 11 → wr.cell? ⟨bl, off + k * 11 + jj, none⟩ = (elRow.enc (ys.getD k rowZ))[jj]? := fun jj hjj => by rw [HBW.out.cell (p := ⟨bl, _, none⟩) hb]; exact hc k hlt jj hjj
             have hxw : wr.heap[w.heap.size]? = some (.cells #[.int .i64 r.s, .int .i64 r.g, .int .i64 r.m, .int .i64 (r.f 0), .int .i64 (r.f 1), .int .i64 (r.f 2), .int .i64 (r.f 3), .int .i64 (r.f 4), .int .i64 (r.f 5), .int .i64 (r.f 6), .int .i64 (r.f 7)] 55) := by rw [hB.out.block _ (by omega)]; exact heap_alloc_new _ _
             have hsz : w.heap.size < wr.heap.size := (Array.getElem?_eq_some_iff.1 hxw).1
             have hbw : bl < wr.heap.size := Nat.lt_of_lt_of_le hb HBW.out.size
             have HG : Hid (ys.getD k rowZ ∈ ys) := Lib.hid (memD (by rw [HN.out]; exact hlt))
             have k0 : wr.cell? ⟨w.heap.size, 0, none⟩ = some (.int .i64 r.s) := by rw [cell_of_row _ _ _ _ _ _ hxw]; rfl
             have k1 : wr.cell? ⟨w.heap.size, 1, none⟩ = some (.int .i64 r.g) := by rw [cell_of_row _ _ _ _ _ _ hxw]; rfl
             have k2 : wr.cell? ⟨w.heap.size, 2, none⟩ = some (.int .i64 r.m) := by rw [cell_of_row _ _ _ _ _ _ hxw]; rfl
             have k3 : wr.cell? ⟨w.heap.size, 3, none⟩ = some (.int .i64 (r.f 0)) := by rw [cell_of_row _ _ _ _ _ _ hxw]; rfl
             have k4 : wr.cell? ⟨w.heap.size, 4, none⟩ = some (.int .i64 (r.f 1)) := by rw [cell_of_row _ _ _ _ _ _ hxw]; rfl
             have k5 : wr.cell? ⟨w.heap.size, 5, none⟩ = some (.int .i64 (r.f 2)) := by rw [cell_of_row _ _ _ _ _ _ hxw]; rfl
             have k6 : wr.cell? ⟨w.heap.size, 6, none⟩ = some (.int .i64 (r.f 3)) := by rw [cell_of_row _ _ _ _ _ _ hxw]; rfl
             have k7 : wr.cell? ⟨w.heap.size, 7, none⟩ = some (.int .i64 (r.f 4)) := by rw [cell_of_row _ _ _ _ _ _ hxw]; rfl
             have k8 : wr.cell? ⟨w.heap.size, 8, none⟩ = some (.int .i64 (r.f 5)) := by rw [cell_of_row _ _ _ _ _ _ hxw]; rfl
             have k9 : wr.cell? ⟨w.heap.size, 9, none⟩ = some (.int .i64 (r.f 6)) := by rw [cell_of_row _ _ _ _ _ _ hxw]; rfl
             have k10 : wr.cell? ⟨w.heap.size, 10, none⟩ = some (.int .i64 (r.f 7)) := by rw [cell_of_row _ _ _ _ _ _ hxw]; rfl
             clear hc hxw
             generalize hy : ys.getD k rowZ = y at *
             have HY := Lib.hid hy
             clear hy
             cases h1 : (r.s == y.s)
             · skip
               have c0 : wr.cell? ⟨bl, off + k * 11, none⟩ = some (.int .i64 y.s) := hcr 0 (by decide)
               have c1 : wr.cell? ⟨bl, off + k * 11 + 1, none⟩ = some (.int .i64 y.g) := hcr 1 (by decide)
               have c2 : wr.cell? ⟨bl, off + k * 11 + 2, none⟩ = some (.int .i64 y.m) := hcr 2 (by decide)
               have c3 : wr.cell? ⟨bl, off + k * 11 + 3, none⟩ = some (.int .i64 (y.f 0)) := hcr 3 (by decide)
               have c4 : wr.cell? ⟨bl, off + k * 11 + 4, none⟩ = some (.int .i64 (y.f 1)) := hcr 4 (by decide)
               have c5 : wr.cell? ⟨bl, off + k * 11 + 5, none⟩ = some (.int .i64 (y.f 2)) := hcr 5 (by decide)
               have c6 : wr.cell? ⟨bl, off + k * 11 + 6, none⟩ = some (.int .i64 (y.f 3)) := hcr 6 (by decide)
               have c7 : wr.cell? ⟨bl, off + k * 11 + 7, none⟩ = some (.int .i64 (y.f 4)) := hcr 7 (by decide)
               have c8 : wr.cell? ⟨bl, off + k * 11 + 8, none⟩ = some (.int .i64 (y.f 5)) := hcr 8 (by decide)
               have c9 : wr.cell? ⟨bl, off + k * 11 + 9, none⟩ = some (.int .i64 (y.f 6)) := hcr 9 (by decide)
               have c10 : wr.cell? ⟨bl, off + k * 11 + 10, none⟩ = some (.int .i64 (y.f 7)) := hcr 10 (by decide)
               clear hcr
               go_wp2
               go_roundw
               case rel => exact ⟨k + 1, by omega, by go_num, fun j hj => if e : j = k then by rw [e, HY.out, Bool.beq_comm]; exact h1 else hno.out j (by omega), hB.out.alloc (by omega) _⟩
               case measure => simp [intOf]; omega
             · obtain rfl : y = r := HU.out y HG.out (eq_of_beq h1).symm
               have c0 : wr.cell? ⟨bl, off + k * 11, none⟩ = some (.int .i64 y.s) := hcr 0 (by decide)
               have c1 : wr.cell? ⟨bl, off + k * 11 + 1, none⟩ = some (.int .i64 y.g) := hcr 1 (by decide)
               have c2 : wr.cell? ⟨bl, off + k * 11 + 2, none⟩ = some (.int .i64 y.m) := hcr 2 (by decide)
               have c3 : wr.cell? ⟨bl, off + k * 11 + 3, none⟩ = some (.int .i64 (y.f 0)) := hcr 3 (by decide)
               have c4 : wr.cell? ⟨bl, off + k * 11 + 4, none⟩ = some (.int .i64 (y.f 1)) := hcr 4 (by decide)
               have c5 : wr.cell? ⟨bl, off + k * 11 + 5, none⟩ = some (.int .i64 (y.f 2)) := hcr 5 (by decide)
               have c6 : wr.cell? ⟨bl, off + k * 11 + 6, none⟩ = some (.int .i64 (y.f 3)) := hcr 6 (by decide)
               have c7 : wr.cell? ⟨bl, off + k * 11 + 7, none⟩ = some (.int .i64 (y.f 4)) := hcr 7 (by decide)
               have c8 : wr.cell? ⟨bl, off + k * 11 + 8, none⟩ = some (.int .i64 (y.f 5)) := hcr 8 (by decide)
               have c9 : wr.cell? ⟨bl, off + k * 11 + 9, none⟩ = some (.int .i64 (y.f 6)) := hcr 9 (by decide)
               have c10 : wr.cell? ⟨bl, off + k * 11 + 10, none⟩ = some (.int .i64 (y.f 7)) := hcr 10 (by decide)
               have heq8 := eq8_run y.f
               clear hcr
               go_wp2
               go_ret
               exact ⟨ret_bool (List.any_eq_true.2 ⟨y, HG.out, by simp⟩).symm, nb_alloc HBW.out _⟩)
      · obtain rfl : k = n := by omega
        go_wp2
        go_ret
        exact ⟨ret_bool (List.any_eq_false.2 (fun x hx => by
          obtain ⟨j, hj, e⟩ := List.getElem_of_mem hx
          have := hno.out j (by rw [← HN.out]; exact hj)
          rw [List.getD_eq_getElem?_getD, List.getElem?_eq_getElem hj, Option.getD_some, e] at this
          rw [this]; decide)).symm, HBW.out⟩
end Go.Proofs.Ytakoejopgdaknaa

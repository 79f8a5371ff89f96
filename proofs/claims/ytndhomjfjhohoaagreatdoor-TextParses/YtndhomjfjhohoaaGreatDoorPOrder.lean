
/- Rows and bonds in order: text.inOrder. -/
import Derived.Test.YtndhomjfjhohoaaGreatDoorPText
import Derived.Test.YtndhomjfjhohoaaGreatDoorGroundF
import Derived.Test.YtndhomjfjhohoaaGreatDoorGroundH
import Derived.Test.YtndhomjfjhohoaaGreatDoorGroundB
namespace Go.Proofs.YtndhomjfjhohoaaGreatDoor
set_option maxRecDepth 8000
set_option maxRecDepth 8000
open Go.RowKit

theorem up_of : ∀ {xs : List Int}, (∀ j, j + 1 < xs.length → xs.getD j 0 ≤ xs.getD (j + 1) 0) → xs.Pairwise (· ≤ ·)
  | [], _ => .nil
  | [a], _ => by simp
  | a :: b :: l, h => by
    have ih := up_of (xs := b :: l) (fun j hj => by have := h (j + 1) (by simpa using hj); simpa using this)
    have h0 : a ≤ b := by have := h 0 (by simp); simpa using this
    refine List.pairwise_cons.2 ⟨fun z hz => ?_, ih⟩
    rcases List.mem_cons.1 hz with rfl | hz
    · exact h0
    · exact Int.le_trans h0 ((List.pairwise_cons.1 ih).1 z hz)
theorem up_not {xs : List Int} {j : Nat} (hj : j + 1 < xs.length) (h : xs.getD (j + 1) 0 < xs.getD j 0) : ¬ xs.Pairwise (· ≤ ·) := fun hp => by
  have := List.pairwise_iff_getElem.1 hp j (j + 1) (by omega) hj (by omega)
  rw [List.getD_eq_getElem?_getD, List.getD_eq_getElem?_getD, List.getElem?_eq_getElem hj, List.getElem?_eq_getElem (show j < xs.length by omega)] at h
  simp at h; omega
theorem lRowL {W0 W : World} {B O : Nat} {r : Rw} (hb : Below W0.heap.size W0 W) (hB : B < W0.heap.size) (h : ∀ j, j < 11 → W0.cell? ⟨B, O + j, none⟩ = (elRow.enc r)[j]?) (n : Later W) : ∀ j, j < 11 → n.w.cell? ⟨B, O + j, none⟩ = (elRow.enc r)[j]? := fun j hj => by
  rw [(nb_trans hb n.below).cell (p := ⟨B, O + j, none⟩) hB]; exact h j hj

set_option maxHeartbeats 1000000 in
theorem rowSlot_any (r : Rw) (w : World) : Calls Tryz.prog 21 #[.agg #[.int .i64 r.s, .int .i64 r.g, .int .i64 r.m, .int .i64 (r.f 0), .int .i64 (r.f 1), .int .i64 (r.f 2), .int .i64 (r.f 3), .int .i64 (r.f 4), .int .i64 (r.f 5), .int .i64 (r.f 6), .int .i64 (r.f 7)]] w fun e w' => e = .returned (.int .i64 r.s) ∧ Below w.heap.size w w' := by
  have hb : Below w.heap.size w (w.alloc (.cells #[.int .i64 r.s, .int .i64 r.g, .int .i64 r.m, .int .i64 (r.f 0), .int .i64 (r.f 1), .int .i64 (r.f 2), .int .i64 (r.f 3), .int .i64 (r.f 4), .int .i64 (r.f 5), .int .i64 (r.f 6), .int .i64 (r.f 7)] 54)) := nb_alloc (Below.refl _ _) _
  have HB := Lib.hid hb
  clear hb
  go_enter Tryz.func21, Tryz.ntmps21
  go_wp2
  go_ret
  exact ⟨rfl, HB.out⟩
set_option maxHeartbeats 2000000 in
theorem ordLitR (x y : Rw) (q : Nat) (w : World) (hq : w.cell? ⟨q, 0, none⟩ = some (.func (.func 21) #[] #[])) :
    Calls Tryz.prog 56 #[.agg #[.int .i64 x.s, .int .i64 x.g, .int .i64 x.m, .int .i64 (x.f 0), .int .i64 (x.f 1), .int .i64 (x.f 2), .int .i64 (x.f 3), .int .i64 (x.f 4), .int .i64 (x.f 5), .int .i64 (x.f 6), .int .i64 (x.f 7)], .agg #[.int .i64 y.s, .int .i64 y.g, .int .i64 y.m, .int .i64 (y.f 0), .int .i64 (y.f 1), .int .i64 (y.f 2), .int .i64 (y.f 3), .int .i64 (y.f 4), .int .i64 (y.f 5), .int .i64 (y.f 6), .int .i64 (y.f 7)], .pointer (some ⟨q, 0, none⟩)] w fun e w' => e = .returned (.int .i64 (Lib.compareInt x.s y.s)) ∧ Below w.heap.size w w' := by
  have hcon := fun W' => AnyG.cmp_Compare_int cmpLay x.s y.s W'
  change ∀ W', Calls Tryz.prog 57 _ _ _ at hcon
  generalize Lib.compareInt x.s y.s = r at hcon ⊢
  have hX : Below w.heap.size w ((w.alloc (.cells #[.int .i64 x.s, .int .i64 x.g, .int .i64 x.m, .int .i64 (x.f 0), .int .i64 (x.f 1), .int .i64 (x.f 2), .int .i64 (x.f 3), .int .i64 (x.f 4), .int .i64 (x.f 5), .int .i64 (x.f 6), .int .i64 (x.f 7)] 54)).alloc (.cells #[.int .i64 y.s, .int .i64 y.g, .int .i64 y.m, .int .i64 (y.f 0), .int .i64 (y.f 1), .int .i64 (y.f 2), .int .i64 (y.f 3), .int .i64 (y.f 4), .int .i64 (y.f 5), .int .i64 (y.f 6), .int .i64 (y.f 7)] 54)) := nb_alloc (nb_alloc (Below.refl _ _) _) _
  have hx := heap_alloc2_old w (.cells #[.int .i64 x.s, .int .i64 x.g, .int .i64 x.m, .int .i64 (x.f 0), .int .i64 (x.f 1), .int .i64 (x.f 2), .int .i64 (x.f 3), .int .i64 (x.f 4), .int .i64 (x.f 5), .int .i64 (x.f 6), .int .i64 (x.f 7)] 54) (.cells #[.int .i64 y.s, .int .i64 y.g, .int .i64 y.m, .int .i64 (y.f 0), .int .i64 (y.f 1), .int .i64 (y.f 2), .int .i64 (y.f 3), .int .i64 (y.f 4), .int .i64 (y.f 5), .int .i64 (y.f 6), .int .i64 (y.f 7)] 54)
  have hy := heap_alloc2_new w (.cells #[.int .i64 x.s, .int .i64 x.g, .int .i64 x.m, .int .i64 (x.f 0), .int .i64 (x.f 1), .int .i64 (x.f 2), .int .i64 (x.f 3), .int .i64 (x.f 4), .int .i64 (x.f 5), .int .i64 (x.f 6), .int .i64 (x.f 7)] 54) (.cells #[.int .i64 y.s, .int .i64 y.g, .int .i64 y.m, .int .i64 (y.f 0), .int .i64 (y.f 1), .int .i64 (y.f 2), .int .i64 (y.f 3), .int .i64 (y.f 4), .int .i64 (y.f 5), .int .i64 (y.f 6), .int .i64 (y.f 7)] 54)
  have hql := World.block_lt_of_cell? _ _ hq
  have hqX : ((w.alloc (.cells #[.int .i64 x.s, .int .i64 x.g, .int .i64 x.m, .int .i64 (x.f 0), .int .i64 (x.f 1), .int .i64 (x.f 2), .int .i64 (x.f 3), .int .i64 (x.f 4), .int .i64 (x.f 5), .int .i64 (x.f 6), .int .i64 (x.f 7)] 54)).alloc (.cells #[.int .i64 y.s, .int .i64 y.g, .int .i64 y.m, .int .i64 (y.f 0), .int .i64 (y.f 1), .int .i64 (y.f 2), .int .i64 (y.f 3), .int .i64 (y.f 4), .int .i64 (y.f 5), .int .i64 (y.f 6), .int .i64 (y.f 7)] 54)).cell? ⟨q, 0, none⟩ = some (.func (.func 21) #[] #[]) := by rw [hX.cell (p := ⟨q, 0, none⟩) hql]; exact hq
  have HC : Hid (∀ n : Later ((w.alloc (.cells #[.int .i64 x.s, .int .i64 x.g, .int .i64 x.m, .int .i64 (x.f 0), .int .i64 (x.f 1), .int .i64 (x.f 2), .int .i64 (x.f 3), .int .i64 (x.f 4), .int .i64 (x.f 5), .int .i64 (x.f 6), .int .i64 (x.f 7)] 54)).alloc (.cells #[.int .i64 y.s, .int .i64 y.g, .int .i64 y.m, .int .i64 (y.f 0), .int .i64 (y.f 1), .int .i64 (y.f 2), .int .i64 (y.f 3), .int .i64 (y.f 4), .int .i64 (y.f 5), .int .i64 (y.f 6), .int .i64 (y.f 7)] 54)), Calls Tryz.prog 57 #[.int .i64 x.s, .int .i64 y.s] n.w fun e w' => e = .returned (.int .i64 r) ∧ Below n.w.heap.size n.w w') := Lib.hid (fun n => (hcon n.w).mono fun e w' ⟨he, hw⟩ => ⟨he, by rw [hw]; exact Below.refl _ _⟩)
  have HX := Lib.hid hX
  have HXX := Lib.hid hx
  have HYY := Lib.hid hy
  have HQ := Lib.hid hqX
  clear hcon hX hx hy hqX
  go_enter Tryz.func56, Tryz.ntmps56
  go_wp2_with fail
  clear hq
  generalize (w.alloc (.cells #[.int .i64 x.s, .int .i64 x.g, .int .i64 x.m, .int .i64 (x.f 0), .int .i64 (x.f 1), .int .i64 (x.f 2), .int .i64 (x.f 3), .int .i64 (x.f 4), .int .i64 (x.f 5), .int .i64 (x.f 6), .int .i64 (x.f 7)] 54)).alloc (.cells #[.int .i64 y.s, .int .i64 y.g, .int .i64 y.m, .int .i64 (y.f 0), .int .i64 (y.f 1), .int .i64 (y.f 2), .int .i64 (y.f 3), .int .i64 (y.f 4), .int .i64 (y.f 5), .int .i64 (y.f 6), .int .i64 (y.f 7)] 54) = X at *
  have kq : ∀ n : Later X, n.w.cell? ⟨q, 0, none⟩ = some (.func (.func 21) #[] #[]) := fun n => n.cell HQ.out
  obtain ⟨kx0, kx1, kx2, kx3, kx4, kx5, kx6, kx7, kx8, kx9, kx10⟩ := laterR (r := x) HXX.out
  obtain ⟨ky0, ky1, ky2, ky3, ky4, ky5, ky6, ky7, ky8, ky9, ky10⟩ := laterR (r := y) HYY.out
  refine wp_region_later (by kernel_rfl) (by kernel_rfl) ?_
  repeat (go_big_quiet_step ((first | (go_at_call 21; first | with_reducible exact Calls.later (rowSlot_any x _) | with_reducible exact Calls.later (rowSlot_any y _)) | (go_at_call 57; exact Calls.later (HC.out _)))))
  refine wpQuiet_nil ?_
  rintro _ ⟨nq, rfl⟩
  have HB := Lib.hid (nb_trans HX.out nq.below)
  go_wp2
  go_ret
  exact ⟨rfl, HB.out⟩
set_option maxHeartbeats 2000000 in
theorem sortedR_any (v : Value) (xs : List Rw) (q : Nat) (w : World) (hr : Reads elRow w v xs) (hq : w.cell? ⟨q, 0, none⟩ = some (.func (.func 21) #[] #[])) :
    Calls Tryz.prog 55 #[v, .func (.func 56) #[] #[.pointer (some ⟨q, 0, none⟩)]] w fun e w' => e = .returned (.bool (upS xs)) ∧ Below w.heap.size w w' := by
  obtain ⟨a, c, rfl, hlc, hm, hcc⟩ := hr
  unfold maxLen at hm
  have HC := Lib.hid hcc
  have hql := World.block_lt_of_cell? _ _ hq
  have HQ := Lib.hid hq
  generalize hn : xs.length = N at *
  have HN := Lib.hid hn
  clear hn hcc hq
  go_enter Tryz.func55, Tryz.ntmps55
  go_wp2
  go_loopw [5] (fun s5 wr => ∃ (iz : Int) (t : Nat), s5 = .int .i64 iz ∧ (0 < iz → iz = t ∧ t < N) ∧ (¬ 0 < iz → t = 0) ∧ t ≤ N ∧ Hid (∀ j, t ≤ j → j + 1 < N → (xs.map fun z => z.s).getD j 0 ≤ (xs.map fun z => z.s).getD (j + 1) 0) ∧ Hid (Below w.heap.size w wr)) (fun s5 _ => (intOf s5).toNat)
  case atStart => exact ⟨(N : Int) - 1, N - 1, rfl, fun h => ⟨by omega, by omega⟩, fun h => by omega, by omega, Lib.hid (fun j h1 h2 => by omega), Lib.hid (Below.refl _ _)⟩
  case round =>
    obtain ⟨iz, t, rfl, h1, h2, htN, hp, hB⟩ := hrel
    by_cases hlt : 0 < iz
    · obtain ⟨rfl, htl⟩ := h1 hlt
      obtain ⟨u, rfl⟩ : ∃ u, t = u + 1 := ⟨t - 1, by omega⟩
      clear h1 h2
      have hqz : ((u + 1 : Nat) : Int) = (u : Int) + 1 := by omega
      rw [hqz] at hlt ⊢
      obtain ⟨b, off, rfl, hb, hc1⟩ := HC.out (u + 1) htl
      obtain ⟨b2, off2, e2, -, hc0⟩ := HC.out u (by omega)
      simp only [Option.some.injEq, Addr.mk.injEq, and_true] at e2
      obtain ⟨rfl, rfl⟩ := e2
      obtain ⟨x, hx⟩ : ∃ x, xs.getD (u + 1) rowZ = x := ⟨_, rfl⟩
      obtain ⟨y, hy⟩ : ∃ y, xs.getD u rowZ = y := ⟨_, rfl⟩
      have hkx : (xs.map fun z => z.s).getD (u + 1) 0 = x.s := by rw [← hx]; simp [List.getD_eq_getElem?_getD, List.getElem?_eq_getElem (show u + 1 < xs.length by rw [HN.out]; exact htl)]
      have hky : (xs.map fun z => z.s).getD u 0 = y.s := by rw [← hy]; simp [List.getD_eq_getElem?_getD, List.getElem?_eq_getElem (show u < xs.length by rw [HN.out]; omega)]
      have hcx : ∀ j, j < 11 → w.cell? ⟨b, off + (u + 1) * 11 + j, none⟩ = (elRow.enc x)[j]? := fun j hj => by rw [← hx]; exact hc1 j hj
      have hcy : ∀ j, j < 11 → w.cell? ⟨b, off + u * 11 + j, none⟩ = (elRow.enc y)[j]? := fun j hj => by rw [← hy]; exact hc0 j hj
      have HKX := Lib.hid hkx
      have HKY := Lib.hid hky
      have hbw : ∀ n : Later wr, b < n.w.heap.size := fun n => Nat.lt_of_lt_of_le hb (Nat.le_trans hB.out.size n.below.size)
      have HLT : Hid (∀ n : Later wr, Calls Tryz.prog 56 #[.agg #[.int .i64 x.s, .int .i64 x.g, .int .i64 x.m, .int .i64 (x.f 0), .int .i64 (x.f 1), .int .i64 (x.f 2), .int .i64 (x.f 3), .int .i64 (x.f 4), .int .i64 (x.f 5), .int .i64 (x.f 6), .int .i64 (x.f 7)], .agg #[.int .i64 y.s, .int .i64 y.g, .int .i64 y.m, .int .i64 (y.f 0), .int .i64 (y.f 1), .int .i64 (y.f 2), .int .i64 (y.f 3), .int .i64 (y.f 4), .int .i64 (y.f 5), .int .i64 (y.f 6), .int .i64 (y.f 7)], .pointer (some ⟨q, 0, none⟩)] n.w fun e w' => e = .returned (.int .i64 (Lib.compareInt x.s y.s)) ∧ Below n.w.heap.size n.w w') := Lib.hid (fun n => ordLitR x y q n.w (by rw [(nb_trans hB.out n.below).cell (p := ⟨q, 0, none⟩) hql]; exact HQ.out))
      have HCMP : Hid (decide (Lib.compareInt x.s y.s < 0) = decide (x.s < y.s)) := Lib.hid (by
        unfold Lib.compareInt
        by_cases h1 : x.s < y.s
        · simp [h1]
        · by_cases h2 : y.s < x.s <;> simp [h1, h2])
      generalize Lib.compareInt x.s y.s = r at HLT HCMP
      have kx0 : ∀ n : Later wr, n.w.cell? ⟨b, off + (u + 1) * 11, none⟩ = some (.int .i64 x.s) := fun n => lRowL hB.out hb hcx n 0 (by decide)
      have kx1 : ∀ n : Later wr, n.w.cell? ⟨b, off + (u + 1) * 11 + 1, none⟩ = some (.int .i64 x.g) := fun n => lRowL hB.out hb hcx n 1 (by decide)
      have kx2 : ∀ n : Later wr, n.w.cell? ⟨b, off + (u + 1) * 11 + 2, none⟩ = some (.int .i64 x.m) := fun n => lRowL hB.out hb hcx n 2 (by decide)
      have kx3 : ∀ n : Later wr, n.w.cell? ⟨b, off + (u + 1) * 11 + 3, none⟩ = some (.int .i64 (x.f 0)) := fun n => lRowL hB.out hb hcx n 3 (by decide)
      have kx4 : ∀ n : Later wr, n.w.cell? ⟨b, off + (u + 1) * 11 + 4, none⟩ = some (.int .i64 (x.f 1)) := fun n => lRowL hB.out hb hcx n 4 (by decide)
      have kx5 : ∀ n : Later wr, n.w.cell? ⟨b, off + (u + 1) * 11 + 5, none⟩ = some (.int .i64 (x.f 2)) := fun n => lRowL hB.out hb hcx n 5 (by decide)
      have kx6 : ∀ n : Later wr, n.w.cell? ⟨b, off + (u + 1) * 11 + 6, none⟩ = some (.int .i64 (x.f 3)) := fun n => lRowL hB.out hb hcx n 6 (by decide)
      have kx7 : ∀ n : Later wr, n.w.cell? ⟨b, off + (u + 1) * 11 + 7, none⟩ = some (.int .i64 (x.f 4)) := fun n => lRowL hB.out hb hcx n 7 (by decide)
      have kx8 : ∀ n : Later wr, n.w.cell? ⟨b, off + (u + 1) * 11 + 8, none⟩ = some (.int .i64 (x.f 5)) := fun n => lRowL hB.out hb hcx n 8 (by decide)
      have kx9 : ∀ n : Later wr, n.w.cell? ⟨b, off + (u + 1) * 11 + 9, none⟩ = some (.int .i64 (x.f 6)) := fun n => lRowL hB.out hb hcx n 9 (by decide)
      have kx10 : ∀ n : Later wr, n.w.cell? ⟨b, off + (u + 1) * 11 + 10, none⟩ = some (.int .i64 (x.f 7)) := fun n => lRowL hB.out hb hcx n 10 (by decide)
      have ky0 : ∀ n : Later wr, n.w.cell? ⟨b, off + u * 11, none⟩ = some (.int .i64 y.s) := fun n => lRowL hB.out hb hcy n 0 (by decide)
      have ky1 : ∀ n : Later wr, n.w.cell? ⟨b, off + u * 11 + 1, none⟩ = some (.int .i64 y.g) := fun n => lRowL hB.out hb hcy n 1 (by decide)
      have ky2 : ∀ n : Later wr, n.w.cell? ⟨b, off + u * 11 + 2, none⟩ = some (.int .i64 y.m) := fun n => lRowL hB.out hb hcy n 2 (by decide)
      have ky3 : ∀ n : Later wr, n.w.cell? ⟨b, off + u * 11 + 3, none⟩ = some (.int .i64 (y.f 0)) := fun n => lRowL hB.out hb hcy n 3 (by decide)
      have ky4 : ∀ n : Later wr, n.w.cell? ⟨b, off + u * 11 + 4, none⟩ = some (.int .i64 (y.f 1)) := fun n => lRowL hB.out hb hcy n 4 (by decide)
      have ky5 : ∀ n : Later wr, n.w.cell? ⟨b, off + u * 11 + 5, none⟩ = some (.int .i64 (y.f 2)) := fun n => lRowL hB.out hb hcy n 5 (by decide)
      have ky6 : ∀ n : Later wr, n.w.cell? ⟨b, off + u * 11 + 6, none⟩ = some (.int .i64 (y.f 3)) := fun n => lRowL hB.out hb hcy n 6 (by decide)
      have ky7 : ∀ n : Later wr, n.w.cell? ⟨b, off + u * 11 + 7, none⟩ = some (.int .i64 (y.f 4)) := fun n => lRowL hB.out hb hcy n 7 (by decide)
      have ky8 : ∀ n : Later wr, n.w.cell? ⟨b, off + u * 11 + 8, none⟩ = some (.int .i64 (y.f 5)) := fun n => lRowL hB.out hb hcy n 8 (by decide)
      have ky9 : ∀ n : Later wr, n.w.cell? ⟨b, off + u * 11 + 9, none⟩ = some (.int .i64 (y.f 6)) := fun n => lRowL hB.out hb hcy n 9 (by decide)
      have ky10 : ∀ n : Later wr, n.w.cell? ⟨b, off + u * 11 + 10, none⟩ = some (.int .i64 (y.f 7)) := fun n => lRowL hB.out hb hcy n 10 (by decide)
      have hu0 : (0 : Int) ≤ (u : Int) := by omega
      have huN : (u : Int) + 1 < (N : Int) := by omega
      have huN' : (u : Int) < (N : Int) := by omega
      clear hx hy hkx hky hcx hcy hc0 hc1
      cases hrl : decide (r < 0)
      · have hrl' : ¬ r < 0 := by simpa using hrl
        have HP : Hid (∀ j, u ≤ j → j + 1 < N → (xs.map fun z => z.s).getD j 0 ≤ (xs.map fun z => z.s).getD (j + 1) 0) := Lib.hid (fun j h1 h2 => by
          by_cases e : j = u
          · subst e
            rw [HKX.out, HKY.out]
            have := HCMP.out; rw [hrl] at this
            have := of_decide_eq_false this.symm
            omega
          · exact hp.out j (by omega) h2)
        go_wp2_with fail
        refine wp_region_later (by kernel_rfl) (by kernel_rfl) ?_
        repeat (go_big_quiet_step ((go_at_call 56; exact Calls.later (HLT.out _))))
        refine wpQuiet_nil ?_
        rintro _ ⟨nq, rfl⟩
        have HBN := Lib.hid (nb_trans hB.out nq.below)
        go_wp2
        go_roundw
        case rel => exact ⟨(u : Int), u, by go_num, fun _ => ⟨rfl, by omega⟩, fun h => by omega, by omega, HP, HBN⟩
        case measure => simp [intOf]; try omega
      · have hrl' : r < 0 := by simpa using hrl
        have HE : Hid (upS xs = false) := Lib.hid (by
          have := HCMP.out; rw [hrl] at this
          have h3 := of_decide_eq_true this.symm
          exact decide_eq_false (up_not (j := u) (by rw [List.length_map, HN.out]; exact htl) (by rw [HKX.out, HKY.out]; exact h3)))
        go_wp2_with fail
        refine wp_region_later (by kernel_rfl) (by kernel_rfl) ?_
        repeat (go_big_quiet_step ((go_at_call 56; exact Calls.later (HLT.out _))))
        refine wpQuiet_nil ?_
        rintro _ ⟨nq, rfl⟩
        have HBN := Lib.hid (nb_trans hB.out nq.below)
        go_wp2
        go_ret
        exact ⟨ret_bool HE.out.symm, HBN.out⟩
    · obtain rfl := h2 hlt
      have HE : Hid (upS xs = true) := Lib.hid (decide_eq_true (up_of (fun j hj => hp.out j (by omega) (by rw [List.length_map, HN.out] at hj; exact hj))))
      go_wp2
      go_ret
      exact ⟨ret_bool HE.out.symm, hB.out⟩
set_option maxHeartbeats 1000000 in
theorem inOrderR_any (v : Value) (xs : List Rw) (w : World) (hr : Reads elRow w v xs) :
    Calls Tryz.prog 20 #[v, .func (.func 21) #[] #[]] w fun e w' => e = .returned (.bool (upS xs)) ∧ Below w.heap.size w w' := by
  have hX : Below w.heap.size w (w.alloc (.cells #[.func (.func 21) #[] #[]] 55)) := nb_alloc (Below.refl _ _) _
  have HX := Lib.hid hX
  have HS := Lib.hid (sortedR_any v xs w.heap.size _ (hr.later hX) (by simp))
  clear hr hX
  go_enter Tryz.func20, Tryz.ntmps20
  go_wp2_with (go_at_call 55; refine HS.out.mono ?_; rintro e w1 ⟨rfl, hb1⟩)
  go_ret
  exact ⟨rfl, nb_trans HX.out hb1⟩

set_option maxHeartbeats 1000000 in
theorem childSlot_any (r : Bd) (w : World) : Calls Tryz.prog 23 #[.agg #[.int .i64 r.1.1, .int .i64 r.1.2, .int .i64 r.2.1, .int .i64 r.2.2]] w fun e w' => e = .returned (.int .i64 r.1.1) ∧ Below w.heap.size w w' := by
  have hb : Below w.heap.size w (w.alloc (.cells #[.int .i64 r.1.1, .int .i64 r.1.2, .int .i64 r.2.1, .int .i64 r.2.2] 58)) := nb_alloc (Below.refl _ _) _
  have HB := Lib.hid hb
  clear hb
  go_enter Tryz.func23, Tryz.ntmps23
  go_wp2
  go_ret
  exact ⟨rfl, HB.out⟩
set_option maxHeartbeats 2000000 in
theorem ordLitB (x y : Bd) (q : Nat) (w : World) (hq : w.cell? ⟨q, 0, none⟩ = some (.func (.func 23) #[] #[])) :
    Calls Tryz.prog 59 #[.agg #[.int .i64 x.1.1, .int .i64 x.1.2, .int .i64 x.2.1, .int .i64 x.2.2], .agg #[.int .i64 y.1.1, .int .i64 y.1.2, .int .i64 y.2.1, .int .i64 y.2.2], .pointer (some ⟨q, 0, none⟩)] w fun e w' => e = .returned (.int .i64 (Lib.compareInt x.1.1 y.1.1)) ∧ Below w.heap.size w w' := by
  have hcon := fun W' => AnyG.cmp_Compare_int cmpLay x.1.1 y.1.1 W'
  change ∀ W', Calls Tryz.prog 57 _ _ _ at hcon
  generalize Lib.compareInt x.1.1 y.1.1 = r at hcon ⊢
  have hX : Below w.heap.size w ((w.alloc (.cells #[.int .i64 x.1.1, .int .i64 x.1.2, .int .i64 x.2.1, .int .i64 x.2.2] 58)).alloc (.cells #[.int .i64 y.1.1, .int .i64 y.1.2, .int .i64 y.2.1, .int .i64 y.2.2] 58)) := nb_alloc (nb_alloc (Below.refl _ _) _) _
  have hx := heap_alloc2_old w (.cells #[.int .i64 x.1.1, .int .i64 x.1.2, .int .i64 x.2.1, .int .i64 x.2.2] 58) (.cells #[.int .i64 y.1.1, .int .i64 y.1.2, .int .i64 y.2.1, .int .i64 y.2.2] 58)
  have hy := heap_alloc2_new w (.cells #[.int .i64 x.1.1, .int .i64 x.1.2, .int .i64 x.2.1, .int .i64 x.2.2] 58) (.cells #[.int .i64 y.1.1, .int .i64 y.1.2, .int .i64 y.2.1, .int .i64 y.2.2] 58)
  have hql := World.block_lt_of_cell? _ _ hq
  have hqX : ((w.alloc (.cells #[.int .i64 x.1.1, .int .i64 x.1.2, .int .i64 x.2.1, .int .i64 x.2.2] 58)).alloc (.cells #[.int .i64 y.1.1, .int .i64 y.1.2, .int .i64 y.2.1, .int .i64 y.2.2] 58)).cell? ⟨q, 0, none⟩ = some (.func (.func 23) #[] #[]) := by rw [hX.cell (p := ⟨q, 0, none⟩) hql]; exact hq
  have HC : Hid (∀ n : Later ((w.alloc (.cells #[.int .i64 x.1.1, .int .i64 x.1.2, .int .i64 x.2.1, .int .i64 x.2.2] 58)).alloc (.cells #[.int .i64 y.1.1, .int .i64 y.1.2, .int .i64 y.2.1, .int .i64 y.2.2] 58)), Calls Tryz.prog 57 #[.int .i64 x.1.1, .int .i64 y.1.1] n.w fun e w' => e = .returned (.int .i64 r) ∧ Below n.w.heap.size n.w w') := Lib.hid (fun n => (hcon n.w).mono fun e w' ⟨he, hw⟩ => ⟨he, by rw [hw]; exact Below.refl _ _⟩)
  have HX := Lib.hid hX
  have HXX := Lib.hid hx
  have HYY := Lib.hid hy
  have HQ := Lib.hid hqX
  clear hcon hX hx hy hqX
  go_enter Tryz.func59, Tryz.ntmps59
  go_wp2_with fail
  clear hq
  generalize (w.alloc (.cells #[.int .i64 x.1.1, .int .i64 x.1.2, .int .i64 x.2.1, .int .i64 x.2.2] 58)).alloc (.cells #[.int .i64 y.1.1, .int .i64 y.1.2, .int .i64 y.2.1, .int .i64 y.2.2] 58) = X at *
  have kq : ∀ n : Later X, n.w.cell? ⟨q, 0, none⟩ = some (.func (.func 23) #[] #[]) := fun n => n.cell HQ.out
  have kx0 : ∀ n : Later X, n.w.cell? ⟨w.heap.size, 0, none⟩ = some (.int .i64 x.1.1) := fun n => n.cell (by rw [cell_of_row _ _ _ _ _ _ HXX.out]; rfl)
  have kx1 : ∀ n : Later X, n.w.cell? ⟨w.heap.size, 1, none⟩ = some (.int .i64 x.1.2) := fun n => n.cell (by rw [cell_of_row _ _ _ _ _ _ HXX.out]; rfl)
  have kx2 : ∀ n : Later X, n.w.cell? ⟨w.heap.size, 2, none⟩ = some (.int .i64 x.2.1) := fun n => n.cell (by rw [cell_of_row _ _ _ _ _ _ HXX.out]; rfl)
  have kx3 : ∀ n : Later X, n.w.cell? ⟨w.heap.size, 3, none⟩ = some (.int .i64 x.2.2) := fun n => n.cell (by rw [cell_of_row _ _ _ _ _ _ HXX.out]; rfl)
  have ky0 : ∀ n : Later X, n.w.cell? ⟨w.heap.size + 1, 0, none⟩ = some (.int .i64 y.1.1) := fun n => n.cell (by rw [cell_of_row _ _ _ _ _ _ HYY.out]; rfl)
  have ky1 : ∀ n : Later X, n.w.cell? ⟨w.heap.size + 1, 1, none⟩ = some (.int .i64 y.1.2) := fun n => n.cell (by rw [cell_of_row _ _ _ _ _ _ HYY.out]; rfl)
  have ky2 : ∀ n : Later X, n.w.cell? ⟨w.heap.size + 1, 2, none⟩ = some (.int .i64 y.2.1) := fun n => n.cell (by rw [cell_of_row _ _ _ _ _ _ HYY.out]; rfl)
  have ky3 : ∀ n : Later X, n.w.cell? ⟨w.heap.size + 1, 3, none⟩ = some (.int .i64 y.2.2) := fun n => n.cell (by rw [cell_of_row _ _ _ _ _ _ HYY.out]; rfl)
  refine wp_region_later (by kernel_rfl) (by kernel_rfl) ?_
  repeat (go_big_quiet_step ((first | (go_at_call 23; first | with_reducible exact Calls.later (childSlot_any x _) | with_reducible exact Calls.later (childSlot_any y _)) | (go_at_call 57; exact Calls.later (HC.out _)))))
  refine wpQuiet_nil ?_
  rintro _ ⟨nq, rfl⟩
  have HB := Lib.hid (nb_trans HX.out nq.below)
  go_wp2
  go_ret
  exact ⟨rfl, HB.out⟩
set_option maxHeartbeats 2000000 in
theorem sortedB_any (v : Value) (xs : List Bd) (q : Nat) (w : World) (hr : Reads elBond w v xs) (hq : w.cell? ⟨q, 0, none⟩ = some (.func (.func 23) #[] #[])) :
    Calls Tryz.prog 58 #[v, .func (.func 59) #[] #[.pointer (some ⟨q, 0, none⟩)]] w fun e w' => e = .returned (.bool (upC xs)) ∧ Below w.heap.size w w' := by
  obtain ⟨a, c, rfl, hlc, hm, hcc⟩ := hr
  unfold maxLen at hm
  have HC := Lib.hid hcc
  have hql := World.block_lt_of_cell? _ _ hq
  have HQ := Lib.hid hq
  generalize hn : xs.length = N at *
  have HN := Lib.hid hn
  clear hn hcc hq
  go_enter Tryz.func58, Tryz.ntmps58
  go_wp2
  go_loopw [5] (fun s5 wr => ∃ (iz : Int) (t : Nat), s5 = .int .i64 iz ∧ (0 < iz → iz = t ∧ t < N) ∧ (¬ 0 < iz → t = 0) ∧ t ≤ N ∧ Hid (∀ j, t ≤ j → j + 1 < N → (xs.map fun z => z.1.1).getD j 0 ≤ (xs.map fun z => z.1.1).getD (j + 1) 0) ∧ Hid (Below w.heap.size w wr)) (fun s5 _ => (intOf s5).toNat)
  case atStart => exact ⟨(N : Int) - 1, N - 1, rfl, fun h => ⟨by omega, by omega⟩, fun h => by omega, by omega, Lib.hid (fun j h1 h2 => by omega), Lib.hid (Below.refl _ _)⟩
  case round =>
    obtain ⟨iz, t, rfl, h1, h2, htN, hp, hB⟩ := hrel
    by_cases hlt : 0 < iz
    · obtain ⟨rfl, htl⟩ := h1 hlt
      obtain ⟨u, rfl⟩ : ∃ u, t = u + 1 := ⟨t - 1, by omega⟩
      clear h1 h2
      have hqz : ((u + 1 : Nat) : Int) = (u : Int) + 1 := by omega
      rw [hqz] at hlt ⊢
      obtain ⟨b, off, rfl, hb, hc1⟩ := HC.out (u + 1) htl
      obtain ⟨b2, off2, e2, -, hc0⟩ := HC.out u (by omega)
      simp only [Option.some.injEq, Addr.mk.injEq, and_true] at e2
      obtain ⟨rfl, rfl⟩ := e2
      obtain ⟨x, hx⟩ : ∃ x, xs.getD (u + 1) bdZ = x := ⟨_, rfl⟩
      obtain ⟨y, hy⟩ : ∃ y, xs.getD u bdZ = y := ⟨_, rfl⟩
      have hkx : (xs.map fun z => z.1.1).getD (u + 1) 0 = x.1.1 := by rw [← hx]; simp [List.getD_eq_getElem?_getD, List.getElem?_eq_getElem (show u + 1 < xs.length by rw [HN.out]; exact htl)]
      have hky : (xs.map fun z => z.1.1).getD u 0 = y.1.1 := by rw [← hy]; simp [List.getD_eq_getElem?_getD, List.getElem?_eq_getElem (show u < xs.length by rw [HN.out]; omega)]
      have hcx : ∀ j, j < 4 → w.cell? ⟨b, off + (u + 1) * 4 + j, none⟩ = (elBond.enc x)[j]? := fun j hj => by rw [← hx]; exact hc1 j hj
      have hcy : ∀ j, j < 4 → w.cell? ⟨b, off + u * 4 + j, none⟩ = (elBond.enc y)[j]? := fun j hj => by rw [← hy]; exact hc0 j hj
      have HKX := Lib.hid hkx
      have HKY := Lib.hid hky
      have hbw : ∀ n : Later wr, b < n.w.heap.size := fun n => Nat.lt_of_lt_of_le hb (Nat.le_trans hB.out.size n.below.size)
      have HLT : Hid (∀ n : Later wr, Calls Tryz.prog 59 #[.agg #[.int .i64 x.1.1, .int .i64 x.1.2, .int .i64 x.2.1, .int .i64 x.2.2], .agg #[.int .i64 y.1.1, .int .i64 y.1.2, .int .i64 y.2.1, .int .i64 y.2.2], .pointer (some ⟨q, 0, none⟩)] n.w fun e w' => e = .returned (.int .i64 (Lib.compareInt x.1.1 y.1.1)) ∧ Below n.w.heap.size n.w w') := Lib.hid (fun n => ordLitB x y q n.w (by rw [(nb_trans hB.out n.below).cell (p := ⟨q, 0, none⟩) hql]; exact HQ.out))
      have HCMP : Hid (decide (Lib.compareInt x.1.1 y.1.1 < 0) = decide (x.1.1 < y.1.1)) := Lib.hid (by
        unfold Lib.compareInt
        by_cases h1 : x.1.1 < y.1.1
        · simp [h1]
        · by_cases h2 : y.1.1 < x.1.1 <;> simp [h1, h2])
      generalize Lib.compareInt x.1.1 y.1.1 = r at HLT HCMP
      have kx0 : ∀ n : Later wr, n.w.cell? ⟨b, off + (u + 1) * 4, none⟩ = some (.int .i64 x.1.1) := fun n => by rw [(nb_trans hB.out n.below).cell (p := ⟨b, off + (u + 1) * 4, none⟩) hb]; exact hcx 0 (by decide)
      have kx1 : ∀ n : Later wr, n.w.cell? ⟨b, off + (u + 1) * 4 + 1, none⟩ = some (.int .i64 x.1.2) := fun n => by rw [(nb_trans hB.out n.below).cell (p := ⟨b, off + (u + 1) * 4 + 1, none⟩) hb]; exact hcx 1 (by decide)
      have kx2 : ∀ n : Later wr, n.w.cell? ⟨b, off + (u + 1) * 4 + 2, none⟩ = some (.int .i64 x.2.1) := fun n => by rw [(nb_trans hB.out n.below).cell (p := ⟨b, off + (u + 1) * 4 + 2, none⟩) hb]; exact hcx 2 (by decide)
      have kx3 : ∀ n : Later wr, n.w.cell? ⟨b, off + (u + 1) * 4 + 3, none⟩ = some (.int .i64 x.2.2) := fun n => by rw [(nb_trans hB.out n.below).cell (p := ⟨b, off + (u + 1) * 4 + 3, none⟩) hb]; exact hcx 3 (by decide)
      have ky0 : ∀ n : Later wr, n.w.cell? ⟨b, off + u * 4, none⟩ = some (.int .i64 y.1.1) := fun n => by rw [(nb_trans hB.out n.below).cell (p := ⟨b, off + u * 4, none⟩) hb]; exact hcy 0 (by decide)
      have ky1 : ∀ n : Later wr, n.w.cell? ⟨b, off + u * 4 + 1, none⟩ = some (.int .i64 y.1.2) := fun n => by rw [(nb_trans hB.out n.below).cell (p := ⟨b, off + u * 4 + 1, none⟩) hb]; exact hcy 1 (by decide)
      have ky2 : ∀ n : Later wr, n.w.cell? ⟨b, off + u * 4 + 2, none⟩ = some (.int .i64 y.2.1) := fun n => by rw [(nb_trans hB.out n.below).cell (p := ⟨b, off + u * 4 + 2, none⟩) hb]; exact hcy 2 (by decide)
      have ky3 : ∀ n : Later wr, n.w.cell? ⟨b, off + u * 4 + 3, none⟩ = some (.int .i64 y.2.2) := fun n => by rw [(nb_trans hB.out n.below).cell (p := ⟨b, off + u * 4 + 3, none⟩) hb]; exact hcy 3 (by decide)
      have hu0 : (0 : Int) ≤ (u : Int) := by omega
      have huN : (u : Int) + 1 < (N : Int) := by omega
      have huN' : (u : Int) < (N : Int) := by omega
      clear hx hy hkx hky hcx hcy hc0 hc1
      cases hrl : decide (r < 0)
      · have hrl' : ¬ r < 0 := by simpa using hrl
        have HP : Hid (∀ j, u ≤ j → j + 1 < N → (xs.map fun z => z.1.1).getD j 0 ≤ (xs.map fun z => z.1.1).getD (j + 1) 0) := Lib.hid (fun j h1 h2 => by
          by_cases e : j = u
          · subst e
            rw [HKX.out, HKY.out]
            have := HCMP.out; rw [hrl] at this
            have := of_decide_eq_false this.symm
            omega
          · exact hp.out j (by omega) h2)
        go_wp2_with fail
        refine wp_region_later (by kernel_rfl) (by kernel_rfl) ?_
        repeat (go_big_quiet_step ((go_at_call 59; exact Calls.later (HLT.out _))))
        refine wpQuiet_nil ?_
        rintro _ ⟨nq, rfl⟩
        have HBN := Lib.hid (nb_trans hB.out nq.below)
        go_wp2
        go_roundw
        case rel => exact ⟨(u : Int), u, by go_num, fun _ => ⟨rfl, by omega⟩, fun h => by omega, by omega, HP, HBN⟩
        case measure => simp [intOf]; try omega
      · have hrl' : r < 0 := by simpa using hrl
        have HE : Hid (upC xs = false) := Lib.hid (by
          have := HCMP.out; rw [hrl] at this
          have h3 := of_decide_eq_true this.symm
          exact decide_eq_false (up_not (j := u) (by rw [List.length_map, HN.out]; exact htl) (by rw [HKX.out, HKY.out]; exact h3)))
        go_wp2_with fail
        refine wp_region_later (by kernel_rfl) (by kernel_rfl) ?_
        repeat (go_big_quiet_step ((go_at_call 59; exact Calls.later (HLT.out _))))
        refine wpQuiet_nil ?_
        rintro _ ⟨nq, rfl⟩
        have HBN := Lib.hid (nb_trans hB.out nq.below)
        go_wp2
        go_ret
        exact ⟨ret_bool HE.out.symm, HBN.out⟩
    · obtain rfl := h2 hlt
      have HE : Hid (upC xs = true) := Lib.hid (decide_eq_true (up_of (fun j hj => hp.out j (by omega) (by rw [List.length_map, HN.out] at hj; exact hj))))
      go_wp2
      go_ret
      exact ⟨ret_bool HE.out.symm, hB.out⟩
set_option maxHeartbeats 1000000 in
theorem inOrderB_any (v : Value) (xs : List Bd) (w : World) (hr : Reads elBond w v xs) :
    Calls Tryz.prog 22 #[v, .func (.func 23) #[] #[]] w fun e w' => e = .returned (.bool (upC xs)) ∧ Below w.heap.size w w' := by
  have hX : Below w.heap.size w (w.alloc (.cells #[.func (.func 23) #[] #[]] 59)) := nb_alloc (Below.refl _ _) _
  have HX := Lib.hid hX
  have HS := Lib.hid (sortedB_any v xs w.heap.size _ (hr.later hX) (by simp))
  clear hr hX
  go_enter Tryz.func22, Tryz.ntmps22
  go_wp2_with (go_at_call 58; refine HS.out.mono ?_; rintro e w1 ⟨rfl, hb1⟩)
  go_ret
  exact ⟨rfl, nb_trans HX.out hb1⟩
end Go.Proofs.YtndhomjfjhohoaaGreatDoor

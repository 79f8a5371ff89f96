/- The literal of ZooAtomic: the handle that is meant. -/
import Derived.Test.YtdpjpckknncleabGreatKeptZoo
namespace Go.Proofs.YtdpjpckknncleabGreat
set_option maxRecDepth 8000
set_option maxRecDepth 8000
open Go.RowKit

theorem lookH_ok {sp : List Hd} {h : Hd} (hs : ∀ y ∈ sp, okH y) (hh : okH h) : okH (lookH sp h) := by
  unfold lookH
  split
  · rename_i hc
    exact hs _ (memD (by omega))
  · exact hh
theorem lookO_ok {sp : List Hd} {o : Opm} (hs : ∀ y ∈ sp, okH y) (ho : OpOk o) : OpOk (lookO sp o) := by
  unfold lookO
  split
  · exact ho
  · have g1 : okH (o.a, o.b) := ⟨ho.1, ho.2.1⟩
    have g2 : okH (o.ta, o.tb) := ⟨ho.2.2.1, ho.2.2.2⟩
    have h1 := lookH_ok hs g1
    have h2 := lookH_ok hs g2
    exact ⟨h1.1, h1.2, h2.1, h2.2⟩

set_option maxHeartbeats 2000000 in
theorem again1_any (B : Nat) (u : Value) (sp : List Hd) (a b : Int) (w : World) (hB : w.heap[B]? = some (.cells #[u] 55)) (hr : Reads elHand w u sp) (hn : sp.length ≤ 80) :
    Calls Tryz.prog 15 #[.agg #[.int .i64 a, .int .i64 b], .pointer (some ⟨B, 0, none⟩)] w fun e w' => e = .returned (.agg #[.int .i64 (lookH sp (a, b)).1, .int .i64 (lookH sp (a, b)).2]) ∧ Below w.heap.size w w' := by
  obtain ⟨ra, rc, rfl, hlc, hm, hcc⟩ := hr
  unfold maxLen at hm
  have HC := Lib.hid hcc
  obtain ⟨n, hnn⟩ : ∃ n, sp.length = n := ⟨_, rfl⟩
  have HN := Lib.hid hnn
  rw [hnn] at hn hlc HC hB
  have hbl := (Array.getElem?_eq_some_iff.1 hB).1
  have cb : w.cell? ⟨B, 0, none⟩ = some (.slice ra n rc) := (cell_of_row _ _ _ _ _ _ hB).trans rfl
  have hb1 : B < w.heap.size + 1 := by omega
  have hb2 : B < w.heap.size + 1 + 1 := by omega
  have HB : Hid (∀ v0 v1, Below w.heap.size w (((w.alloc (.cells #[.int .i64 a, .int .i64 b] 34)).alloc (.cells #[v0, v1] 34)))) := Lib.hid (fun v0 v1 => nb_alloc (nb_alloc (Below.refl _ _) _) _)
  clear hcc hnn hB
  by_cases h0 : a < 0
  · by_cases h1 : -(n : Int) ≤ a
    · obtain ⟨j, rfl⟩ : ∃ j : Nat, a = -1 - (j : Int) := ⟨(-1 - a).toNat, by omega⟩
      have hj : j < n := by omega
      obtain ⟨bl, off, rfl, hb, hck⟩ := HC.out j hj
      obtain ⟨y, hy⟩ : ∃ y, sp.getD j (0, 0) = y := ⟨_, rfl⟩
      have HE : Hid (lookH sp (-1 - (j : Int), b) = y) := Lib.hid (by
        rw [lookH, if_pos ⟨by show -1 - (j : Int) < 0; omega, by rw [HN.out]; exact h1⟩, ← hy]
        congr 1
        show (-(-1 - (j : Int)) - 1).toNat = j
        omega)
      have hck' : ∀ jj, jj < 2 → w.cell? ⟨bl, off + j * 2 + jj, none⟩ = (elHand.enc y)[jj]? := fun jj hjj => by rw [← hy]; exact hck jj hjj
      obtain ⟨y1, y2⟩ := y
      have c0 : w.cell? ⟨bl, off + j * 2, none⟩ = some (.int .i64 y1) := hck' 0 (by decide)
      have c1 : w.cell? ⟨bl, off + j * 2 + 1, none⟩ = some (.int .i64 y2) := hck' 1 (by decide)
      have hbl1 : bl < w.heap.size + 1 := by omega
      have hbl2 : bl < w.heap.size + 1 + 1 := by omega
      have ej : -(-1 - (j : Int)) - 1 = (j : Int) := by omega
      have hj0 : (0 : Int) ≤ (j : Int) := by omega
      have hjN : (j : Int) < (n : Int) := by omega
      clear hck hck' hy
      go_enter Tryz.func15, Tryz.ntmps15
      go_wp2
      refine bodyPost_ret (v := .agg #[.int .i64 y1, .int .i64 y2]) (by simp [results, Tryz.results15, go_sem]) rfl ⟨by rw [HE.out], ?_⟩
      exact HB.out _ _
    · have HE : Hid (lookH sp (a, b) = (a, b)) := Lib.hid (by rw [lookH, if_neg]; rintro ⟨-, h2⟩; rw [HN.out] at h2; exact h1 h2)
      go_enter Tryz.func15, Tryz.ntmps15
      go_wp2
      refine bodyPost_ret (v := .agg #[.int .i64 a, .int .i64 b]) (by simp [results, Tryz.results15, go_sem]) rfl ⟨by rw [HE.out], ?_⟩
      exact HB.out _ _
  · have HE : Hid (lookH sp (a, b) = (a, b)) := Lib.hid (by rw [lookH, if_neg]; rintro ⟨h2, -⟩; exact h0 h2)
    go_enter Tryz.func15, Tryz.ntmps15
    go_wp2
    refine bodyPost_ret (v := .agg #[.int .i64 a, .int .i64 b]) (by simp [results, Tryz.results15, go_sem]) rfl ⟨by rw [HE.out], ?_⟩
    exact HB.out _ _
end Go.Proofs.YtdpjpckknncleabGreat

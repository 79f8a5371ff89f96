/- handleOf and resolve of package zoo: which entity of the list a handle denotes. -/
import Derived.Test.YtcmpaohefihijabGreatDoorGroundD
import Derived.Test.YtcmpaohefihijabGreatDoorGroundA
namespace Go.Proofs.YtcmpaohefihijabGreatDoor
set_option maxRecDepth 8000
set_option maxRecDepth 8000
open Go.RowKit

def hofH (sp : List Hd) (h : Hd) : Hd := (meantH sp true h).getD (0, 0)
def hofE (sp : List Hd) (h : Hd) : Int := if (meantH sp true h).isSome then 0 else 5
theorem meantH_pos {sp : List Hd} {h : Hd} (h0 : 0 ≤ h.1) : meantH sp true h = some h := by rw [meantH, if_neg]; rintro ⟨-, h2⟩; omega
theorem meantH_low {sp : List Hd} {h : Hd} (h0 : h.1 < -(sp.length : Int)) : meantH sp true h = none := by
  rw [meantH, if_pos ⟨rfl, by omega⟩, List.getElem?_eq_none]
  omega
theorem meantH_in {sp : List Hd} {b : Int} {j : Nat} (hj : j < sp.length) : meantH sp true (-1 - (j : Int), b) = some (sp.getD j (0, 0)) := by
  rw [meantH, if_pos ⟨rfl, by show -1 - (j : Int) < 0; omega⟩]
  have : (-1 - (-1 - (j : Int))).toNat = j := by omega
  rw [this, List.getD_eq_getElem?_getD, List.getElem?_eq_getElem hj]
  rfl

set_option maxHeartbeats 2000000 in
theorem handleOf_any (v : Value) (sp : List Hd) (a b : Int) (w : World) (hr : Reads elHand w v sp) (hn : sp.length ≤ 80) :
    Calls Tryz.prog 48 #[.agg #[.int .i64 a, .int .i64 b], v] w fun e w' => e = .returned (.tuple #[.agg #[.int .i64 (hofH sp (a, b)).1, .int .i64 (hofH sp (a, b)).2], .int .i64 (hofE sp (a, b))]) ∧ Below w.heap.size w w' := by
  obtain ⟨ra, rc, rfl, hlc, hm, hcc⟩ := hr
  unfold maxLen at hm
  have HC := Lib.hid hcc
  have HB : Hid (∀ v0 v1, Below w.heap.size w (((w.alloc (.cells #[.int .i64 a, .int .i64 b] 34)).alloc (.cells #[v0, v1] 34)))) := Lib.hid (fun v0 v1 => nb_alloc (nb_alloc (Below.refl _ _) _) _)
  by_cases h0 : 0 ≤ a
  · have HE : Hid (hofH sp (a, b) = (a, b) ∧ hofE sp (a, b) = 0) := Lib.hid (by unfold hofH hofE; rw [meantH_pos (h := (a, b)) h0]; exact ⟨rfl, rfl⟩)
    clear hcc
    go_enter Tryz.func48, Tryz.ntmps48
    go_wp2
    refine bodyPost_ret (v := .tuple #[.agg #[.int .i64 a, .int .i64 b], .int .i64 0]) (by simp [results, Tryz.results48, go_sem]) rfl ⟨by rw [HE.out.1, HE.out.2], ?_⟩
    exact HB.out _ _
  · obtain ⟨n, hnn⟩ : ∃ n, sp.length = n := ⟨_, rfl⟩
    have HN := Lib.hid hnn
    rw [hnn] at hn hlc HC ⊢
    clear hnn hcc
    have ha0 : a < 0 := by omega
    by_cases h1 : a < -(n : Int)
    · have HE : Hid (hofH sp (a, b) = (0, 0) ∧ hofE sp (a, b) = 5) := Lib.hid (by unfold hofH hofE; rw [meantH_low (h := (a, b)) (by rw [HN.out]; exact h1)]; exact ⟨rfl, rfl⟩)
      go_enter Tryz.func48, Tryz.ntmps48
      go_wp2
      refine bodyPost_ret (v := .tuple #[.agg #[.int .i64 0, .int .i64 0], .int .i64 5]) (by simp [results, Tryz.results48, go_sem]) rfl ⟨by rw [HE.out.1, HE.out.2], ?_⟩
      exact HB.out _ _
    · obtain ⟨j, rfl⟩ : ∃ j : Nat, a = -1 - (j : Int) := ⟨(-1 - a).toNat, by omega⟩
      have hj : j < n := by omega
      obtain ⟨bl, off, rfl, hb, hck⟩ := HC.out j hj
      obtain ⟨y, hy⟩ : ∃ y, sp.getD j (0, 0) = y := ⟨_, rfl⟩
      have HE : Hid (hofH sp (-1 - (j : Int), b) = y ∧ hofE sp (-1 - (j : Int), b) = 0) := Lib.hid (by unfold hofH hofE; rw [meantH_in (by rw [HN.out]; exact hj), hy]; exact ⟨rfl, rfl⟩)
      have hck' : ∀ jj, jj < 2 → w.cell? ⟨bl, off + j * 2 + jj, none⟩ = (elHand.enc y)[jj]? := fun jj hjj => by rw [← hy]; exact hck jj hjj
      obtain ⟨y1, y2⟩ := y
      have c0 : w.cell? ⟨bl, off + j * 2, none⟩ = some (.int .i64 y1) := hck' 0 (by decide)
      have c1 : w.cell? ⟨bl, off + j * 2 + 1, none⟩ = some (.int .i64 y2) := hck' 1 (by decide)
      have hbl1 : bl < w.heap.size + 1 := by omega
      have hbl2 : bl < w.heap.size + 1 + 1 := by omega
      have ej : -(-1 - (j : Int)) - 1 = (j : Int) := by omega
      have hj0 : (0 : Int) ≤ (j : Int) := by omega
      have hjN : (j : Int) < (n : Int) := by omega
      clear hck hck' hy
      go_enter Tryz.func48, Tryz.ntmps48
      go_wp2
      refine bodyPost_ret (v := .tuple #[.agg #[.int .i64 y1, .int .i64 y2], .int .i64 0]) (by simp [results, Tryz.results48, go_sem]) rfl ⟨by rw [HE.out.1, HE.out.2], ?_⟩
      exact HB.out _ _

def resO (sp : List Hd) (o : Opm) : Opm := (meantO sp o).getD ⟨0, 0, fun _ => 0, 0, 0, 0, 0, 0, 0⟩
def resE (sp : List Hd) (o : Opm) : Int := if (meantO sp o).isSome then 0 else 5
theorem hofE_some {sp : List Hd} {h : Hd} (h0 : hofE sp h = 0) : meantH sp true h = some (hofH sp h) := by
  unfold hofE at h0; unfold hofH
  cases hm : meantH sp true h
  · rw [hm] at h0; cases h0
  · rfl
theorem hofE_none {sp : List Hd} {h : Hd} (h0 : hofE sp h ≠ 0) : meantH sp true h = none ∧ hofE sp h = 5 := by
  unfold hofE at *
  cases hm : meantH sp true h
  · exact ⟨rfl, rfl⟩
  · rw [hm] at h0; exact absurd rfl h0
theorem meantH_not {sp : List Hd} {h : Hd} : meantH sp false h = some h := by rw [meantH, if_neg]; rintro ⟨h, -⟩; cases h
theorem usesAt_iff {o : Opm} : usesAt o = true ↔ o.d = 2 ∨ o.d = 3 ∨ o.d = 4 ∨ o.d = 5 ∨ o.d = 6 := by
  unfold usesAt; rw [Bool.and_eq_true, decide_eq_true_eq, decide_eq_true_eq]; omega
/-- nothing to resolve -/
theorem res_no {sp : List Hd} {o : Opm} (h : usesAt o = false) : resO sp o = o ∧ resE sp o = 0 := by
  have h5 : usesTo o = false := by
    unfold usesTo; rw [decide_eq_false_iff_not]; intro e
    rw [usesAt_iff.2 (.inr (.inr (.inr (.inl e))))] at h; cases h
  have : meantO sp o = some o := by rw [meantO, h, h5, meantH_not, meantH_not]; rfl
  unfold resO resE; rw [this]; exact ⟨rfl, rfl⟩
theorem res_bad {sp : List Hd} {o : Opm} (h : usesAt o = true) (he : hofE sp (o.a, o.b) ≠ 0) : resO sp o = ⟨0, 0, fun _ => 0, 0, 0, 0, 0, 0, 0⟩ ∧ resE sp o = 5 := by
  have : meantO sp o = none := by rw [meantO, h, (hofE_none he).1]
  unfold resO resE; rw [this]; exact ⟨rfl, rfl⟩
theorem res_one {sp : List Hd} {o : Opm} (h : usesAt o = true) (h5 : usesTo o = false) (he : hofE sp (o.a, o.b) = 0) : resO sp o = withH o (hofH sp (o.a, o.b)) (o.ta, o.tb) ∧ resE sp o = 0 := by
  have : meantO sp o = some (withH o (hofH sp (o.a, o.b)) (o.ta, o.tb)) := by rw [meantO, h, h5, hofE_some he, meantH_not]
  unfold resO resE; rw [this]; exact ⟨rfl, rfl⟩
theorem res_bad2 {sp : List Hd} {o : Opm} (h : usesAt o = true) (h5 : usesTo o = true) (he : hofE sp (o.a, o.b) = 0) (he2 : hofE sp (o.ta, o.tb) ≠ 0) : resO sp o = ⟨0, 0, fun _ => 0, 0, 0, 0, 0, 0, 0⟩ ∧ resE sp o = 5 := by
  have : meantO sp o = none := by rw [meantO, h, h5, hofE_some he, (hofE_none he2).1]
  unfold resO resE; rw [this]; exact ⟨rfl, rfl⟩
theorem res_two {sp : List Hd} {o : Opm} (h : usesAt o = true) (h5 : usesTo o = true) (he : hofE sp (o.a, o.b) = 0) (he2 : hofE sp (o.ta, o.tb) = 0) : resO sp o = withH o (hofH sp (o.a, o.b)) (hofH sp (o.ta, o.tb)) ∧ resE sp o = 0 := by
  have : meantO sp o = some (withH o (hofH sp (o.a, o.b)) (hofH sp (o.ta, o.tb))) := by rw [meantO, h, h5, hofE_some he, hofE_some he2]
  unfold resO resE; rw [this]; exact ⟨rfl, rfl⟩
end Go.Proofs.YtcmpaohefihijabGreatDoor

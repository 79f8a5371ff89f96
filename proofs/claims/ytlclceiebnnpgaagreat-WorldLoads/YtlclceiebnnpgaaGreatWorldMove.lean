/- The contract of move of package world. -/
import Derived.Test.YtlclceiebnnpgaaGreatWorldAdd
import Derived.Test.YtlclceiebnnpgaaGreatWorldRemove
namespace Go.Proofs.YtlclceiebnnpgaaGreat
set_option maxRecDepth 8000
open Go.RowKit

def MoveWPost (w : World) (p : Nat) (F : Nat → Prop) (l : List (Int × Bool)) (R : Rw → Prop) (r : Rw) (e : Ending) (w' : World) : Prop :=
  e = .returned (.tuple #[]) ∧ ∃ F', WldAt w' p F' l (fun x => x = r ∨ (R x ∧ hd x ≠ hd r)) ∧ Kept F w w' ∧ Moves w F F'

set_option maxHeartbeats 2000000 in
theorem worldMove_any (p : Nat) (F : Nat → Prop) (l : List (Int × Bool)) (R : Rw → Prop) (r : Rw) (w : World) (h : WldAt w p F l R) (hin : ∃ x, R x ∧ hd x = hd r) (hbe : bErr r.m [r.f 0, r.f 1, r.f 2, r.f 3, r.f 4, r.f 5, r.f 6, r.f 7] = 0) (hok : I64r r.s ∧ I64r r.g) (hfew : Few R) :
    Calls Tryz.prog 55 #[.pointer (some ⟨p, 0, none⟩), .agg #[.int .i64 r.s, .int .i64 r.g], .agg #[.int .i64 r.m, .int .i64 (r.f 0), .int .i64 (r.f 1), .int .i64 (r.f 2), .int .i64 (r.f 3), .int .i64 (r.f 4), .int .i64 (r.f 5), .int .i64 (r.f 6), .int .i64 (r.f 7)]] w (MoveWPost w p F l R r) := by
  have hX : Below w.heap.size w ((w.alloc (.cells #[.int .i64 r.s, .int .i64 r.g] 28)).alloc (.cells #[.int .i64 r.m, .int .i64 (r.f 0), .int .i64 (r.f 1), .int .i64 (r.f 2), .int .i64 (r.f 3), .int .i64 (r.f 4), .int .i64 (r.f 5), .int .i64 (r.f 6), .int .i64 (r.f 7)] 26)) := nb_alloc (nb_alloc (Below.refl _ _) _) _
  have hbox : Boxes w.heap.size ((w.alloc (.cells #[.int .i64 r.s, .int .i64 r.g] 28)).alloc (.cells #[.int .i64 r.m, .int .i64 (r.f 0), .int .i64 (r.f 1), .int .i64 (r.f 2), .int .i64 (r.f 3), .int .i64 (r.f 4), .int .i64 (r.f 5), .int .i64 (r.f 6), .int .i64 (r.f 7)] 26)) r := ⟨heap_alloc2_old _ _ _, heap_alloc2_new _ _ _⟩
  have HLT := Lib.hid h.lt
  have HW := Lib.hid (h.later hX)
  have HX := Lib.hid hX
  have HBOX := Lib.hid hbox
  have HIN := Lib.hid hin
  have HBE := Lib.hid hbe
  have HOK : Hid (I64r r.s ∧ I64r r.g) := Lib.hid hok
  have HFEW := Lib.hid hfew
  clear h hX hbox hin hbe hok hfew
  go_enter Tryz.func55, Tryz.ntmps55
  go_wp2_with fail
  generalize ((w.alloc (.cells #[.int .i64 r.s, .int .i64 r.g] 28)).alloc (.cells #[.int .i64 r.m, .int .i64 (r.f 0), .int .i64 (r.f 1), .int .i64 (r.f 2), .int .i64 (r.f 3), .int .i64 (r.f 4), .int .i64 (r.f 5), .int .i64 (r.f 6), .int .i64 (r.f 7)] 26)) = X at *
  refine (worldRemove_any p F l R r.s r.g _ HW.out HOK.out.1 HOK.out.2 HIN.out HFEW.out).mono ?_
  rintro e w2 ⟨rfl, F2, h2, hk2, hm2⟩
  have hB2 : Boxes w.heap.size w2 r := HBOX.out.kept hk2 (fun e => by have := HLT.out _ e; omega) (fun e => by have := HLT.out _ e; omega)
  have kh0 : w2.cell? ⟨w.heap.size, 0, none⟩ = some (.int .i64 r.s) := by rw [cell_of_row _ _ _ _ _ _ hB2.hb]; rfl
  have kh1 : w2.cell? ⟨w.heap.size, 1, none⟩ = some (.int .i64 r.g) := by rw [cell_of_row _ _ _ _ _ _ hB2.hb]; rfl
  have kb0 : w2.cell? ⟨w.heap.size + 1, 0, none⟩ = some (.int .i64 r.m) := by rw [cell_of_row _ _ _ _ _ _ hB2.bb]; rfl
  have kb1 : w2.cell? ⟨w.heap.size + 1, 1, none⟩ = some (.int .i64 (r.f 0)) := by rw [cell_of_row _ _ _ _ _ _ hB2.bb]; rfl
  have kb2 : w2.cell? ⟨w.heap.size + 1, 2, none⟩ = some (.int .i64 (r.f 1)) := by rw [cell_of_row _ _ _ _ _ _ hB2.bb]; rfl
  have kb3 : w2.cell? ⟨w.heap.size + 1, 3, none⟩ = some (.int .i64 (r.f 2)) := by rw [cell_of_row _ _ _ _ _ _ hB2.bb]; rfl
  have kb4 : w2.cell? ⟨w.heap.size + 1, 4, none⟩ = some (.int .i64 (r.f 3)) := by rw [cell_of_row _ _ _ _ _ _ hB2.bb]; rfl
  have kb5 : w2.cell? ⟨w.heap.size + 1, 5, none⟩ = some (.int .i64 (r.f 4)) := by rw [cell_of_row _ _ _ _ _ _ hB2.bb]; rfl
  have kb6 : w2.cell? ⟨w.heap.size + 1, 6, none⟩ = some (.int .i64 (r.f 5)) := by rw [cell_of_row _ _ _ _ _ _ hB2.bb]; rfl
  have kb7 : w2.cell? ⟨w.heap.size + 1, 7, none⟩ = some (.int .i64 (r.f 6)) := by rw [cell_of_row _ _ _ _ _ _ hB2.bb]; rfl
  have kb8 : w2.cell? ⟨w.heap.size + 1, 8, none⟩ = some (.int .i64 (r.f 7)) := by rw [cell_of_row _ _ _ _ _ _ hB2.bb]; rfl
  have hBl := hB2.lt
  have H2 := Lib.hid h2
  have HK2 := Lib.hid hk2
  have HM2 := Lib.hid hm2
  clear h2 hk2 hm2 hB2
  go_wp2_with fail
  refine (worldAdd_any p F2 l _ r _ H2.out HBE.out (fun x hx => hx.2) HOK.out (by obtain ⟨rows, h1, h2⟩ := HFEW.out; exact ⟨rows, h1, fun x hx => h2 x hx.1⟩)).mono ?_
  rintro e w3 ⟨rfl, F3, h3, hk3, hm3⟩
  have HEND : Hid (MoveWPost w p F l R r (.returned (.tuple #[])) w3) := Lib.hid (by
    have hXs := HX.out.size
    have hkk : Kept F X w3 := HK2.out.trans hk3 HM2.out
    have hmm : Moves X F F3 := HM2.out.trans hm3 HK2.out.size
    exact ⟨rfl, F3, h3, (Kept.ofBelow HX.out).trans hkk (fun _ h => .inl h), fun b hb => (hmm b hb).imp id (fun h => by omega)⟩)
  clear h3 hk3 hm3 kh0 kh1 kb0 kb1 kb2 kb3 kb4 kb5 kb6 kb7 kb8
  go_wp2
  go_end0
  exact HEND.out
end Go.Proofs.YtlclceiebnnpgaaGreat

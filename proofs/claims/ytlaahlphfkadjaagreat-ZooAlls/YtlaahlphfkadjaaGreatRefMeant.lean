
/- The literal of All of the reference's zoo: the handle that is meant. -/
import Derived.Test.YtlaahlphfkadjaaGreatZooRefTell
namespace Go.Proofs.YtlaahlphfkadjaaGreat
set_option maxRecDepth 8000
set_option maxRecDepth 8000
open Go.RowKit

def MeantPost (w : World) (sp : List Hd) (is : Bool) (h : Hd) (e : Ending) (w' : World) : Prop :=
  ∃ x1 x2 g, e = .returned (.tuple #[.agg #[.int .i64 x1, .int .i64 x2], .bool g]) ∧ ((g = true ∧ meantH sp is h = some (x1, x2)) ∨ (g = false ∧ meantH sp is h = none ∧ h = (x1, x2))) ∧ Below w.heap.size w w'
theorem mkept2 (w1 : World) (B : Nat) (x y : Value) : Kept (fun b => b = B) w1 ((w1.setCell ⟨B, 0, none⟩ x).setCell ⟨B, 1, none⟩ y) := (Kept.setCell (F := fun b => b = B) w1 (p := ⟨B, 0, none⟩) rfl _).trans (Kept.setCell (F := fun b => b = B) _ (p := ⟨B, 1, none⟩) rfl _) (fun _ h => .inl h)

theorem meantH_at {sp : List Hd} {a b : Int} {t : Nat} {y : Hd} (ht : t < sp.length) (ha : a = -1 - (t : Int)) (hy : sp.getD t (0, 0) = y) : meantH sp true (a, b) = some y := by
  rw [meantH, if_pos ⟨rfl, by show a < 0; omega⟩]
  have : (-1 - (a, b).1).toNat = t := by show (-1 - a).toNat = t; omega
  rw [this, ← hy, List.getD_eq_getElem?_getD, List.getElem?_eq_getElem ht]; rfl
theorem meantH_no {sp : List Hd} {a b : Int} (ha : a < 0) (hn : ∀ j : Nat, j < sp.length → a ≠ -1 - (j : Int)) : meantH sp true (a, b) = none := by
  rw [meantH, if_pos ⟨rfl, ha⟩, List.getElem?_eq_none]
  show sp.length ≤ (-1 - a).toNat
  have := hn (-1 - a).toNat
  omega

set_option maxHeartbeats 4000000 in
theorem meant_any (B : Nat) (u : Value) (sp : List Hd) (a b : Int) (is : Bool) (w : World) (ha : I64r a) (hB : w.heap[B]? = some (.cells #[u] 76)) (hr : Reads elHand w u sp) (hn : sp.length ≤ 80) :
    Calls Tryz.prog 19 #[.agg #[.int .i64 a, .int .i64 b], .bool is, .pointer (some ⟨B, 0, none⟩)] w (MeantPost w sp is (a, b)) := by
  obtain ⟨ra, rc, rfl, hlc, hm, hcc⟩ := hr
  unfold maxLen at hm
  have HC := Lib.hid hcc
  obtain ⟨n, hnn⟩ : ∃ n, sp.length = n := ⟨_, rfl⟩
  have HN := Lib.hid hnn
  rw [hnn] at hn hlc HC hB
  have cb : w.cell? ⟨B, 0, none⟩ = some (.slice ra n rc) := (cell_of_row _ _ _ _ _ _ hB).trans rfl
  have hBl := (Array.getElem?_eq_some_iff.1 hB).1
  have HB2 : Hid (Below w.heap.size w ((w.alloc (.cells #[.int .i64 a, .int .i64 b] 43)).alloc (.cells #[.int .i64 a, .int .i64 b] 43))) := Lib.hid (nb_alloc (nb_alloc (Below.refl _ _) _) _)
  clear hcc hnn hB
  cases is
  · have HE : Hid (meantH sp false (a, b) = some (a, b)) := Lib.hid (by rw [meantH, if_neg]; rintro ⟨h, -⟩; cases h)
    go_enter Tryz.func19, Tryz.ntmps19
    go_wp2
    refine bodyPost_ret (v := .tuple #[.agg #[.int .i64 a, .int .i64 b], .bool true]) (by simp [results, Tryz.results19, go_sem]) rfl ⟨a, b, true, rfl, .inl ⟨rfl, HE.out⟩, HB2.out⟩
  by_cases h0 : 0 ≤ a
  · have HE : Hid (meantH sp true (a, b) = some (a, b)) := Lib.hid (by rw [meantH, if_neg]; rintro ⟨-, h⟩; simp only at h; omega)
    go_enter Tryz.func19, Tryz.ntmps19
    go_wp2
    refine bodyPost_ret (v := .tuple #[.agg #[.int .i64 a, .int .i64 b], .bool true]) (by simp [results, Tryz.results19, go_sem]) rfl ⟨a, b, true, rfl, .inl ⟨rfl, HE.out⟩, HB2.out⟩
  have HH0 := Lib.hid h0
  have HX : Hid (Below w.heap.size w ((w.alloc (.cells #[.int .i64 a, .int .i64 b] 43)).alloc (.cells #[.int .i64 0, .int .i64 0] 43))) := Lib.hid (nb_alloc (nb_alloc (Below.refl _ _) _) _)
  have HXA : Hid (((w.alloc (.cells #[.int .i64 a, .int .i64 b] 43)).alloc (.cells #[.int .i64 0, .int .i64 0] 43)).heap[w.heap.size]? = some (.cells #[.int .i64 a, .int .i64 b] 43)) := Lib.hid (heap_alloc2_old _ _ _)
  have HXB : Hid (((w.alloc (.cells #[.int .i64 a, .int .i64 b] 43)).alloc (.cells #[.int .i64 0, .int .i64 0] 43)).heap[w.heap.size + 1]? = some (.cells #[.int .i64 0, .int .i64 0] 43)) := Lib.hid (heap_alloc2_new _ _ _)
  have hB1 : B < w.heap.size + 1 := by omega
  have hB2 : B < w.heap.size + 1 + 1 := by omega
  go_enter Tryz.func19, Tryz.ntmps19
  go_wp2
  generalize ((w.alloc (.cells #[.int .i64 a, .int .i64 b] 43)).alloc (.cells #[.int .i64 0, .int .i64 0] 43)) = X at *
  clear cb hB1 hB2
  go_loopw [19] (fun i wr => ∃ t : Nat, t ≤ n ∧ i = .int .i64 t ∧ Hid (∀ j : Nat, j < t → a ≠ -1 - (j : Int)) ∧ Hid (Below X.heap.size X wr)) (fun i _ => n - (intOf i).toNat)
  case atStart => exact ⟨0, by omega, rfl, Lib.hid (fun j hj => by omega), Lib.hid (Below.refl _ _)⟩
  case round =>
    obtain ⟨t, htn, rfl, hno, hB⟩ := hrel
    have hqa := (hB.out.block _ (Array.getElem?_eq_some_iff.1 HXA.out).1).trans HXA.out
    have hqb := (hB.out.block _ (Array.getElem?_eq_some_iff.1 HXB.out).1).trans HXB.out
    have c0 : wr.cell? ⟨w.heap.size, 0, none⟩ = some (.int .i64 a) := (cell_of_row _ _ _ _ _ _ hqa).trans rfl
    have c1 : wr.cell? ⟨w.heap.size, 1, none⟩ = some (.int .i64 b) := (cell_of_row _ _ _ _ _ _ hqa).trans rfl
    have hl0 := (Array.getElem?_eq_some_iff.1 hqa).1
    have z0 : wr.cell? ⟨w.heap.size + 1, 0, none⟩ = some (.int .i64 0) := (cell_of_row _ _ _ _ _ _ hqb).trans rfl
    have z1 : wr.cell? ⟨w.heap.size + 1, 1, none⟩ = some (.int .i64 0) := (cell_of_row _ _ _ _ _ _ hqb).trans rfl
    have fz : ∀ j, wr.frozen? ⟨w.heap.size + 1, j, none⟩ = false := fun j => frozen_of_row _ _ _ _ _ hqb
    have hl1 := (Array.getElem?_eq_some_iff.1 hqb).1
    have HQB := Lib.hid hqb
    clear hqa hqb
    by_cases hlt : t < n
    · as_aux_lemma =>
      obtain ⟨bl, off, rfl, hb, hck⟩ := HC.out t hlt
      obtain ⟨y, hy⟩ : ∃ y, sp.getD t (0, 0) = y := ⟨_, rfl⟩
      have HY := Lib.hid hy
      have hck' : ∀ jj, jj < 2 → wr.cell? ⟨bl, off + t * 2 + jj, none⟩ = (elHand.enc y)[jj]? := fun jj hjj => by rw [(nb_trans HX.out hB.out).cell (p := ⟨bl, _, none⟩) hb, ← hy]; exact hck jj hjj
      have hbw : bl < wr.heap.size := Nat.lt_of_lt_of_le hb (nb_trans HX.out hB.out).size
      obtain ⟨y1, y2⟩ := y
      have e0 : wr.cell? ⟨bl, off + t * 2, none⟩ = some (.int .i64 y1) := hck' 0 (by decide)
      have e1 : wr.cell? ⟨bl, off + t * 2 + 1, none⟩ = some (.int .i64 y2) := hck' 1 (by decide)
      have hw1 : wrap64 (-1 - (t : Int)) = -1 - (t : Int) := by unfold wrap64; omega
      clear hck hck' hy
      by_cases hat : a = -1 - (t : Int)
      · as_aux_lemma =>
        have heq : (a == -1 - (t : Int)) = true := by simpa using hat
        have HE : Hid (MeantPost w sp true (a, b) (.returned (.tuple #[.agg #[.int .i64 y1, .int .i64 y2], .bool true])) (((wr.setCell ⟨w.heap.size + 1, 0, none⟩ (.int .i64 y1)).setCell ⟨w.heap.size + 1, 1, none⟩ (.int .i64 y2)).alloc (.cells #[.int .i64 y1, .int .i64 y2] 43))) := Lib.hid (by
          have hA := nb_trans HX.out hB.out
          exact ⟨y1, y2, true, rfl, .inl ⟨rfl, meantH_at (by rw [HN.out]; exact hlt) hat HY.out⟩, nb_alloc (hA.trans ((mkept2 _ (w.heap.size + 1) _ _).below hA.size (fun b e => by omega))) _⟩)
        subst hat

        go_wp2
        refine bodyPost_ret (v := .tuple #[.agg #[.int .i64 y1, .int .i64 y2], .bool true]) (by simp [results, Tryz.results19, go_sem, z0, z1, hl1]) rfl ?_
        exact HE.out
      · as_aux_lemma =>
        have heq : (a == -1 - (t : Int)) = false := by simpa using hat
        have HNX : Hid (∀ j : Nat, j < t + 1 → a ≠ -1 - (j : Int)) := Lib.hid (fun j hj => by
          by_cases e : j = t
          · rw [e]; exact hat
          · exact hno.out j (by omega))
        have HBX : Hid (Below X.heap.size X (wr.alloc (.cells #[.int .i64 y1, .int .i64 y2] 43))) := Lib.hid (nb_alloc hB.out _)
        clear hat
        go_wp2
        go_roundw
        case rel => exact ⟨t + 1, by omega, by go_num, HNX, HBX⟩
        case measure => simp [intOf]; omega
    · as_aux_lemma =>
      obtain rfl : n = t := by omega
      have HE : Hid (MeantPost w sp true (a, b) (.returned (.tuple #[.agg #[.int .i64 a, .int .i64 b], .bool false])) ((wr.setCell ⟨w.heap.size + 1, 0, none⟩ (.int .i64 a)).setCell ⟨w.heap.size + 1, 1, none⟩ (.int .i64 b))) := Lib.hid (by
        have hA := nb_trans HX.out hB.out
        exact ⟨a, b, false, rfl, .inr ⟨rfl, meantH_no (by have := HH0.out; omega) (fun j hj => hno.out j (by rw [← HN.out]; exact hj)), rfl⟩, hA.trans ((mkept2 _ (w.heap.size + 1) _ _).below hA.size (fun b e => by omega))⟩)
      go_wp2
      refine bodyPost_ret (v := .tuple #[.agg #[.int .i64 a, .int .i64 b], .bool false]) (by simp [results, Tryz.results19, go_sem, z0, z1]) rfl ?_
      exact HE.out
end Go.Proofs.YtlaahlphfkadjaaGreat

/- The contract of Row of package table. -/
import Derived.Test.YtakoejopgdaknaaTableOps
namespace Go.Proofs.Ytakoejopgdaknaa
set_option maxRecDepth 8000
open Go.RowKit

theorem rowR_in {rows : List Rw} {i : Nat} (h : i < rows.length) : rowR rows i = rows.getD i rowZ ∧ rowE rows i = 0 := by
  have : inB (i : Int) 0 (rows.length - 1) = true := by simp [inB]; omega
  rw [rowR, rowE, this]; exact ⟨rfl, rfl⟩
theorem rowR_out {rows : List Rw} {i : Int} (h : inB i 0 (rows.length - 1) = false) : rowR rows i = rowZ ∧ rowE rows i = 5 := by
  rw [rowR, rowE, h]; exact ⟨rfl, rfl⟩

theorem nb_set {B : Nat} {a w : World} (h : Below B a w) (b j : Nat) (v : Value) (hb : B ≤ b) : Below B a (w.setCell ⟨b, j, none⟩ v) := h.setCell (p := ⟨b, j, none⟩) hb v

theorem vals_set (m : Int) (f : Nat → Int) (j : Nat) (x : Int) (h : j < 8) : (#[.int .i64 m, .int .i64 (f 0), .int .i64 (f 1), .int .i64 (f 2), .int .i64 (f 3), .int .i64 (f 4), .int .i64 (f 5), .int .i64 (f 6), .int .i64 (f 7)] : Array Value).setIfInBounds (1 + j) (.int .i64 x) = #[.int .i64 m, .int .i64 ((upd f j x) 0), .int .i64 ((upd f j x) 1), .int .i64 ((upd f j x) 2), .int .i64 ((upd f j x) 3), .int .i64 ((upd f j x) 4), .int .i64 ((upd f j x) 5), .int .i64 ((upd f j x) 6), .int .i64 ((upd f j x) 7)] := by
  obtain rfl | rfl | rfl | rfl | rfl | rfl | rfl | rfl : j = 0 ∨ j = 1 ∨ j = 2 ∨ j = 3 ∨ j = 4 ∨ j = 5 ∨ j = 6 ∨ j = 7 := by omega
  all_goals rfl
theorem vals_congr {f g : Nat → Int} (h : ∀ j, j < 8 → f j = g j) : ([.int .i64 (f 0), .int .i64 (f 1), .int .i64 (f 2), .int .i64 (f 3), .int .i64 (f 4), .int .i64 (f 5), .int .i64 (f 6), .int .i64 (f 7)] : List Value) = [.int .i64 (g 0), .int .i64 (g 1), .int .i64 (g 2), .int .i64 (g 3), .int .i64 (g 4), .int .i64 (g 5), .int .i64 (g 6), .int .i64 (g 7)] := by
  rw [h 0 (by decide), h 1 (by decide), h 2 (by decide), h 3 (by decide), h 4 (by decide), h 5 (by decide), h 6 (by decide), h 7 (by decide)]

set_option maxHeartbeats 2000000 in
theorem tabRow_no (p : Nat) (F : Nat → Prop) (m : Int) (rows : List Rw) (i : Int) (w : World) (h : TableAt w p F m rows) (hi : inB i 0 (rows.length - 1) = false) :
    Calls Try.prog 37 #[.pointer (some ⟨p, 0, none⟩), .int .i64 i] w fun e w' => e = .returned (.tuple #[.agg #[.int .i64 rowZ.s, .int .i64 rowZ.g, .int .i64 rowZ.m, .int .i64 (rowZ.f 0), .int .i64 (rowZ.f 1), .int .i64 (rowZ.f 2), .int .i64 (rowZ.f 3), .int .i64 (rowZ.f 4), .int .i64 (rowZ.f 5), .int .i64 (rowZ.f 6), .int .i64 (rowZ.f 7)], .int .i64 5]) ∧ Below w.heap.size w w' := by
  have HT := Lib.hid h
  have HI := Lib.hid hi
  clear h hi
  go_enter Try.func37, Try.ntmps37
  go_wp2_with fail
  refine (hasRow_any p F m rows i _ (HT.out.later (nb_alloc (Below.refl _ _) _))).mono ?_
  rintro e w' ⟨rfl, rfl⟩
  rw [HI.out]
  go_wp2
  refine bodyPost_ret (v := .tuple #[.agg #[.int .i64 rowZ.s, .int .i64 rowZ.g, .int .i64 rowZ.m, .int .i64 (rowZ.f 0), .int .i64 (rowZ.f 1), .int .i64 (rowZ.f 2), .int .i64 (rowZ.f 3), .int .i64 (rowZ.f 4), .int .i64 (rowZ.f 5), .int .i64 (rowZ.f 6), .int .i64 (rowZ.f 7)], .int .i64 5]) (by simp [results, Try.results37, go_sem, rowZ]) rfl ⟨rfl, nb_alloc (Below.refl _ _) _⟩

/-- The loop of Row: which values have come. -/
structure RowLoop (w wr : World) (rb bb R mb n : Nat) (m : Int) (cb : Int → Nat) (f : Nat → Int) (todo : List Int) (cnt : Nat) : Prop where
  rng : RangeIs kInt wr mb R n (kinds m) (ptrOf cb) todo cnt
  below : Below w.heap.size w wr
  rb : wr.heap[rb]? = some (.cells #[.int .i64 0, .int .i64 0, .int .i64 0, .int .i64 0, .int .i64 0, .int .i64 0, .int .i64 0, .int .i64 0, .int .i64 0, .int .i64 0, .int .i64 0] 55)
  bb : ∃ g : Nat → Int, wr.heap[bb]? = some (.cells #[.int .i64 m, .int .i64 (g 0), .int .i64 (g 1), .int .i64 (g 2), .int .i64 (g 3), .int .i64 (g 4), .int .i64 (g 5), .int .i64 (g 6), .int .i64 (g 7)] 36) ∧ ∀ j, j < 8 → g j = if (j : Int) ∈ kinds m ∧ ¬ (j : Int) ∈ todo then f j else 0

theorem RowLoop.start {w w' w3 : World} {mb n cnt : Nat} {m : Int} {cb : Int → Nat} (f : Nat → Int) (hb : Below w.heap.size w w') (hrb : w'.heap[w.heap.size]? = some (.cells #[.int .i64 0, .int .i64 0, .int .i64 0, .int .i64 0, .int .i64 0, .int .i64 0, .int .i64 0, .int .i64 0, .int .i64 0, .int .i64 0, .int .i64 0] 55))
    (hr : RangeIs kInt w3 mb (w'.heap.size + 1) n (kinds m) (ptrOf cb) (kinds m) cnt) (hb3 : Below (w'.heap.size + 1) (w'.alloc (.cells #[.int .i64 m, .int .i64 0, .int .i64 0, .int .i64 0, .int .i64 0, .int .i64 0, .int .i64 0, .int .i64 0, .int .i64 0] 36)) w3) : RowLoop w w3 w.heap.size w'.heap.size (w'.heap.size + 1) mb n m cb f (kinds m) cnt := by
  have hlt := (Array.getElem?_eq_some_iff.1 hrb).1
  have hs := hb.size
  refine ⟨hr, (nb_alloc hb _).trans (hb3.mono (by omega)), ?_, fun _ => 0, ?_, fun j _ => ?_⟩
  · rw [hb3.block _ (by omega), Below.heap_alloc _ _ _ hlt]; exact hrb
  · rw [hb3.block _ (by omega)]; exact heap_alloc_new w' _
  · rw [if_neg (fun h => h.2 h.1)]
theorem RowLoop.next {w wr w4 : World} {rb bb R mb n cnt cnt' j : Nat} {m : Int} {cb : Int → Nat} {f : Nat → Int} {todo : List Int} (h : RowLoop w wr rb bb R mb n m cb f todo cnt) (hr : RangeIs kInt w4 mb R n (kinds m) (ptrOf cb) (todo.filter (fun y => !decide (y = (j : Int)))) cnt') (hk : Kept (fun q => q = R) wr w4)
    (hj : j < 8) (hjt : (j : Int) ∈ todo) (hw : w.heap.size ≤ bb) (hwR : w.heap.size ≤ R) (h1 : rb ≠ bb) (h2 : R ≠ bb) (h3 : R ≠ rb) (h4 : mb ≠ bb) :
    w4.heap.size ≥ 0 ∧ Below w.heap.size w w4 ∧ (∃ g : Nat → Int, w4.heap[bb]? = some (.cells #[.int .i64 m, .int .i64 (g 0), .int .i64 (g 1), .int .i64 (g 2), .int .i64 (g 3), .int .i64 (g 4), .int .i64 (g 5), .int .i64 (g 6), .int .i64 (g 7)] 36)) ∧ RowLoop w (w4.setCell ⟨bb, 1 + j, none⟩ (.int .i64 (f j))) rb bb R mb n m cb f (todo.filter (fun y => !decide (y = (j : Int)))) cnt' := by
  obtain ⟨rng, below, hrb, g, hg, hgj⟩ := h
  have hb4 : Below w.heap.size w w4 := below.trans (hk.below below.size (fun k e => by omega))
  have hg4 : w4.heap[bb]? = some (.cells #[.int .i64 m, .int .i64 (g 0), .int .i64 (g 1), .int .i64 (g 2), .int .i64 (g 3), .int .i64 (g 4), .int .i64 (g 5), .int .i64 (g 6), .int .i64 (g 7)] 36) := by rw [hk.block bb (Array.getElem?_eq_some_iff.1 hg).1 (Ne.symm h2)]; exact hg
  have hr4 : w4.heap[rb]? = some (.cells #[.int .i64 0, .int .i64 0, .int .i64 0, .int .i64 0, .int .i64 0, .int .i64 0, .int .i64 0, .int .i64 0, .int .i64 0, .int .i64 0, .int .i64 0] 55) := by rw [hk.block rb (Array.getElem?_eq_some_iff.1 hrb).1 (Ne.symm h3)]; exact hrb
  have hks : Kept (fun q => q = bb) w4 (w4.setCell ⟨bb, 1 + j, none⟩ (.int .i64 (f j))) := Kept.setCell (F := fun q => q = bb) _ (p := ⟨bb, 1 + j, none⟩) rfl _
  refine ⟨Nat.zero_le _, hb4, ⟨g, hg4⟩, hr.kept hks h4 h2, hb4.trans (hks.below hb4.size (fun k e => by omega)), ?_, upd g j (f j), ?_, fun i hi => ?_⟩
  · rw [hks.block rb (Array.getElem?_eq_some_iff.1 hr4).1 h1]; exact hr4
  · rw [heap_setCell_same _ _ _ _ _ _ hg4, vals_set m g j (f j) hj]
  · unfold upd
    by_cases e : i = j
    · subst e
      rw [if_pos rfl, if_pos ⟨rng.sub _ hjt, by simp⟩]
    · have e' : ¬ (i : Int) = (j : Int) := by omega
      rw [if_neg e, hgj i hi]
      congr 1
      simp [e']
theorem RowLoop.done {w wr : World} {rb bb R mb n cnt : Nat} {m : Int} {cb : Int → Nat} {f : Nat → Int} (h : RowLoop w wr rb bb R mb n m cb f [] cnt) (hf : ∀ k, k < 8 → tb m k = false → f k = 0) : wr.heap[bb]? = some (.cells #[.int .i64 m, .int .i64 (f 0), .int .i64 (f 1), .int .i64 (f 2), .int .i64 (f 3), .int .i64 (f 4), .int .i64 (f 5), .int .i64 (f 6), .int .i64 (f 7)] 36) := by
  obtain ⟨rng, below, hrb, g, hg, hgj⟩ := h
  have e : ∀ j, j < 8 → g j = f j := fun j hj => by
    rw [hgj j hj]
    by_cases ht : (j : Int) ∈ kinds m
    · rw [if_pos ⟨ht, by simp⟩]
    · rw [if_neg (fun h => ht h.1)]
      cases hb : tb m j
      · exact (hf j hj hb).symm
      · exact absurd ((kinds_iff hj).2 hb) ht
  rw [hg, e 0 (by decide), e 1 (by decide), e 2 (by decide), e 3 (by decide), e 4 (by decide), e 5 (by decide), e 6 (by decide), e 7 (by decide)]

set_option maxHeartbeats 4000000 in
theorem tabRow_yes (p : Nat) (F : Nat → Prop) (m : Int) (rows : List Rw) (i : Nat) (r : Rw) (w : World) (h : TableAt w p F m rows) (ok : TabOk m rows) (hi : i < rows.length) (hr : rows.getD i rowZ = r) :
    Calls Try.prog 37 #[.pointer (some ⟨p, 0, none⟩), .int .i64 i] w fun e w' => e = .returned (.tuple #[.agg #[.int .i64 r.s, .int .i64 r.g, .int .i64 r.m, .int .i64 (r.f 0), .int .i64 (r.f 1), .int .i64 (r.f 2), .int .i64 (r.f 3), .int .i64 (r.f 4), .int .i64 (r.f 5), .int .i64 (r.f 6), .int .i64 (r.f 7)], .int .i64 0]) ∧ Below w.heap.size w w' := by
  have hin : inB (i : Int) 0 (rows.length - 1) = true := by simp [inB]; omega
  have hrm := ok.row r (by rw [← hr]; exact mem_getD hi)
  have HRM := Lib.hid hrm
  have HT := Lib.hid h
  have HI := Lib.hid hin
  have HR := Lib.hid hr
  have HIL := Lib.hid hi
  clear hin hrm ok hr
  obtain ⟨v, mb, n, cb, c, h⟩ := h
  have HTI := Lib.hid h
  go_enter Try.func37, Try.ntmps37
  go_wp2_with fail
  refine (hasRow_any p F m rows i _ (HT.out.later (nb_alloc (Below.refl _ _) _))).mono ?_
  rintro e w' ⟨rfl, hw'⟩
  rw [HI.out]
  have hb' : Below w.heap.size w w' := by rw [← hw']; exact nb_alloc (Below.refl _ _) _
  have hrb : w'.heap[w.heap.size]? = some (.cells #[.int .i64 0, .int .i64 0, .int .i64 0, .int .i64 0, .int .i64 0, .int .i64 0, .int .i64 0, .int .i64 0, .int .i64 0, .int .i64 0, .int .i64 0] 55) := by rw [← hw']; exact heap_alloc_new w _
  have c0 := (h.later hb').cell0
  have c2 := (h.later hb').cell2
  have hws : w'.heap.size = w.heap.size + 1 := by rw [← hw']; simp
  have hpl : p < w'.heap.size := by have := h.lt p h.fp.1; omega
  have HB' := Lib.hid hb'
  have HRB := Lib.hid hrb
  have HWS := Lib.hid hws
  clear hw' hb' hrb hws h
  have HMAP := Lib.hid (HTI.out.later (nb_alloc HB'.out (.cells #[.int .i64 m, .int .i64 0, .int .i64 0, .int .i64 0, .int .i64 0, .int .i64 0, .int .i64 0, .int .i64 0, .int .i64 0] 36))).map
  go_wp2_with (first | (at_range; refine wpList_range_is (K := kInt) _ rfl _ 116 rfl _ Try.underlying116 rfl HMAP.out ?_))
  intro w3 hrg hb3 hsz3
  have HRL := Lib.hid (RowLoop.start r.f HB'.out HRB.out hrg hb3)
  have HW : Hid (w.heap.size + 1 = w'.heap.size) := Lib.hid HWS.out.symm
  clear hrg hb3 hsz3 c0 c2 HMAP HRB HB'
  go_wp2
  go_loopw [7] (fun _ wr => ∃ todo cnt, Hid (RowLoop w wr w.heap.size w'.heap.size (w'.heap.size + 1) mb n m cb r.f todo cnt)) (fun _ wr => wr.rangeLeft mb (w'.heap.size + 1))
  case atStart => exact ⟨_, _, HRL⟩
  case round =>
    obtain ⟨todo, cnt, hrl⟩ := hrel
    clear HRL
    go_wp2_with (first | (at_next; refine wpList_next_is (K := kInt) _ rfl _ rfl rfl hrl.out.rng ?_ ?_))
    case refine_1 =>
      rintro rfl
      have hbb := hrl.out.done HRM.out.2
      have hrb := hrl.out.rb
      have hT := HTI.out.later hrl.out.below
      have c1 := hT.cell1
      obtain ⟨g, cap, hv, hgl, hlc, hcm, hc⟩ := hT.own.at2 rfl (by rw [hsOf_len]; omega)
      obtain ⟨d0, d1, -⟩ := hc i (by rw [hsOf_len]; exact hi)
      rw [show (hsOf rows).getD i elHand.zero = (r.s, r.g) by rw [hsOf, getD_map _ _ _ rowZ _ hi, HR.out]] at d0 d1
      rw [hv, hsOf_len] at c1
      replace d0 : wr.cell? ⟨g, i * 2, none⟩ = some (.int .i64 r.s) := d0
      replace d1 : wr.cell? ⟨g, i * 2 + 1, none⟩ = some (.int .i64 r.g) := d1
      have b0 : wr.cell? ⟨w'.heap.size, 0, none⟩ = some (.int .i64 m) := by rw [cell_of_row _ _ _ _ _ _ hbb]; rfl
      have b1 : wr.cell? ⟨w'.heap.size, 1, none⟩ = some (.int .i64 (r.f 0)) := by rw [cell_of_row _ _ _ _ _ _ hbb]; rfl
      have b2 : wr.cell? ⟨w'.heap.size, 2, none⟩ = some (.int .i64 (r.f 1)) := by rw [cell_of_row _ _ _ _ _ _ hbb]; rfl
      have b3 : wr.cell? ⟨w'.heap.size, 3, none⟩ = some (.int .i64 (r.f 2)) := by rw [cell_of_row _ _ _ _ _ _ hbb]; rfl
      have b4 : wr.cell? ⟨w'.heap.size, 4, none⟩ = some (.int .i64 (r.f 3)) := by rw [cell_of_row _ _ _ _ _ _ hbb]; rfl
      have b5 : wr.cell? ⟨w'.heap.size, 5, none⟩ = some (.int .i64 (r.f 4)) := by rw [cell_of_row _ _ _ _ _ _ hbb]; rfl
      have b6 : wr.cell? ⟨w'.heap.size, 6, none⟩ = some (.int .i64 (r.f 5)) := by rw [cell_of_row _ _ _ _ _ _ hbb]; rfl
      have b7 : wr.cell? ⟨w'.heap.size, 7, none⟩ = some (.int .i64 (r.f 6)) := by rw [cell_of_row _ _ _ _ _ _ hbb]; rfl
      have b8 : wr.cell? ⟨w'.heap.size, 8, none⟩ = some (.int .i64 (r.f 7)) := by rw [cell_of_row _ _ _ _ _ _ hbb]; rfl
      have k0 : wr.cell? ⟨w.heap.size, 0, none⟩ = some (.int .i64 0) := by rw [cell_of_row _ _ _ _ _ _ hrb]; rfl
      have k1 : wr.cell? ⟨w.heap.size, 1, none⟩ = some (.int .i64 0) := by rw [cell_of_row _ _ _ _ _ _ hrb]; rfl
      have k2 : wr.cell? ⟨w.heap.size, 2, none⟩ = some (.int .i64 0) := by rw [cell_of_row _ _ _ _ _ _ hrb]; rfl
      have k3 : wr.cell? ⟨w.heap.size, 3, none⟩ = some (.int .i64 0) := by rw [cell_of_row _ _ _ _ _ _ hrb]; rfl
      have k4 : wr.cell? ⟨w.heap.size, 4, none⟩ = some (.int .i64 0) := by rw [cell_of_row _ _ _ _ _ _ hrb]; rfl
      have k5 : wr.cell? ⟨w.heap.size, 5, none⟩ = some (.int .i64 0) := by rw [cell_of_row _ _ _ _ _ _ hrb]; rfl
      have k6 : wr.cell? ⟨w.heap.size, 6, none⟩ = some (.int .i64 0) := by rw [cell_of_row _ _ _ _ _ _ hrb]; rfl
      have k7 : wr.cell? ⟨w.heap.size, 7, none⟩ = some (.int .i64 0) := by rw [cell_of_row _ _ _ _ _ _ hrb]; rfl
      have k8 : wr.cell? ⟨w.heap.size, 8, none⟩ = some (.int .i64 0) := by rw [cell_of_row _ _ _ _ _ _ hrb]; rfl
      have k9 : wr.cell? ⟨w.heap.size, 9, none⟩ = some (.int .i64 0) := by rw [cell_of_row _ _ _ _ _ _ hrb]; rfl
      have k10 : wr.cell? ⟨w.heap.size, 10, none⟩ = some (.int .i64 0) := by rw [cell_of_row _ _ _ _ _ _ hrb]; rfl
      have fz : ∀ j, wr.frozen? ⟨w.heap.size, j, none⟩ = false := fun j => frozen_of_row _ _ _ _ _ hrb
      have hrl1 := (Array.getElem?_eq_some_iff.1 hrb).1
      have HBE := Lib.hid hrl.out.below
      have hrm := HRM.out.1
      clear hbb hrb hT hv hc hrl
      unfold maxLen at hcm
      go_wp2_with fail
      go_still_tail 10, (by kernel_rfl)
      change wpList _ _ _ _ _ wr.drew
      clear b0 b1 b2 b3 b4 b5 b6 b7 b8 c1 d0 d1
      go_wp2
      refine bodyPost_ret (v := .tuple #[.agg #[.int .i64 r.s, .int .i64 r.g, .int .i64 r.m, .int .i64 (r.f 0), .int .i64 (r.f 1), .int .i64 (r.f 2), .int .i64 (r.f 3), .int .i64 (r.f 4), .int .i64 (r.f 5), .int .i64 (r.f 6), .int .i64 (r.f 7)], .int .i64 0]) (by simp [results, Try.results37, go_sem, k0, k1, k2, k3, k4, k5, k6, k7, k8, k9, k10, hrm]) rfl ⟨rfl, ?_⟩
      refine Below.drew ?_
      iterate 11 (refine nb_set ?_ _ _ _ (Nat.le_refl _))
      exact HBE.out
    case refine_2 =>
      intro k w4 cnt' hk hkm hrg hlt hkp hsz hen
      obtain ⟨j, hj, rfl, -⟩ := mem_kindsTo.1 hkm
      have hmb := HTI.out.lt mb HTI.out.fm.1
      have hw := HW.out
      obtain ⟨-, hb4, ⟨g, hg⟩, hnx⟩ := hrl.out.next hrg hkp hj hk (by omega) (by omega) (by omega) (by omega) (by omega) (by omega)
      obtain ⟨u, hc, -⟩ := (HTI.out.later hb4).colIs hkm
      have cc := hc.cell
      have hcb := hc.lt
      rw [Int.toNat_natCast] at hc
      obtain ⟨gg, cap, rfl, hgl, hlc, hcm, hcc⟩ := hc.own.at1 rfl (by rw [colOf_len]; omega)
      obtain ⟨cv, -⟩ := hcc i (by rw [colOf_len]; exact hi)
      replace cv : w4.cell? ⟨gg, i, none⟩ = some (.int .i64 (r.f j)) := by
        rw [cv, show (colOf rows j).getD i elInt.zero = r.f j by rw [colOf, getD_map _ _ _ rowZ _ hi, HR.out]]; rfl
      have old := vals_at m g j hj
      rw [← cell_of_row _ _ _ _ _ _ hg] at old
      have fz : w4.frozen? ⟨w'.heap.size, 1 + j, none⟩ = false := frozen_of_row _ _ _ _ _ hg
      have hbl := (Array.getElem?_eq_some_iff.1 hg).1
      rw [colOf_len] at cc hlc
      have HNX := Lib.hid hnx
      have HLT := Lib.hid hlt
      replace hen : (Instr.entry (.pointer (some ⟨w'.heap.size + 1, 0, none⟩))).run Try.prog w4 = .ok (.tuple #[.int .i64 j, .pointer (some ⟨cb j, 0, none⟩)]) w4 := hen
      simp only [ptrOf, show kInt.val (j : Int) = .int .i64 j from rfl]
      unfold maxLen at hcm
      clear hc hnx hkp hrg hlt hsz hk hkm hg hcc hb4 hw
      go_wp2
      go_roundw
      case rel => exact ⟨_, _, HNX⟩
      case measure => rw [HNX.out.rng.left_eq, hrl.out.rng.left_eq]; exact HLT.out

theorem tabRow_any (p : Nat) (F : Nat → Prop) (m : Int) (rows : List Rw) (i : Int) (r : Rw) (x : Int) (w : World) (h : TableAt w p F m rows) (ok : TabOk m rows) (hr : rowR rows i = r) (hx : rowE rows i = x) :
    Calls Try.prog 37 #[.pointer (some ⟨p, 0, none⟩), .int .i64 i] w fun e w' => e = .returned (.tuple #[.agg #[.int .i64 r.s, .int .i64 r.g, .int .i64 r.m, .int .i64 (r.f 0), .int .i64 (r.f 1), .int .i64 (r.f 2), .int .i64 (r.f 3), .int .i64 (r.f 4), .int .i64 (r.f 5), .int .i64 (r.f 6), .int .i64 (r.f 7)], .int .i64 x]) ∧ Below w.heap.size w w' := by
  cases hi : inB i 0 (rows.length - 1)
  · obtain ⟨h1, h2⟩ := rowR_out hi
    rw [h1] at hr; rw [h2] at hx
    subst hr hx
    exact tabRow_no p F m rows i w h hi
  · obtain ⟨b1, b2⟩ := inB_t hi
    obtain ⟨j, rfl⟩ := Int.eq_ofNat_of_zero_le b1
    obtain ⟨h1, h2⟩ := rowR_in (rows := rows) (i := j) (by omega)
    rw [h2] at hx
    subst hx
    exact tabRow_yes p F m rows j r w h ok (by omega) (by rw [← h1]; exact hr)
end Go.Proofs.Ytakoejopgdaknaa

/- The contracts of New, Gens and Get of package world. -/
import Derived.Test.YtlclceiebnnpgaaGreatWorldAt
import Derived.Test.YtlclceiebnnpgaaGreatGroundB
namespace Go.Proofs.YtlclceiebnnpgaaGreat
set_option maxRecDepth 8000
open Go.RowKit

def placeZ : Value := .agg #[.pointer none, .int .i64 0]
theorem zeroPlace (w : World) : (zeroValue 97).run Tryz.prog w = .ok placeZ w := by kernel_rfl
theorem zeroTab (w : World) : (zeroValue 78).run Tryz.prog w = .ok (.pointer none) w := by kernel_rfl

section
variable {w : World} {p : Nat} {F : Nat → Prop} {c : Nat → Int} {l : List (Int × Bool)} {tm pm : Value} {ks : List Int} {tb : Int → Nat} {tr : Int → List Rw} {hk : List (Int × Int)} {pl : Int × Int → Int × Nat} {R : Rw → Prop}
theorem WldIs.look2i (h : WldIs w p F c l tm pm ks tb tr hk pl R) (a b : Int) (ha : I64r a) (hb : I64r b) (hm : (a, b) ∈ hk) :
    (Instr.lookup 63 pm (.agg #[.int .i64 a, .int .i64 b]) true).run Tryz.prog w = .ok (.tuple #[plV tb pl (a, b), .bool true]) w := by
  rcases h.maps with ⟨_, rfl, _, rfl⟩ | ⟨mt, mp, _, rfl, m1, m2, _⟩
  · simp at hm
  · have := m2.look2 Tryz.underlying63 (zeroPlace w) (a, b) ⟨ha, hb⟩
    simpa [hm, kHand] using this
theorem WldIs.look2o (h : WldIs w p F c l tm pm ks tb tr hk pl R) (a b : Int) (ha : I64r a) (hb : I64r b) (hm : ¬ (a, b) ∈ hk) :
    (Instr.lookup 63 pm (.agg #[.int .i64 a, .int .i64 b]) true).run Tryz.prog w = .ok (.tuple #[placeZ, .bool false]) w := by
  rcases h.maps with ⟨_, rfl, _, rfl⟩ | ⟨mt, mp, _, rfl, m1, m2, _⟩
  · have := Maps.look_nil (w := w) true kHand.law Tryz.underlying63 (zeroPlace w) (kHand.key (a, b) ⟨ha, hb⟩)
    simpa [kHand] using this
  · have := m2.look2 Tryz.underlying63 (zeroPlace w) (a, b) ⟨ha, hb⟩
    simpa [hm, kHand] using this
theorem WldIs.look1i (h : WldIs w p F c l tm pm ks tb tr hk pl R) (a b : Int) (ha : I64r a) (hb : I64r b) (hm : (a, b) ∈ hk) :
    (Instr.lookup 63 pm (.agg #[.int .i64 a, .int .i64 b]) false).run Tryz.prog w = .ok (plV tb pl (a, b)) w := by
  rcases h.maps with ⟨_, rfl, _, rfl⟩ | ⟨mt, mp, _, rfl, m1, m2, _⟩
  · simp at hm
  · have := m2.look Tryz.underlying63 (zeroPlace w) (a, b) ⟨ha, hb⟩
    simpa [hm, kHand] using this
end

theorem WldAt.new (w : World) : WldAt (w.alloc (.cells #[.slice none 0 0, .map none, .map none] 65)) w.heap.size (fun b => b = w.heap.size) [] (fun _ => False) :=
  ⟨fun _ => -1, .map none, .map none, [], fun _ => 0, fun _ => [], [], fun _ => (0, 0), ⟨⟨.slice none 0 0, heap_alloc_new w _, Owns.nil _ _ _, ⟨rfl, rfl⟩, fun k e => by simp [Value.ownBlock] at e, fun k e => by simp [e.1]⟩, .inl ⟨rfl, rfl, rfl, rfl⟩, fun k hk => by simp at hk, Laid.nil _, fun b e => by simp [e]⟩⟩

set_option maxHeartbeats 400000 in
theorem worldGens_any (p : Nat) (F : Nat → Prop) (l : List (Int × Bool)) (R : Rw → Prop) (w : World) (h : WldAt w p F l R) (ok : SlotOk l) :
    Calls Tryz.prog 10 #[.pointer (some ⟨p, 0, none⟩)] w fun e w' => ∃ v, e = .returned v ∧ OwnsF elInt w' w.heap.size 3 v (gensL l) ∧ Below w.heap.size w w' := by
  obtain ⟨c, tm, pm, ks, tb, tr, hk, pl, h⟩ := h
  have HS := Lib.hid h.slots
  have HOK := Lib.hid ok
  have hpl := h.plt
  clear h ok
  go_enter Tryz.func10, Tryz.ntmps10
  go_wp2_with fail
  refine (gens_any p _ l _ HS.out HOK.out).mono ?_
  rintro e w' ⟨v, rfl, ho, hb⟩
  have HO := Lib.hid ho
  have HB := Lib.hid hb
  clear ho hb
  go_wp2
  go_ret
  exact ⟨_, rfl, HO.out, HB.out⟩

theorem getE_yes {rows : List Rw} {a b : Int} (h : hasH rows a b = true) : getE rows a b = 0 ∧ getR rows a b = rows.getD (atN rows a b) rowZ := by rw [getE, getR, h]; exact ⟨rfl, rfl⟩
theorem getE_no {rows : List Rw} {a b : Int} (h : hasH rows a b = false) : getE rows a b = 7 ∧ getR rows a b = rowZ := by rw [getE, getR, h]; exact ⟨rfl, rfl⟩
def zeroB : Array Value := #[.int .i64 0, .int .i64 0, .int .i64 0, .int .i64 0, .int .i64 0, .int .i64 0, .int .i64 0, .int .i64 0, .int .i64 0]

set_option maxHeartbeats 2000000 in
theorem worldGet_no (p : Nat) (F : Nat → Prop) (l : List (Int × Bool)) (rows : List Rw) (a b : Int) (w : World) (h : WldAt w p F l (· ∈ rows)) (ha : I64r a) (hb : I64r b) (hh : hasH rows a b = false) :
    Calls Tryz.prog 71 #[.pointer (some ⟨p, 0, none⟩), .agg #[.int .i64 a, .int .i64 b]] w fun e w' => e = .returned (.tuple #[.agg #[.int .i64 rowZ.m, .int .i64 (rowZ.f 0), .int .i64 (rowZ.f 1), .int .i64 (rowZ.f 2), .int .i64 (rowZ.f 3), .int .i64 (rowZ.f 4), .int .i64 (rowZ.f 5), .int .i64 (rowZ.f 6), .int .i64 (rowZ.f 7)], .int .i64 7]) ∧ Below w.heap.size w w' := by
  obtain ⟨c, tm, pm, ks, tb, tr, hk, pl, h⟩ := h
  have hm : ¬ (a, b) ∈ hk := of_decide_eq_false ((h.laid.hasH a b).trans hh)
  have hX : Below w.heap.size w ((w.alloc (.cells #[.int .i64 a, .int .i64 b] 28)).alloc (.cells #[.int .i64 0, .int .i64 0, .int .i64 0, .int .i64 0, .int .i64 0, .int .i64 0, .int .i64 0, .int .i64 0, .int .i64 0] 26)) := nb_alloc (nb_alloc (Below.refl _ _) _) _
  have HX := Lib.hid hX
  have hsz : ((w.alloc (.cells #[.int .i64 a, .int .i64 b] 28)).alloc (.cells #[.int .i64 0, .int .i64 0, .int .i64 0, .int .i64 0, .int .i64 0, .int .i64 0, .int .i64 0, .int .i64 0, .int .i64 0] 26)).heap.size = w.heap.size + 2 := by simp
  have hbb : ((w.alloc (.cells #[.int .i64 a, .int .i64 b] 28)).alloc (.cells #[.int .i64 0, .int .i64 0, .int .i64 0, .int .i64 0, .int .i64 0, .int .i64 0, .int .i64 0, .int .i64 0, .int .i64 0] 26)).heap[w.heap.size + 1]? = some (.cells #[.int .i64 0, .int .i64 0, .int .i64 0, .int .i64 0, .int .i64 0, .int .i64 0, .int .i64 0, .int .i64 0, .int .i64 0] 26) := heap_alloc2_new _ _ _
  have hhb : ((w.alloc (.cells #[.int .i64 a, .int .i64 b] 28)).alloc (.cells #[.int .i64 0, .int .i64 0, .int .i64 0, .int .i64 0, .int .i64 0, .int .i64 0, .int .i64 0, .int .i64 0, .int .i64 0] 26)).heap[w.heap.size]? = some (.cells #[.int .i64 a, .int .i64 b] 28) := heap_alloc2_old _ _ _
  have HW := Lib.hid (h.later hX)
  clear h hX
  go_enter Tryz.func71, Tryz.ntmps71
  go_wp2_with fail
  generalize ((w.alloc (.cells #[.int .i64 a, .int .i64 b] 28)).alloc (.cells #[.int .i64 0, .int .i64 0, .int .i64 0, .int .i64 0, .int .i64 0, .int .i64 0, .int .i64 0, .int .i64 0, .int .i64 0] 26)) = X at *
  have c2 := HW.out.cell2
  have hpl := HW.out.plt
  have kh0 : X.cell? ⟨w.heap.size, 0, none⟩ = some (.int .i64 a) := by rw [cell_of_row _ _ _ _ _ _ hhb]; rfl
  have kh1 : X.cell? ⟨w.heap.size, 1, none⟩ = some (.int .i64 b) := by rw [cell_of_row _ _ _ _ _ _ hhb]; rfl
  have hlk : (Instr.lookup 63 pm (.agg #[.int .i64 a, .int .i64 b]) true).run Tryz.prog X.drew = .ok (.tuple #[.agg #[.pointer none, .int .i64 0], .bool false]) X.drew := (HW.out.later (Below.refl _ _).drew).look2o a b ha hb hm
  have hlk1 : (Instr.lookup 63 pm (.agg #[.int .i64 a, .int .i64 b]) true).run Tryz.prog (X.alloc (.cells #[.pointer none, .int .i64 0] 97)).drew = .ok (.tuple #[.agg #[.pointer none, .int .i64 0], .bool false]) (X.alloc (.cells #[.pointer none, .int .i64 0] 97)).drew := (HW.out.later (nb_alloc (Below.refl _ _) _).drew).look2o a b ha hb hm
  have fz : ∀ j, X.frozen? ⟨w.heap.size + 1, j, none⟩ = false := fun j => frozen_of_row _ _ _ _ _ hbb
  have hbl : w.heap.size + 1 < X.heap.size := by omega
  have hhl : w.heap.size < X.heap.size := by omega
  have k0 : X.cell? ⟨w.heap.size + 1, 0, none⟩ = some (.int .i64 0) := by rw [cell_of_row _ _ _ _ _ _ hbb]; rfl
  have k1 : X.cell? ⟨w.heap.size + 1, 1, none⟩ = some (.int .i64 0) := by rw [cell_of_row _ _ _ _ _ _ hbb]; rfl
  have k2 : X.cell? ⟨w.heap.size + 1, 2, none⟩ = some (.int .i64 0) := by rw [cell_of_row _ _ _ _ _ _ hbb]; rfl
  have k3 : X.cell? ⟨w.heap.size + 1, 3, none⟩ = some (.int .i64 0) := by rw [cell_of_row _ _ _ _ _ _ hbb]; rfl
  have k4 : X.cell? ⟨w.heap.size + 1, 4, none⟩ = some (.int .i64 0) := by rw [cell_of_row _ _ _ _ _ _ hbb]; rfl
  have k5 : X.cell? ⟨w.heap.size + 1, 5, none⟩ = some (.int .i64 0) := by rw [cell_of_row _ _ _ _ _ _ hbb]; rfl
  have k6 : X.cell? ⟨w.heap.size + 1, 6, none⟩ = some (.int .i64 0) := by rw [cell_of_row _ _ _ _ _ _ hbb]; rfl
  have k7 : X.cell? ⟨w.heap.size + 1, 7, none⟩ = some (.int .i64 0) := by rw [cell_of_row _ _ _ _ _ _ hbb]; rfl
  have k8 : X.cell? ⟨w.heap.size + 1, 8, none⟩ = some (.int .i64 0) := by rw [cell_of_row _ _ _ _ _ _ hbb]; rfl
  clear hh hhb hsz hbb HW hm
  go_region
  all_goals
    clear hlk hlk1 kh0 kh1 c2
    go_wp2
    refine bodyPost_ret (v := .tuple #[.agg #[.int .i64 rowZ.m, .int .i64 (rowZ.f 0), .int .i64 (rowZ.f 1), .int .i64 (rowZ.f 2), .int .i64 (rowZ.f 3), .int .i64 (rowZ.f 4), .int .i64 (rowZ.f 5), .int .i64 (rowZ.f 6), .int .i64 (rowZ.f 7)], .int .i64 7]) (by simp [results, Tryz.results71, go_sem, rowZ, hbl, k0, k1, k2, k3, k4, k5, k6, k7, k8]) rfl ⟨rfl, ?_⟩
    refine Below.drew ?_
    refine nb_alloc ?_ _
    iterate 9 (refine nb_set ?_ _ _ _ (by omega))
    exact HX.out

set_option maxHeartbeats 4000000 in
theorem worldGet_yes (p : Nat) (F : Nat → Prop) (l : List (Int × Bool)) (rows : List Rw) (a b : Int) (r : Rw) (w : World) (h : WldAt w p F l (· ∈ rows)) (ha : I64r a) (hb : I64r b) (hh : hasH rows a b = true) (hr : rows.getD (atN rows a b) rowZ = r) :
    Calls Tryz.prog 71 #[.pointer (some ⟨p, 0, none⟩), .agg #[.int .i64 a, .int .i64 b]] w fun e w' => e = .returned (.tuple #[.agg #[.int .i64 r.m, .int .i64 (r.f 0), .int .i64 (r.f 1), .int .i64 (r.f 2), .int .i64 (r.f 3), .int .i64 (r.f 4), .int .i64 (r.f 5), .int .i64 (r.f 6), .int .i64 (r.f 7)], .int .i64 0]) ∧ Below w.heap.size w w' := by
  obtain ⟨c, tm, pm, ks, tb, tr, hk, pl, h⟩ := h
  have hm : (a, b) ∈ hk := of_decide_eq_true ((h.laid.hasH a b).trans hh)
  have hg := h.laid.get hm
  rw [hr] at hg
  obtain ⟨hkk, hil, -⟩ := h.laid.at_ _ hm
  obtain ⟨k, hkq⟩ : ∃ k, (pl (a, b)).1 = k := ⟨_, rfl⟩
  obtain ⟨i, hiq⟩ : ∃ i, (pl (a, b)).2 = i := ⟨_, rfl⟩
  obtain ⟨q, hqq⟩ : ∃ q, tb k = q := ⟨_, rfl⟩
  rw [hkq] at hkk
  rw [hkq, hiq] at hg hil
  have HTAB : Hid (∀ Y, Below w.heap.size w Y → TableAt Y q (fun b => F b ∧ c b = k) k (tr k)) := Lib.hid (fun Y hY => by rw [← hqq]; exact (h.tabs k hkk).later hY)
  have HTOK := Lib.hid (h.laid.tab hkk)
  obtain ⟨hr1, hr2⟩ := rowR_in hil
  have HR1 : Hid (rowR (tr k) i = r) := Lib.hid (hr1.trans hg.symm)
  have HR2 := Lib.hid hr2
  have hi60 : (i : Int) ≤ 9223372036854775807 := by
    obtain ⟨_, _, _, _, _, ht⟩ := h.tabs k hkk
    obtain ⟨_, cap, _, h1, h2, _⟩ := ht.own.reads
    rw [hsOf_len] at h1
    unfold maxLen at h2
    omega
  clear hr hg hkk hr1 hr2
  have hX : Below w.heap.size w ((w.alloc (.cells #[.int .i64 a, .int .i64 b] 28)).alloc (.cells #[.int .i64 0, .int .i64 0, .int .i64 0, .int .i64 0, .int .i64 0, .int .i64 0, .int .i64 0, .int .i64 0, .int .i64 0] 26)) := nb_alloc (nb_alloc (Below.refl _ _) _) _
  have HX := Lib.hid hX
  have hsz : ((w.alloc (.cells #[.int .i64 a, .int .i64 b] 28)).alloc (.cells #[.int .i64 0, .int .i64 0, .int .i64 0, .int .i64 0, .int .i64 0, .int .i64 0, .int .i64 0, .int .i64 0, .int .i64 0] 26)).heap.size = w.heap.size + 2 := by simp
  have hbb : ((w.alloc (.cells #[.int .i64 a, .int .i64 b] 28)).alloc (.cells #[.int .i64 0, .int .i64 0, .int .i64 0, .int .i64 0, .int .i64 0, .int .i64 0, .int .i64 0, .int .i64 0, .int .i64 0] 26)).heap[w.heap.size + 1]? = some (.cells #[.int .i64 0, .int .i64 0, .int .i64 0, .int .i64 0, .int .i64 0, .int .i64 0, .int .i64 0, .int .i64 0, .int .i64 0] 26) := heap_alloc2_new _ _ _
  have hhb : ((w.alloc (.cells #[.int .i64 a, .int .i64 b] 28)).alloc (.cells #[.int .i64 0, .int .i64 0, .int .i64 0, .int .i64 0, .int .i64 0, .int .i64 0, .int .i64 0, .int .i64 0, .int .i64 0] 26)).heap[w.heap.size]? = some (.cells #[.int .i64 a, .int .i64 b] 28) := heap_alloc2_old _ _ _
  have HW := Lib.hid (h.later hX)
  clear h hX
  go_enter Tryz.func71, Tryz.ntmps71
  go_wp2_with fail
  generalize ((w.alloc (.cells #[.int .i64 a, .int .i64 b] 28)).alloc (.cells #[.int .i64 0, .int .i64 0, .int .i64 0, .int .i64 0, .int .i64 0, .int .i64 0, .int .i64 0, .int .i64 0, .int .i64 0] 26)) = X at *
  have c2 := HW.out.cell2
  have hpl := HW.out.plt
  have kh0 : X.cell? ⟨w.heap.size, 0, none⟩ = some (.int .i64 a) := by rw [cell_of_row _ _ _ _ _ _ hhb]; rfl
  have kh1 : X.cell? ⟨w.heap.size, 1, none⟩ = some (.int .i64 b) := by rw [cell_of_row _ _ _ _ _ _ hhb]; rfl
  have hlk : (Instr.lookup 63 pm (.agg #[.int .i64 a, .int .i64 b]) true).run Tryz.prog X.drew = .ok (.tuple #[.agg #[.pointer (some ⟨q, 0, none⟩), .int .i64 i], .bool true]) X.drew := by
    have := (HW.out.later (Below.refl _ _).drew).look2i a b ha hb hm
    rw [plV, hkq, hiq, hqq] at this; exact this
  have hlk1 : (Instr.lookup 63 pm (.agg #[.int .i64 a, .int .i64 b]) true).run Tryz.prog (X.alloc (.cells #[.pointer none, .int .i64 0] 97)).drew = .ok (.tuple #[.agg #[.pointer (some ⟨q, 0, none⟩), .int .i64 i], .bool true]) (X.alloc (.cells #[.pointer none, .int .i64 0] 97)).drew := by
    have := (HW.out.later (nb_alloc (Below.refl _ _) (.cells #[.pointer none, .int .i64 0] 97)).drew).look2i a b ha hb hm
    rw [plV, hkq, hiq, hqq] at this; exact this
  have HBB := Lib.hid hbb
  have hbl : w.heap.size + 1 < X.heap.size := by omega
  have hhl : w.heap.size < X.heap.size := by omega
  clear hh hhb hsz hbb HW hm hkq hiq hqq hil
  go_region
  all_goals
    clear hlk hlk1 kh0 kh1 c2
    go_wp2_with fail
    refine (tabRow_any q _ k (tr k) i r 0 _ (HTAB.out _ (nb_alloc HX.out _).drew) HTOK.out HR1.out HR2.out).mono ?_
    rintro e w' ⟨rfl, hb'⟩
    have hbw : Below w.heap.size w w' := nb_trans (nb_alloc HX.out _).drew hb'
    have hbb' : w'.heap[w.heap.size + 1]? = some (.cells #[.int .i64 0, .int .i64 0, .int .i64 0, .int .i64 0, .int .i64 0, .int .i64 0, .int .i64 0, .int .i64 0, .int .i64 0] 26) := by rw [hb'.block _ (by simp; omega)]; exact (Below.heap_alloc X _ _ hbl).trans HBB.out
    have hbl' := (Array.getElem?_eq_some_iff.1 hbb').1
    have k0 : w'.cell? ⟨w.heap.size + 1, 0, none⟩ = some (.int .i64 0) := by rw [cell_of_row _ _ _ _ _ _ hbb']; rfl
    have k1 : w'.cell? ⟨w.heap.size + 1, 1, none⟩ = some (.int .i64 0) := by rw [cell_of_row _ _ _ _ _ _ hbb']; rfl
    have k2 : w'.cell? ⟨w.heap.size + 1, 2, none⟩ = some (.int .i64 0) := by rw [cell_of_row _ _ _ _ _ _ hbb']; rfl
    have k3 : w'.cell? ⟨w.heap.size + 1, 3, none⟩ = some (.int .i64 0) := by rw [cell_of_row _ _ _ _ _ _ hbb']; rfl
    have k4 : w'.cell? ⟨w.heap.size + 1, 4, none⟩ = some (.int .i64 0) := by rw [cell_of_row _ _ _ _ _ _ hbb']; rfl
    have k5 : w'.cell? ⟨w.heap.size + 1, 5, none⟩ = some (.int .i64 0) := by rw [cell_of_row _ _ _ _ _ _ hbb']; rfl
    have k6 : w'.cell? ⟨w.heap.size + 1, 6, none⟩ = some (.int .i64 0) := by rw [cell_of_row _ _ _ _ _ _ hbb']; rfl
    have k7 : w'.cell? ⟨w.heap.size + 1, 7, none⟩ = some (.int .i64 0) := by rw [cell_of_row _ _ _ _ _ _ hbb']; rfl
    have k8 : w'.cell? ⟨w.heap.size + 1, 8, none⟩ = some (.int .i64 0) := by rw [cell_of_row _ _ _ _ _ _ hbb']; rfl
    have fz : ∀ j, w'.frozen? ⟨w.heap.size + 1, j, none⟩ = false := fun j => frozen_of_row _ _ _ _ _ hbb'
    have HBW := Lib.hid hbw
    clear hb' hbb' hbw
    go_wp2
    refine bodyPost_ret (v := .tuple #[.agg #[.int .i64 r.m, .int .i64 (r.f 0), .int .i64 (r.f 1), .int .i64 (r.f 2), .int .i64 (r.f 3), .int .i64 (r.f 4), .int .i64 (r.f 5), .int .i64 (r.f 6), .int .i64 (r.f 7)], .int .i64 0]) (by simp [results, Tryz.results71, go_sem, hbl', k0, k1, k2, k3, k4, k5, k6, k7, k8]) rfl ⟨rfl, ?_⟩
    refine nb_alloc ?_ _
    iterate 9 (refine nb_set ?_ _ _ _ (by omega))
    exact HBW.out

theorem worldGet_any (p : Nat) (F : Nat → Prop) (l : List (Int × Bool)) (rows : List Rw) (a b : Int) (r : Rw) (x : Int) (w : World) (h : WldAt w p F l (· ∈ rows)) (ha : I64r a) (hb : I64r b) (hr : getR rows a b = r) (hx : getE rows a b = x) :
    Calls Tryz.prog 71 #[.pointer (some ⟨p, 0, none⟩), .agg #[.int .i64 a, .int .i64 b]] w fun e w' => e = .returned (.tuple #[.agg #[.int .i64 r.m, .int .i64 (r.f 0), .int .i64 (r.f 1), .int .i64 (r.f 2), .int .i64 (r.f 3), .int .i64 (r.f 4), .int .i64 (r.f 5), .int .i64 (r.f 6), .int .i64 (r.f 7)], .int .i64 x]) ∧ Below w.heap.size w w' := by
  cases hh : hasH rows a b
  · obtain ⟨e1, e2⟩ := getE_no hh
    rw [← hr, ← hx, e1, e2]
    exact worldGet_no p F l rows a b w h ha hb hh
  · obtain ⟨e1, e2⟩ := getE_yes hh
    rw [← hr, ← hx, e1, e2]
    exact worldGet_yes p F l rows a b _ w h ha hb hh rfl
end Go.Proofs.YtlclceiebnnpgaaGreat

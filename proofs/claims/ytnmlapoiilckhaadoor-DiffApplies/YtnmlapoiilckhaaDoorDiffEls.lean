/- Rows and changes as they lie in cells; entities compared; maps from handles to entities. -/
import Derived.Test.YtnmlapoiilckhaaDoorDiffModel
import Derived.Test.YtnmlapoiilckhaaDoorGroundA
import Derived.ChangeKeysEq
import Derived.Deep.MidRow
import Derived.Deep.WholeRow
import Derived.Laws.StructEq
namespace Go.Proofs.YtnmlapoiilckhaaDoor
open Go.ChangeShapes Go.WideShapes Go.ChangeAt Go.RowKit Go.Deep

/-- an entity, a row, a change as values -/
abbrev beV (b : Be) : Value := .agg #[.int .i64 b.1, .int .i64 b.2.1, .int .i64 b.2.2.1, .int .i64 b.2.2.2.1, .int .i64 b.2.2.2.2.1, .int .i64 b.2.2.2.2.2.1, .int .i64 b.2.2.2.2.2.2.1, .int .i64 b.2.2.2.2.2.2.2.1, .int .i64 b.2.2.2.2.2.2.2.2]
abbrev roV (r : Ro) : Value := .agg #[.int .i64 r.1.1, .int .i64 r.1.2, .int .i64 r.2.1, .int .i64 r.2.2.1, .int .i64 r.2.2.2.1, .int .i64 r.2.2.2.2.1, .int .i64 r.2.2.2.2.2.1, .int .i64 r.2.2.2.2.2.2.1, .int .i64 r.2.2.2.2.2.2.2.1, .int .i64 r.2.2.2.2.2.2.2.2.1, .int .i64 r.2.2.2.2.2.2.2.2.2]
abbrev chV (c : Ch) : Value := .agg #[.int .i64 c.1.1, .int .i64 c.1.2, .int .i64 c.2.1.1, .int .i64 c.2.1.2.1, .int .i64 c.2.1.2.2.1, .int .i64 c.2.1.2.2.2.1, .int .i64 c.2.1.2.2.2.2.1, .int .i64 c.2.1.2.2.2.2.2.1, .int .i64 c.2.1.2.2.2.2.2.2.1, .int .i64 c.2.1.2.2.2.2.2.2.2.1, .int .i64 c.2.1.2.2.2.2.2.2.2.2, .int .i64 c.2.2.1, .int .i64 c.2.2.2.1, .int .i64 c.2.2.2.2.1, .int .i64 c.2.2.2.2.2.1, .int .i64 c.2.2.2.2.2.2.1, .int .i64 c.2.2.2.2.2.2.2.1, .int .i64 c.2.2.2.2.2.2.2.2.1, .int .i64 c.2.2.2.2.2.2.2.2.2.1, .int .i64 c.2.2.2.2.2.2.2.2.2.2]
def roZ : Ro := ((0, 0), (0, 0, 0, 0, 0, 0, 0, 0, 0))
def chZ : Ch := ((0, 0), (0, 0, 0, 0, 0, 0, 0, 0, 0), (0, 0, 0, 0, 0, 0, 0, 0, 0))
def elRo : El Ro := { enc := fun r => [.int .i64 r.1.1, .int .i64 r.1.2, .int .i64 r.2.1, .int .i64 r.2.2.1, .int .i64 r.2.2.2.1, .int .i64 r.2.2.2.2.1, .int .i64 r.2.2.2.2.2.1, .int .i64 r.2.2.2.2.2.2.1, .int .i64 r.2.2.2.2.2.2.2.1, .int .i64 r.2.2.2.2.2.2.2.2.1, .int .i64 r.2.2.2.2.2.2.2.2.2], size := 11, zero := roZ, len := fun _ => rfl, pos := by decide, one := fun x u hu => by simp at hu; rcases hu with rfl | rfl | rfl | rfl | rfl | rfl | rfl | rfl | rfl | rfl | rfl <;> rfl }
def elCh : El Ch := { enc := fun c => [.int .i64 c.1.1, .int .i64 c.1.2, .int .i64 c.2.1.1, .int .i64 c.2.1.2.1, .int .i64 c.2.1.2.2.1, .int .i64 c.2.1.2.2.2.1, .int .i64 c.2.1.2.2.2.2.1, .int .i64 c.2.1.2.2.2.2.2.1, .int .i64 c.2.1.2.2.2.2.2.2.1, .int .i64 c.2.1.2.2.2.2.2.2.2.1, .int .i64 c.2.1.2.2.2.2.2.2.2.2, .int .i64 c.2.2.1, .int .i64 c.2.2.2.1, .int .i64 c.2.2.2.2.1, .int .i64 c.2.2.2.2.2.1, .int .i64 c.2.2.2.2.2.2.1, .int .i64 c.2.2.2.2.2.2.2.1, .int .i64 c.2.2.2.2.2.2.2.2.1, .int .i64 c.2.2.2.2.2.2.2.2.2.1, .int .i64 c.2.2.2.2.2.2.2.2.2.2], size := 20, zero := chZ, len := fun _ => rfl, pos := by decide, one := fun x u hu => by simp at hu; rcases hu with rfl | rfl | rfl | rfl | rfl | rfl | rfl | rfl | rfl | rfl | rfl | rfl | rfl | rfl | rfl | rfl | rfl | rfl | rfl | rfl <;> rfl }
section
variable {X : World} {B O : Nat}
theorem cRo {s g m a0 a1 a2 a3 a4 a5 a6 a7 : Int} (h : ∀ j, j < 11 → X.cell? ⟨B, O + j, none⟩ = (elRo.enc ((s, g), m, a0, a1, a2, a3, a4, a5, a6, a7))[j]?) : X.cell? ⟨B, O, none⟩ = some (.int .i64 s) ∧ X.cell? ⟨B, O + 1, none⟩ = some (.int .i64 g) ∧ X.cell? ⟨B, O + 2, none⟩ = some (.int .i64 m) ∧ X.cell? ⟨B, O + 3, none⟩ = some (.int .i64 a0) ∧ X.cell? ⟨B, O + 4, none⟩ = some (.int .i64 a1) ∧ X.cell? ⟨B, O + 5, none⟩ = some (.int .i64 a2) ∧ X.cell? ⟨B, O + 6, none⟩ = some (.int .i64 a3) ∧ X.cell? ⟨B, O + 7, none⟩ = some (.int .i64 a4) ∧ X.cell? ⟨B, O + 8, none⟩ = some (.int .i64 a5) ∧ X.cell? ⟨B, O + 9, none⟩ = some (.int .i64 a6) ∧ X.cell? ⟨B, O + 10, none⟩ = some (.int .i64 a7) :=
  ⟨h 0 (by decide), h 1 (by decide), h 2 (by decide), h 3 (by decide), h 4 (by decide), h 5 (by decide), h 6 (by decide), h 7 (by decide), h 8 (by decide), h 9 (by decide), h 10 (by decide)⟩
theorem cCh {s g m a0 a1 a2 a3 a4 a5 a6 a7 q b0 b1 b2 b3 b4 b5 b6 b7 : Int} (h : ∀ j, j < 20 → X.cell? ⟨B, O + j, none⟩ = (elCh.enc ((s, g), (m, a0, a1, a2, a3, a4, a5, a6, a7), q, b0, b1, b2, b3, b4, b5, b6, b7))[j]?) : X.cell? ⟨B, O, none⟩ = some (.int .i64 s) ∧ X.cell? ⟨B, O + 1, none⟩ = some (.int .i64 g) ∧ X.cell? ⟨B, O + 2, none⟩ = some (.int .i64 m) ∧ X.cell? ⟨B, O + 3, none⟩ = some (.int .i64 a0) ∧ X.cell? ⟨B, O + 4, none⟩ = some (.int .i64 a1) ∧ X.cell? ⟨B, O + 5, none⟩ = some (.int .i64 a2) ∧ X.cell? ⟨B, O + 6, none⟩ = some (.int .i64 a3) ∧ X.cell? ⟨B, O + 7, none⟩ = some (.int .i64 a4) ∧ X.cell? ⟨B, O + 8, none⟩ = some (.int .i64 a5) ∧ X.cell? ⟨B, O + 9, none⟩ = some (.int .i64 a6) ∧ X.cell? ⟨B, O + 10, none⟩ = some (.int .i64 a7) ∧ X.cell? ⟨B, O + 11, none⟩ = some (.int .i64 q) ∧ X.cell? ⟨B, O + 12, none⟩ = some (.int .i64 b0) ∧ X.cell? ⟨B, O + 13, none⟩ = some (.int .i64 b1) ∧ X.cell? ⟨B, O + 14, none⟩ = some (.int .i64 b2) ∧ X.cell? ⟨B, O + 15, none⟩ = some (.int .i64 b3) ∧ X.cell? ⟨B, O + 16, none⟩ = some (.int .i64 b4) ∧ X.cell? ⟨B, O + 17, none⟩ = some (.int .i64 b5) ∧ X.cell? ⟨B, O + 18, none⟩ = some (.int .i64 b6) ∧ X.cell? ⟨B, O + 19, none⟩ = some (.int .i64 b7) :=
  ⟨h 0 (by decide), h 1 (by decide), h 2 (by decide), h 3 (by decide), h 4 (by decide), h 5 (by decide), h 6 (by decide), h 7 (by decide), h 8 (by decide), h 9 (by decide), h 10 (by decide), h 11 (by decide), h 12 (by decide), h 13 (by decide), h 14 (by decide), h 15 (by decide), h 16 (by decide), h 17 (by decide), h 18 (by decide), h 19 (by decide)⟩
end
theorem infoRo : (Tryd.prog.info? 33).map (fun i => (i.zero, i.size, i.bytes)) = some (some (roV roZ), 11, 88) := by kernel_rfl
theorem infoCh : (Tryd.prog.info? 36).map (fun i => (i.zero, i.size, i.bytes)) = some (some (chV chZ), 20, 160) := by kernel_rfl
theorem ro_dec {H : Type} {enc : TypeId × Value → H} {W : World} {base : Nat} {sp : Nat → Bool} {held : Bool} (fuel : Nat) (cs : List Value) (x) (hl : cs.length = elRo.size) (h : DataW.trod enc Tryd.prog W base sp held fuel 33 cs = some x) : ∃ y, cs = elRo.enc y ∧ (I64 y.1.1 ∧ I64 y.1.2) := by
  obtain ⟨zs, rfl, hz⟩ := ints_of_cells cs (flat_cells 5 33 fuel cs x (by kernel_rfl) h)
  have hl' : zs.length = 11 := by simpa [elRo] using hl
  match zs, hl' with
  | [s, g, a, b, c, d, e, f, i, j, k], _ => exact ⟨((s, g), (a, b, c, d, e, f, i, j, k)), rfl, hz s (by simp), hz g (by simp)⟩
set_option maxRecDepth 20000 in
theorem ch_dec {H : Type} {enc : TypeId × Value → H} {W : World} {base : Nat} {sp : Nat → Bool} {held : Bool} (fuel : Nat) (cs : List Value) (x) (hl : cs.length = elCh.size) (h : DataW.trod enc Tryd.prog W base sp held fuel 36 cs = some x) : ∃ y, cs = elCh.enc y ∧ (I64 y.1.1 ∧ I64 y.1.2) := by
  obtain ⟨zs, rfl, hz⟩ := ints_of_cells cs (flat_cells 5 36 fuel cs x (by kernel_rfl) h)
  have hl' : zs.length = 20 := by simpa [elCh] using hl
  match zs, hl' with
  | [s, g, a, b, c, d, e, f, i, j, k, a', b', c', d', e', f', i', j', k'], _ => exact ⟨((s, g), (a, b, c, d, e, f, i, j, k), (a', b', c', d', e', f', i', j', k')), rfl, hz s (by simp), hz g (by simp)⟩

theorem eqArr (d : Nat) (a0 a1 a2 a3 a4 a5 a6 a7 b0 b1 b2 b3 b4 b5 b6 b7 : Int) (w : World) : (Op.equalIn (d + 2) 29 (.agg #[.int .i64 a0, .int .i64 a1, .int .i64 a2, .int .i64 a3, .int .i64 a4, .int .i64 a5, .int .i64 a6, .int .i64 a7]) (.agg #[.int .i64 b0, .int .i64 b1, .int .i64 b2, .int .i64 b3, .int .i64 b4, .int .i64 b5, .int .i64 b6, .int .i64 b7])).run Tryd.prog w = .ok (decide (a0 = b0 ∧ a1 = b1 ∧ a2 = b2 ∧ a3 = b3 ∧ a4 = b4 ∧ a5 = b5 ∧ a6 = b6 ∧ a7 = b7)) w := by
  obtain ⟨i, hi, _⟩ := info_parts infoInt
  have hc : Tryd.prog.cellsOf 3 = 1 := by kernel_rfl
  have he : ∀ x y w, (Op.equalIn (d + 1) 3 (.int .i64 x) (.int .i64 y)).run Tryd.prog w = .ok (x == y) w := fun x y w => by rw [run_equalIn_int w d 3 .i64 .i64 _ _ Tryd.underlying3]
  rw [run_equalIn_array (P := Tryd.prog) w (d + 1) _ _ Tryd.underlying29 hi, hc]
  by_cases h0 : a0 = b0
  case neg => simp [List.range, List.range.loop, Op.eqItems, part, isAgg, run_underlying Tryd.underlying3, he, h0]
  subst h0
  by_cases h1 : a1 = b1
  case neg => simp [List.range, List.range.loop, Op.eqItems, part, isAgg, run_underlying Tryd.underlying3, he, h1]
  subst h1
  by_cases h2 : a2 = b2
  case neg => simp [List.range, List.range.loop, Op.eqItems, part, isAgg, run_underlying Tryd.underlying3, he, h2]
  subst h2
  by_cases h3 : a3 = b3
  case neg => simp [List.range, List.range.loop, Op.eqItems, part, isAgg, run_underlying Tryd.underlying3, he, h3]
  subst h3
  by_cases h4 : a4 = b4
  case neg => simp [List.range, List.range.loop, Op.eqItems, part, isAgg, run_underlying Tryd.underlying3, he, h4]
  subst h4
  by_cases h5 : a5 = b5
  case neg => simp [List.range, List.range.loop, Op.eqItems, part, isAgg, run_underlying Tryd.underlying3, he, h5]
  subst h5
  by_cases h6 : a6 = b6
  case neg => simp [List.range, List.range.loop, Op.eqItems, part, isAgg, run_underlying Tryd.underlying3, he, h6]
  subst h6
  by_cases h7 : a7 = b7
  case neg => simp [List.range, List.range.loop, Op.eqItems, part, isAgg, run_underlying Tryd.underlying3, he, h7]
  subst h7
  simp [List.range, List.range.loop, Op.eqItems, part, isAgg, run_underlying Tryd.underlying3, he]
/-- rows and changes loaded and stored whole -/
theorem ld_all {P : Program} {w : World} {b o : Nat} {ty : TypeId} {d : TypeDesc} {cs : List Value} (h : ∀ j, j < cs.length → w.cell? ⟨b, o + j, none⟩ = cs[j]?) (hu : P.underlying ty = some d) (hd : d.isRow = true) (hi : (P.info? ty).map (·.size) = some cs.length) :
    (Instr.loadAt ty (.pointer (some ⟨b, o, none⟩))).run P w = .ok (.agg cs.toArray) w := by
  have hr : w.rangeAt b o cs := fun j v hv => by
    have hj := (List.getElem?_eq_some_iff.1 hv).1
    rw [h j hj, hv]
  simp only [Instr.loadAt, Instr.sureAddr, Sem.run_bind, Sem.run_pure, Result.andThen_ok, run_loadVar_mid w b o ty cs d hr hu hd hi]
theorem ld_ch {w : World} {b o : Nat} {c : Ch} (h : ∀ j, j < 20 → w.cell? ⟨b, o + j, none⟩ = (elCh.enc c)[j]?) : (Instr.loadAt 36 (.pointer (some ⟨b, o, none⟩))).run Tryd.prog w = .ok (chV c) w :=
  ld_all (cs := elCh.enc c) (fun j hj => h j (by rwa [elCh.len] at hj)) Tryd.underlying36 rfl (by kernel_rfl)
theorem ld_ro {w : World} {b o : Nat} {c : Ro} (h : ∀ j, j < 11 → w.cell? ⟨b, o + j, none⟩ = (elRo.enc c)[j]?) : (Instr.loadAt 33 (.pointer (some ⟨b, o, none⟩))).run Tryd.prog w = .ok (roV c) w :=
  ld_all (cs := elRo.enc c) (fun j hj => h j (by rwa [elRo.len] at hj)) Tryd.underlying33 rfl (by kernel_rfl)
theorem ld_new (c : Ch) (w : World) : (Instr.loadAt 36 (.pointer (some ⟨w.heap.size, 0, none⟩))).run Tryd.prog (w.alloc (.cells (elCh.enc c).toArray 36)) = .ok (chV c) (w.alloc (.cells (elCh.enc c).toArray 36)) :=
  ld_ch (fun j hj => by rw [Nat.zero_add, cell_of_row _ _ _ _ _ _ (heap_alloc_new w _)]; simp)
theorem st_new (c : Ch) (w : World) : (Instr.storeAt 36 (.pointer (some ⟨w.heap.size, 0, none⟩)) (chV c)).run Tryd.prog (w.alloc (.cells #[.int .i64 0, .int .i64 0, .int .i64 0, .int .i64 0, .int .i64 0, .int .i64 0, .int .i64 0, .int .i64 0, .int .i64 0, .int .i64 0, .int .i64 0, .int .i64 0, .int .i64 0, .int .i64 0, .int .i64 0, .int .i64 0, .int .i64 0, .int .i64 0, .int .i64 0, .int .i64 0] 36)) = .ok () (w.alloc (.cells (elCh.enc c).toArray 36)) := by
  have := run_storeVar_new (P := Tryd.prog) w 36 #[.int .i64 0, .int .i64 0, .int .i64 0, .int .i64 0, .int .i64 0, .int .i64 0, .int .i64 0, .int .i64 0, .int .i64 0, .int .i64 0, .int .i64 0, .int .i64 0, .int .i64 0, .int .i64 0, .int .i64 0, .int .i64 0, .int .i64 0, .int .i64 0, .int .i64 0, .int .i64 0] (elCh.enc c).toArray (by kernel_rfl) rfl (all_oneCell_toArray (elCh.one c))
  simp only [Instr.storeAt, Instr.sureAddr, Sem.run_bind, Sem.run_pure, Result.andThen_ok]
  exact this
theorem lv_ch {w : World} {b o : Nat} {c : Ch} (h : ∀ j, j < 20 → w.cell? ⟨b, o + j, none⟩ = (elCh.enc c)[j]?) : (loadVar 36 ⟨b, o, none⟩).run Tryd.prog w = .ok (chV c) w :=
  run_loadVar_mid w b o 36 (elCh.enc c) _ (fun j v hv => by rw [h j (by have := (List.getElem?_eq_some_iff.1 hv).1; rwa [elCh.len] at this), hv]) Tryd.underlying36 rfl (by kernel_rfl)
theorem lv_new (c : Ch) (w : World) : (loadVar 36 ⟨w.heap.size, 0, none⟩).run Tryd.prog (w.alloc (.cells (elCh.enc c).toArray 36)) = .ok (chV c) (w.alloc (.cells (elCh.enc c).toArray 36)) :=
  lv_ch (fun j hj => by rw [Nat.zero_add, cell_of_row _ _ _ _ _ _ (heap_alloc_new w _)]; simp)
theorem sv_new (c : Ch) (w : World) : (storeVar 36 ⟨w.heap.size, 0, none⟩ (chV c)).run Tryd.prog (w.alloc (.cells #[.int .i64 0, .int .i64 0, .int .i64 0, .int .i64 0, .int .i64 0, .int .i64 0, .int .i64 0, .int .i64 0, .int .i64 0, .int .i64 0, .int .i64 0, .int .i64 0, .int .i64 0, .int .i64 0, .int .i64 0, .int .i64 0, .int .i64 0, .int .i64 0, .int .i64 0, .int .i64 0] 36)) = .ok () (w.alloc (.cells (elCh.enc c).toArray 36)) :=
  run_storeVar_new (P := Tryd.prog) w 36 #[.int .i64 0, .int .i64 0, .int .i64 0, .int .i64 0, .int .i64 0, .int .i64 0, .int .i64 0, .int .i64 0, .int .i64 0, .int .i64 0, .int .i64 0, .int .i64 0, .int .i64 0, .int .i64 0, .int .i64 0, .int .i64 0, .int .i64 0, .int .i64 0, .int .i64 0, .int .i64 0] (elCh.enc c).toArray (by kernel_rfl) rfl (all_oneCell_toArray (elCh.one c))
/-- two entities compared -/
theorem eqBe_at (m a0 a1 a2 a3 a4 a5 a6 a7 q b0 b1 b2 b3 b4 b5 b6 b7 : Int) (w : World) : (Op.equalIn 10000 31 (.agg #[.int .i64 m, .int .i64 a0, .int .i64 a1, .int .i64 a2, .int .i64 a3, .int .i64 a4, .int .i64 a5, .int .i64 a6, .int .i64 a7]) (.agg #[.int .i64 q, .int .i64 b0, .int .i64 b1, .int .i64 b2, .int .i64 b3, .int .i64 b4, .int .i64 b5, .int .i64 b6, .int .i64 b7])).run Tryd.prog w = .ok (decide (((m, a0, a1, a2, a3, a4, a5, a6, a7) : Be) = (q, b0, b1, b2, b3, b4, b5, b6, b7))) w := by
  have he := eqArr 9997 a0 a1 a2 a3 a4 a5 a6 a7 b0 b1 b2 b3 b4 b5 b6 b7
  by_cases h : m = q
  · subst h
    simp [go_sem, he]
    split <;> simp_all
  · simp [go_sem, h]
theorem eqBe (a b : Be) (t : Bool) (h : decide (a = b) = t) (w : World) : (binOp .eql 31 (beV a) (beV b)).run Tryd.prog w = .ok (.bool t) w := by
  rw [run_eql_struct, eqBe_at, ← h]; rfl
theorem neBe (a b : Be) (t : Bool) (h : decide (a = b) = t) (w : World) : (binOp .neq 31 (beV a) (beV b)).run Tryd.prog w = .ok (.bool (!t)) w := by
  rw [run_neq_struct, eqBe_at, ← h]; rfl
end Go.Proofs.YtnmlapoiilckhaaDoor

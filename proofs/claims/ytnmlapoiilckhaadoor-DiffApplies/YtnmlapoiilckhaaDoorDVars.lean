/- What the variable 'none' of package diff holds. -/
import Derived.Test.YtnmlapoiilckhaaDoorDiffEls
import Derived.Lib.LaidTab
import Derived.ChangeBears2
import Derived.MakeChecks
import Derived.FnData
namespace Go.Proofs.YtnmlapoiilckhaaDoor
open Go Go.ChangeShapes Go.WideShapes Go.ChangeAt Go.RowKit

theorem gNone : Tryd.prog.globalNamed "vivarium/diff.none" = some 0 := by kernel_rfl
def noneCells : Array Value := #[.int .i64 (-1), .int .i64 0, .int .i64 0, .int .i64 0, .int .i64 0, .int .i64 0, .int .i64 0, .int .i64 0, .int .i64 0]
/-- The variable's nine cells. -/
def DVars (w : World) : Prop := ∀ j, j < 9 → w.cell? ⟨0, j, none⟩ = noneCells[j]?
theorem DVars.lt {w : World} (h : DVars w) : 0 < w.heap.size := World.block_lt_of_cell? _ _ (h 0 (by omega))
theorem DVars.later {w w' : World} (h : DVars w) (hb : Below w.heap.size w w') : DVars w' := fun j hj => (hb.cell (p := ⟨0, j, none⟩) h.lt).trans (h j hj)
theorem DVars.kept {w w' : World} {F : Nat → Prop} (h : DVars w) (hk : Kept F w w') (hF : ¬ F 0) : DVars w' := fun j hj => (hk.cell (p := ⟨0, j, none⟩) h.lt hF).trans (h j hj)
theorem DVars.cells {w : World} (h : DVars w) : w.cell? ⟨0, 0, none⟩ = some (.int .i64 (-1)) ∧ w.cell? ⟨0, 1, none⟩ = some (.int .i64 0) ∧ w.cell? ⟨0, 2, none⟩ = some (.int .i64 0) ∧ w.cell? ⟨0, 3, none⟩ = some (.int .i64 0) ∧ w.cell? ⟨0, 4, none⟩ = some (.int .i64 0) ∧ w.cell? ⟨0, 5, none⟩ = some (.int .i64 0) ∧ w.cell? ⟨0, 6, none⟩ = some (.int .i64 0) ∧ w.cell? ⟨0, 7, none⟩ = some (.int .i64 0) ∧ w.cell? ⟨0, 8, none⟩ = some (.int .i64 0) :=
  ⟨h 0 (by omega), h 1 (by omega), h 2 (by omega), h 3 (by omega), h 4 (by omega), h 5 (by omega), h 6 (by omega), h 7 (by omega), h 8 (by omega)⟩
theorem list8_ext {xs : List Value} (h : xs.length = 8) : ∃ a b c d e f g k, xs = [a, b, c, d, e, f, g, k] := by
  match xs, h with
  | [a, b, c, d, e, f, g, k], _ => exact ⟨a, b, c, d, e, f, g, k, rfl⟩
theorem DVars.of {W : World} (h0 : laidMetH Tryd.prog [("vivarium/diff.none", Rows.laid_vivarium_diff_none)] W) (_ : W.ShapedOpen Tryd.prog) : DVars W := by
  rw [MakeChecks.laidMetH_plain _ _ _ (by kernel_rfl)] at h0
  obtain ⟨ps, ⟨g', t', cs, fuel, p, q, hg', ht', hvar, hd, _, _⟩, _⟩ := h0
  obtain rfl := Option.some.inj (gNone.symm.trans hg')
  obtain rfl := Option.some.inj ((show (Tryd.prog.globals[0]?).map (·.type) = some 31 by kernel_rfl).symm.trans ht')
  obtain ⟨xs, n, _, hx, hl, hlen, hp⟩ := DataW.trod_struct Tryd.underlying31 hd
  rw [show Tryd.prog.cellsOf 31 = 9 by kernel_rfl] at hl
  have h1 := hp 0 _ rfl
  have h2 := hp 1 _ rfl
  match xs, hlen with
  | [x0, x1], _ =>
    simp only [Prod.mk.injEq, List.map_cons, List.map_nil, Rows.laid_vivarium_diff_none, DataW.agg.injEq, List.cons.injEq, and_true] at hx
    obtain ⟨⟨e0, e1⟩, _⟩ := hx
    have e1' : x1 = (Lib.tabData .i64 [0, 0, 0, 0, 0, 0, 0, 0], x1.2) := Prod.ext e1.symm rfl
    have c1 := Lib.cells_of_tab (k := .i64) (zs := [0, 0, 0, 0, 0, 0, 0, 0]) (p := x1.2) Tryd.underlying29 Tryd.underlying3 (by kernel_rfl) (n := 8) (by kernel_rfl) (h2.trans (congrArg some e1'))
    obtain ⟨z, hz, hz2, _⟩ := DataW.trod_int Tryd.underlying3 h1
    have hzz : z = -1 := by simpa using (e0.trans (congrArg Prod.fst hz2)).symm
    subst hzz
    have hcs : cs.toList = (cs.toList.drop 0).take 1 ++ (cs.toList.drop 1).take 8 := by
      rw [List.drop_zero, List.take_of_length_le (l := cs.toList.drop 1) (by rw [List.length_drop, hl]; omega)]
      exact (List.take_append_drop 1 cs.toList).symm
    have d1 : (cs.toList.drop 1).take (Tryd.prog.cellsOf 29) = [Value.int .i64 0, .int .i64 0, .int .i64 0, .int .i64 0, .int .i64 0, .int .i64 0, .int .i64 0, .int .i64 0] := c1
    have d0 : (cs.toList.drop 0).take (Tryd.prog.cellsOf 3) = [Value.int .i64 (-1)] := hz
    rw [show Tryd.prog.cellsOf 29 = 8 by kernel_rfl] at d1
    rw [show Tryd.prog.cellsOf 3 = 1 by kernel_rfl] at d0
    rw [d0, d1] at hcs
    have : cs = noneCells := by
      apply Array.toList_inj.1
      rw [hcs]; rfl
    subst this
    exact fun j _ => World.var?_cell gNone hvar j
end Go.Proofs.YtnmlapoiilckhaaDoor

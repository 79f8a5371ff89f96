/- A struct of many cells loaded and stored as one value: at the operation. -/
import Derived.TacticsIn
import Derived.OwnWalkIn
import Derived.Maps.OwnIn
import Derived.Deep.MidRow
import Derived.Test.YtnmlapoiilckhaaDoorDiffEls
namespace Go.Proofs.YtnmlapoiilckhaaDoor
open Go.RowKit
section
variable {P : Program} {ops : Array Oper} {rest : List Oper} {o : Oper} {a : Act} {w : World} {Q : Exit → Act → World → Prop}
theorem wp_ldY {K : Act → World → Prop} (ty : TypeId) (x : Operand) (ho : o.op = .load ty x) (p : Value) (hx : a.eval x = p) (v : Value) (hr : (Instr.loadAt ty p).run P w = .ok v w) (h : K (a.put o.dst v) w) : o.wp P a w K Q := by
  unfold Oper.wp execOp
  simp only [ho, hx, Sem.run_bind, hr, Sem.run_pure, Result.andThen_ok]
  exact h
theorem wpList_ldY (hg : o.guard = none) (ty : TypeId) (x : Operand) (ho : o.op = .load ty x) (p : Value) (hx : a.eval x = p) (v : Value) (hr : (Instr.loadAt ty p).run P w = .ok v w) (h : wpList P ops Q rest (a.put o.dst v) w) : wpList P ops Q (o :: rest) a w :=
  wpList_plain hg fun _ hK => wp_ldY ty x ho p hx v hr (hK _ _ h)
theorem wp_stY {K : Act → World → Prop} {w' : World} (ty : TypeId) (x y : Operand) (ho : o.op = .store ty x y) (p : Value) (hx : a.eval x = p) (v : Value) (hy : a.eval y = v) (hr : (Instr.storeAt ty p v).run P w = .ok () w') (h : K (a.put o.dst undef) w') : o.wp P a w K Q := by
  unfold Oper.wp execOp
  simp only [ho, hx, hy, Sem.run_bind, hr, Sem.run_pure, Result.andThen_ok]
  exact h
theorem wpList_stY {w' : World} (hg : o.guard = none) (ty : TypeId) (x y : Operand) (ho : o.op = .store ty x y) (p : Value) (hx : a.eval x = p) (v : Value) (hy : a.eval y = v) (hr : (Instr.storeAt ty p v).run P w = .ok () w') (h : wpList P ops Q rest (a.put o.dst undef) w') : wpList P ops Q (o :: rest) a w :=
  wpList_plain hg fun _ hK => wp_stY ty x y ho p hx v hy hr (hK _ _ h)
variable {F : Fence} {nF : Nat}
theorem wpListIn_ldY (hg : o.guard = none) (ty : TypeId) (x : Operand) (ho : o.op = .load ty x) (p : Value) (hx : a.eval x = p) (v : Value) (hr : (Instr.loadAt ty p).run P w = .ok v w) (h : wpListIn F nF P ops Q rest (a.put o.dst v) w) : wpListIn F nF P ops Q (o :: rest) a w := by
  refine wpListIn_plain hg fun K hK => ?_
  unfold Oper.wpIn
  refine ⟨by simp [Oper.about, ho], ?_⟩
  rw [Oper.semAt_plain F _ _ (by rw [ho]; intro c hc; cases hc)]
  simp only [execOp, ho, hx, Sem.run_bind, hr, Sem.run_pure, Result.andThen_ok]
  exact hK _ _ h
theorem wpListIn_stY {w' : World} (hg : o.guard = none) (ty : TypeId) (x y : Operand) (ho : o.op = .store ty x y) (p : Value) (hx : a.eval x = p) (v : Value) (hy : a.eval y = v) (hr : (Instr.storeAt ty p v).run P w = .ok () w') (h : wpListIn F nF P ops Q rest (a.put o.dst undef) w') : wpListIn F nF P ops Q (o :: rest) a w := by
  refine wpListIn_plain hg fun K hK => ?_
  unfold Oper.wpIn
  refine ⟨by simp [Oper.about, ho], ?_⟩
  rw [Oper.semAt_plain F _ _ (by rw [ho]; intro c hc; cases hc)]
  simp only [execOp, ho, hx, hy, Sem.run_bind, hr, Sem.run_pure, Result.andThen_ok]
  exact hK _ _ h
/-- 'append(l, y)': the element is laid in a block of its own first -/
theorem run_bsY (y : Ch) (w : World) : (Instr.buildSlice 23 1 #[(0, chV y)]).run Tryd.prog w = .ok (.slice (some ⟨w.heap.size, 0, none⟩) 1 1) (w.alloc (.cells (elCh.enc y).toArray 36)) := by
  simp [go_sem]
  rfl
theorem wpList_bsY {v w2} (hg : o.guard = none) (ty : TypeId) (x : Operand) (ho : o.op = .buildSlice ty 1 #[(0, x)]) (y : Value) (hx : a.eval x = y) (hr : (Instr.buildSlice ty 1 #[(0, y)]).run P w = .ok v w2) (h : wpList P ops Q rest (a.put o.dst v) w2) : wpList P ops Q (o :: rest) a w := by
  refine wpList_plain hg fun _ hK => ?_
  unfold Oper.wp execOp
  simp only [ho, List.map_toArray, List.map_cons, List.map_nil, hx, Sem.run_bind, hr, Sem.run_pure, Result.andThen_ok]
  exact hK _ _ h
theorem wpListIn_bsY {v w2} (hg : o.guard = none) (ty : TypeId) (x : Operand) (ho : o.op = .buildSlice ty 1 #[(0, x)]) (y : Value) (hx : a.eval x = y) (hr : (Instr.buildSlice ty 1 #[(0, y)]).run P w = .ok v w2) (h : wpListIn F nF P ops Q rest (a.put o.dst v) w2) : wpListIn F nF P ops Q (o :: rest) a w := by
  refine wpListIn_plain hg fun K hK => ?_
  unfold Oper.wpIn
  refine ⟨by simp [Oper.about, ho], ?_⟩
  rw [Oper.semAt_plain F _ _ (by rw [ho]; intro c hc; cases hc)]
  simp only [execOp, ho, List.map_toArray, List.map_cons, List.map_nil, hx, Sem.run_bind, hr, Sem.run_pure, Result.andThen_ok]
  exact hK _ _ h
end
theorem ld_old {w : World} {b : Nat} {c : Ch} (h : ∀ j, j < 20 → w.cell? ⟨b, j, none⟩ = (elCh.enc c)[j]?) : (Instr.loadAt 31 (.pointer (some ⟨b, 2, none⟩))).run Tryd.prog w = .ok (beV c.2.1) w :=
  ld_all (cs := ((elCh.enc c).drop 2).take 9) (fun j hj => by
    have hj' : j < 9 := by simpa [elCh] using hj
    rw [h (2 + j) (by omega), List.getElem?_take_of_lt hj', List.getElem?_drop]) Tryd.underlying31 rfl (by kernel_rfl)
theorem ld_now {w : World} {b : Nat} {c : Ch} (h : ∀ j, j < 20 → w.cell? ⟨b, j, none⟩ = (elCh.enc c)[j]?) : (Instr.loadAt 31 (.pointer (some ⟨b, 11, none⟩))).run Tryd.prog w = .ok (beV c.2.2) w :=
  ld_all (cs := ((elCh.enc c).drop 11).take 9) (fun j hj => by
    have hj' : j < 9 := by simpa [elCh] using hj
    rw [h (11 + j) (by omega), List.getElem?_take_of_lt hj', List.getElem?_drop]) Tryd.underlying31 rfl (by kernel_rfl)
end Go.Proofs.YtnmlapoiilckhaaDoor

/- Rows up to a place and from a place on; an append of elements that are only read, as a step of a region that draws. -/
import Derived.Test.YtnmlapoiilckhaaDoorRefDiffWith
import Derived.Test.YtnmlapoiilckhaaDoorRefBetKit
import Derived.Laws.OwnMore
namespace Go.Proofs.YtnmlapoiilckhaaDoor
open Go.RowKit
set_option linter.unusedSimpArgs false
set_option linter.unusedVariables false

theorem Reads.takeY {α : Type} {E : El α} {w : World} {a : Option Addr} {n cap t : Nat} {xs : List α} (h : Reads E w (.slice a n cap) xs) (ht : t ≤ xs.length) : Reads E w (.slice a t cap) (xs.take t) := by
  obtain ⟨a', cap', e, hl, hm, hc⟩ := h
  simp only [Value.slice.injEq] at e
  obtain ⟨rfl, rfl, rfl⟩ := e
  have hlen : (xs.take t).length = t := by rw [List.length_take]; omega
  refine ⟨a, cap, by rw [hlen], by rw [hlen]; omega, hm, fun k hk => ?_⟩
  rw [hlen] at hk
  obtain ⟨b, off, e, hb, hcc⟩ := hc k (by omega)
  refine ⟨b, off, e, hb, fun j hj => ?_⟩
  rw [hcc j hj, List.getD_eq_getElem?_getD, List.getD_eq_getElem?_getD, List.getElem?_take_of_lt hk]
theorem Reads.dropY {α : Type} {E : El α} {w : World} {a : Option Addr} {n cap t : Nat} {xs : List α} (h : Reads E w (.slice a n cap) xs) (ht : t ≤ xs.length) : Reads E w (.slice (a.map (fun x => x.add (t * E.size))) (n - t) (cap - t)) (xs.drop t) := by
  obtain ⟨a', cap', e, hl, hm, hc⟩ := h
  simp only [Value.slice.injEq] at e
  obtain ⟨rfl, rfl, rfl⟩ := e
  have hlen : (xs.drop t).length = xs.length - t := by rw [List.length_drop]
  refine ⟨_, cap - t, by rw [hlen], by rw [hlen]; omega, by omega, fun k hk => ?_⟩
  rw [hlen] at hk
  obtain ⟨b, off, rfl, hb, hcc⟩ := hc (t + k) (by omega)
  refine ⟨b, off + t * E.size, by simp [Addr.add], hb, fun j hj => ?_⟩
  have : off + t * E.size + k * E.size + j = off + (t + k) * E.size + j := by rw [Nat.add_mul]; omega
  rw [this, hcc j hj, List.getD_eq_getElem?_getD, List.getD_eq_getElem?_getD, List.getElem?_drop]
theorem Reads.dropZ {α : Type} {E : El α} {w : World} {a a' : Option Addr} {n cap c' t : Nat} {xs : List α} (h : Reads E w (.slice a n cap) xs) (ht : xs.length ≤ t) (hc : c' ≤ maxLen) : Reads E w (.slice a' 0 c') (xs.drop t) := by
  have hd : xs.drop t = [] := List.drop_eq_nil_of_le ht
  rw [hd]
  exact ⟨a', c', rfl, Nat.zero_le _, hc, fun k hk => by simp at hk⟩
theorem cellsY {α : Type} {E : El α} {w : World} {ad : Addr} {n cap : Nat} {xs : List α} (h : Reads E w (.slice (some ad) n cap) xs) : ∀ j u, (xs.flatMap E.enc)[j]? = some u → w.cell? (ad.add j) = some u := fun j u hu => by
  obtain ⟨a', cap', e, hl, hm, hc⟩ := h
  simp only [Value.slice.injEq] at e
  obtain ⟨rfl, rfl, rfl⟩ := e
  have hj := (List.getElem?_eq_some_iff.1 hu).1
  rw [length_enc] at hj
  have hp := E.pos
  have hk : j / E.size < xs.length := (Nat.div_lt_iff_lt_mul hp).2 hj
  have hr : j % E.size < E.size := Nat.mod_lt _ hp
  have e1 : j / E.size * E.size + j % E.size = j := by have := Nat.div_add_mod j E.size; rw [Nat.mul_comm] at this; exact this
  obtain ⟨b, off, e2, hb, hcc⟩ := hc _ hk
  simp only [Option.some.injEq] at e2
  subst e2
  rw [← e1, enc_at E xs _ _ hk hr, ← hcc _ hr, Nat.add_assoc, e1] at hu
  rw [addr_add']
  exact hu
theorem run_append_nilY {P : Program} {w : World} (base : Nat) (t ty e : TypeId) (i : TypeInfo) (size c : Nat) (ht : P.underlying t = some (.slice e)) (hi : P.info? e = some i)
    (v : Value) (n : Nat) (xs : List Value) (hown : w.ownsRow base e size v n xs) :
    (Builtin.append_ #[t, t] ty #[v, .slice none 0 c]).run P w = .ok v w := by
  rcases hown.2 with ⟨rfl, rfl⟩ | ⟨g, cap, cur, rfl, _, _, hnc, _⟩
  · simp [Builtin.append_, run_underlying ht, sizeOf, typeInfo, hi, Builtin.lenOf, Builtin.firstCells]
  · simp [Builtin.append_, run_underlying ht, sizeOf, typeInfo, hi, Builtin.lenOf, Builtin.firstCells, hnc, storeCells]
/-- An append of elements that are only read, to an own slice. -/
theorem step_append_ro {α : Type} (E : El α) {P : Program} {w0 w : World} {ops : Array Oper} {o : Oper} {a : Act} {K : Act → World → Prop} {Q : Exit → Act → World → Prop} {C : Prop} (hg : o.guard = none) (s x : Operand) (t : TypeId)
    (ho : o.op = .call { callee := .builtin .append, args := #[s, x], argTypes := #[t, t] })
    (base : Nat) (e : TypeId) (i : TypeInfo) (z : Value) (bytes : Nat) (ht : P.underlying t = some (.slice e)) (hi : P.info? e = some i) (hz : i.zero = some z)
    (hsize : i.size = E.size) (hby : i.bytes = bytes) (hzs : z.cells.size = E.size)
    (v : Value) (xs : List α) (hs : a.eval s = v) (hown : OwnsF E w base e v xs)
    (y : Value) (ys : List α) (hx : a.eval x = y) (hr : Reads E w y ys)
    (h63 : xs.length + ys.length ≤ maxLen) (hbytes : (xs.length + ys.length) * bytes ≤ 140737488355328) (hb : Below base w0 w) (hbase : base ≤ w.heap.size)
    (h : ∀ v' w', OwnsF E w' base e v' (xs ++ ys) → Below base w0 w' → K (a.put o.dst v') w') :
    if Region.wanted o (yielded ops a.tmps) = true then Oper.wp P o a w K Q else C := by
  rw [if_pos (by simp [Region.wanted, hg])]
  have hr0 := hr
  obtain ⟨a', cap, rfl, hl, hm, hc⟩ := hr
  cases a' with
  | none =>
    have hn : ys = [] := by
      cases ys with
      | nil => rfl
      | cons b ys => obtain ⟨_, _, e, _⟩ := hc 0 (by simp); cases e
    subst hn
    have hrun := run_append_nilY (P := P) (w := w) base t o.type e i E.size cap ht hi v xs.length (xs.flatMap E.enc) hown
    have hk := h v w (by rw [List.append_nil]; exact hown) hb
    unfold Oper.wp
    simp [execOp, ho, resolve, invoke, builtin, hs, hx, hrun, Result.andThen]
    exact hk
  | some ad =>
    refine wp_append_own w s x t ho base e i z E.size bytes ht hi hz hsize hby hzs E.pos v xs.length (xs.flatMap E.enc) hs hown ad ys.length cap (ys.flatMap E.enc) hx (length_enc E ys) (cellsY hr0) (fun u hu => ?_) h63 hbytes hbase ?_
    · obtain ⟨r, _, hr'⟩ := List.mem_flatMap.1 hu; exact E.one r u hr'
    · intro v' w' hown' hgr _
      refine h v' w' ?_ (hb.grown hgr hbase (fun k hk => hown.ge hk))
      unfold OwnsF
      rw [List.length_append, List.flatMap_append]
      exact hown'
theorem run_bsR (y : Ro) (w : World) : (Instr.buildSlice 22 1 #[(0, roV y)]).run Tryd.prog w = .ok (.slice (some ⟨w.heap.size, 0, none⟩) 1 1) (w.alloc (.cells (elRo.enc y).toArray 33)) := by
  simp [go_sem]
  rfl
theorem Reads.oneY {w : World} {b : Nat} {r : Ro} {T : TypeId} (h : w.heap[b]? = some (.cells (elRo.enc r).toArray T)) : Reads elRo w (.slice (some ⟨b, 0, none⟩) 1 1) [r] := by
  refine ⟨_, 1, rfl, Nat.le_refl _, by unfold maxLen; decide, fun k hk => ⟨b, 0, rfl, (Array.getElem?_eq_some_iff.1 h).1, fun j hj => ?_⟩⟩
  obtain rfl : k = 0 := by simp at hk; omega
  rw [cell_of_row _ _ _ _ _ _ h]
  simp
theorem step_bsR {P : Program} {ops : Array Oper} {o : Oper} {a : Act} {w w2 : World} {K : Act → World → Prop} {Q : Exit → Act → World → Prop} {E : Prop} {v : Value} (hg : o.guard = none) (ty : TypeId) (x : Operand) (ho : o.op = .buildSlice ty 1 #[(0, x)]) (y : Value) (hx : a.eval x = y) (hr : (Instr.buildSlice ty 1 #[(0, y)]).run P w = .ok v w2) (h : K (a.put o.dst v) w2) : if Region.wanted o (yielded ops a.tmps) = true then o.wp P a w K Q else E := by
  rw [if_pos (by simp [Region.wanted, hg])]
  unfold Oper.wp execOp
  simp only [ho, List.map_toArray, List.map_cons, List.map_nil, hx, Sem.run_bind, hr, Sem.run_pure, Result.andThen_ok]
  exact h
theorem run_blR (s g h b0 b1 b2 b3 b4 b5 b6 b7 : Int) (w : World) : (Instr.build 33 #[(0, .agg #[.int .i64 s, .int .i64 g]), (1, .agg #[.int .i64 h, .int .i64 b0, .int .i64 b1, .int .i64 b2, .int .i64 b3, .int .i64 b4, .int .i64 b5, .int .i64 b6, .int .i64 b7])]).run Tryd.prog w = .ok (.agg #[.int .i64 s, .int .i64 g, .int .i64 h, .int .i64 b0, .int .i64 b1, .int .i64 b2, .int .i64 b3, .int .i64 b4, .int .i64 b5, .int .i64 b6, .int .i64 b7]) w := by
  simp [go_sem]
theorem yields_bl {P : Program} {ops : Array Oper} {S : World → Prop} {op : Oper} {a : Act} (hw : Region.wanted op (yielded ops a.tmps) = true) (ty : TypeId) (i j : Nat) (x y : Operand) (ho : op.op = .build ty #[(i, x), (j, y)]) (p q : Value) (hx : a.eval x = p) (hy : a.eval y = q) (v : Value) (hS : ∀ w, (Instr.build ty #[(i, p), (j, q)]).run P w = .ok v w) : YieldsIf P ops S op v a :=
  .inl ⟨hw, fun w hw' => by
    unfold execOp
    simp only [ho, List.map_toArray, List.map_cons, List.map_nil, hx, hy, Sem.run_bind, hS w, Sem.run_pure, Result.andThen_ok]⟩
/-- what the reference's Apply leaves: rows that may still be those that came in -/
def RAppPost (w : World) (l : List Ro) (c : List Ch) (e : Ending) (w' : World) : Prop := ∃ x, e = .returned (.tuple #[x, .int .i64 (appE l c)]) ∧ Reads elRo w' x (appR l c) ∧ Below w.heap.size w w'
theorem RAppPost.no {w w' : World} {l : List Ro} {c : List Ch} {z : Int} (h : appE l c = z) (h0 : z ≠ 0) (hb : Below w.heap.size w w') : RAppPost w l c (.returned (.tuple #[.slice none 0 0, .int .i64 z])) w' := by
  refine ⟨_, by rw [h], ?_, hb⟩
  rw [appR, if_neg (by rw [h]; exact h0)]
  exact ⟨none, 0, rfl, Nat.le_refl _, Nat.zero_le _, fun k hk => by simp at hk⟩
theorem RAppPost.slice {w : World} {l : List Ro} {c : List Ch} {e : Ending} {w' : World} (h : RAppPost w l c e w') : ∃ x k, e = .returned (.tuple #[.slice x (appR l c).length k, .int .i64 (appE l c)]) ∧ Reads elRo w' (.slice x (appR l c).length k) (appR l c) ∧ Below w.heap.size w w' := by
  obtain ⟨x, he, ho, hb⟩ := h
  obtain ⟨a, c, e1, _⟩ := id ho
  exact ⟨a, c, by rw [he, e1], e1 ▸ ho, hb⟩
end Go.Proofs.YtnmlapoiilckhaaDoor

/- Maps from handles to entities: what lies at each handle; none where nothing lies. -/
import Derived.Test.YtnmlapoiilckhaaDoorDiffEls
namespace Go.Proofs.YtnmlapoiilckhaaDoor
open Go.RowKit Go.Maps Go.ChangeMaps

/-- At block b lies a map with at most n keys; M at each handle. -/
def MapF (w : World) (b n : Nat) (M : Hd → Be) : Prop := ∃ ks f, MapIs kHand w b ks.length ks f ∧ ks.length ≤ n ∧ (∀ h, h ∈ ks ↔ M h ≠ noB) ∧ ∀ h ∈ ks, f h = beV (M h)
section
variable {w w' : World} {b n : Nat} {M : Hd → Be}
theorem MapF.new (w : World) : MapF (w.alloc (.map #[] 0)) w.heap.size 0 (fun _ => noB) :=
  ⟨[], fun _ => beV noB, MapIs.new kHand w _, Nat.le_refl _, fun x => by simp, fun x h => by simp at h⟩
theorem MapF.lt (h : MapF w b n M) : b < w.heap.size := by obtain ⟨ks, f, hm, -⟩ := h; exact hm.lt
theorem MapF.kept {F : Nat → Prop} (h : MapF w b n M) (hk : Kept F w w') (hf : ¬ F b) : MapF w' b n M := by
  obtain ⟨ks, f, hm, r⟩ := h
  exact ⟨ks, f, hm.kept hk hf, r⟩
theorem MapF.later (h : MapF w b n M) (hb : Below w.heap.size w w') : MapF w' b n M := h.kept (F := fun _ => False) (Kept.ofBelow hb) id
theorem MapF.congr {N : Hd → Be} (h : MapF w b n M) (e : ∀ x, M x = N x) : MapF w b n N := by
  obtain rfl : M = N := funext e
  exact h
theorem MapF.mono {m : Nat} (h : MapF w b n M) (hm : n ≤ m) : MapF w b m M := by
  obtain ⟨ks, f, h1, hl, r⟩ := h
  exact ⟨ks, f, h1, Nat.le_trans hl hm, r⟩
/-- 'v, ok := m[x]' -/
theorem MapF.look (h : MapF w b n M) {t e : TypeId} (ht : Tryd.prog.underlying t = some (.map 28 e)) {z : Value} (hz : (zeroValue e).run Tryd.prog w = .ok z w) (x1 x2 : Int) (hx : kHand.ok (x1, x2)) :
    (Instr.lookup t (.map (some b)) (.agg #[.int .i64 x1, .int .i64 x2]) true).run Tryd.prog w = .ok (.tuple #[if M (x1, x2) = noB then z else beV (M (x1, x2)), .bool (!decide (M (x1, x2) = noB))]) w := by
  obtain ⟨ks, f, hm, -, hp, hf⟩ := h
  have := hm.look2 ht hz (x1, x2) hx
  by_cases hc : (x1, x2) ∈ ks
  · have hn := (hp _).1 hc
    simp only [hc, if_true, hf _ hc, decide_true] at this
    simp only [hn, if_false, decide_false, Bool.not_false]
    exact this
  · have hn : M (x1, x2) = noB := Decidable.byContradiction fun e => hc ((hp _).2 e)
    simp only [hc, if_false, decide_false] at this
    simp only [hn, if_true, decide_true, Bool.not_true]
    exact this
variable {ops : Array Oper} {rest : List Oper} {o : Oper} {a : Act} {Q : Exit → Act → World → Prop}
/-- 'm[x] = v' -/
theorem wpList_putF (w : World) (hg : o.guard = none) (m x v : Operand) (t : TypeId) (hop : o.op = Op.mapUpdate t m x v) (e : TypeId) (ht : Tryd.prog.underlying t = some (.map 28 e)) (hm : a.eval m = .map (some b)) (h : MapF w b n M) (hn : n < maxLen)
    (x0 : Hd) (hx0 : kHand.ok x0) (u : Be) (hu : u ≠ noB) (hx : a.eval x = kHand.val x0) (hv : a.eval v = beV u)
    (hK : ∀ w', MapF w' b (n + 1) (fun y => if y = x0 then u else M y) → Kept (fun q => q = b) w w' → wpList Tryd.prog ops Q rest (a.put o.dst undef) w') :
    wpList Tryd.prog ops Q (o :: rest) a w := by
  obtain ⟨ks, f, hmm, hl, hp, hf⟩ := h
  refine wpList_put_is w hg m x v t hop e ht hm hmm (by omega) x0 hx0 (beV u) hx hv (fun w' hm' hk => hK w' ⟨_, _, hm', ?_, fun y => ?_, fun y hy => ?_⟩ hk)
  · split
    · omega
    · simp; omega
  · show _ ↔ (if y = x0 then u else M y) ≠ noB
    by_cases e1 : y = x0
    · subst e1
      rw [if_pos (rfl : y = y)]
      refine ⟨fun _ => hu, fun _ => ?_⟩
      split
      · assumption
      · simp
    · rw [if_neg e1, ← hp]
      split
      · exact Iff.rfl
      · simp [e1]
  · show (if y = x0 then beV u else f y) = beV (if y = x0 then u else M y)
    by_cases e1 : y = x0
    · rw [if_pos e1, if_pos e1]
    · rw [if_neg e1, if_neg e1]
      refine hf y ?_
      split at hy
      · exact hy
      · simpa [e1] using hy
/-- 'delete(m, x)' -/
theorem wpList_delF (w : World) (hg : o.guard = none) (m x : Operand) (t : TypeId) (hop : o.op = Op.call { callee := Callee.builtin Builtin.delete, args := #[m, x], argTypes := #[t, 28] }) (e : TypeId) (ht : Tryd.prog.underlying t = some (.map 28 e)) (hm : a.eval m = .map (some b)) (h : MapF w b n M)
    (x0 : Hd) (hx0 : kHand.ok x0) (hx : a.eval x = kHand.val x0)
    (hK : ∀ w', MapF w' b (n + 1) (fun y => if y = x0 then noB else M y) → Kept (fun q => q = b) w w' → wpList Tryd.prog ops Q rest (a.put o.dst (.tuple #[])) w') :
    wpList Tryd.prog ops Q (o :: rest) a w := by
  obtain ⟨ks, f, hmm, hl, hp, hf⟩ := h
  refine wpList_del_is w hg m x t hop e ht hm hmm x0 hx0 hx (fun w' hm' hk => hK w' ⟨_, _, hm', ?_, fun y => ?_, fun y hy => ?_⟩ hk)
  · exact Nat.le_trans (List.length_filter_le _ _) (by omega)
  · show _ ↔ (if y = x0 then noB else M y) ≠ noB
    rw [List.mem_filter, hp]
    by_cases e1 : y = x0
    · simp [e1]
    · simp [e1]
  · obtain ⟨h1, h2⟩ := List.mem_filter.1 hy
    have e1 : y ≠ x0 := by simpa using h2
    show f y = beV (if y = x0 then noB else M y)
    rw [if_neg e1]
    exact hf y h1
end
theorem atB_snoc {r : Ro} {x : Hd} : ∀ {l : List Ro}, (∀ y ∈ l, y.1 ≠ r.1) → atB (l ++ [r]) x = if x = r.1 then r.2 else atB l x
  | [], _ => by
    show (if r.1 = x then r.2 else noB) = _
    by_cases e : x = r.1
    · rw [if_pos e, if_pos e.symm]
    · rw [if_neg e, if_neg (fun h => e h.symm)]; rfl
  | y :: l, h => by
    have ih := atB_snoc (x := x) (fun z hz => h z (List.mem_cons_of_mem _ hz))
    show (if y.1 = x then y.2 else atB (l ++ [r]) x) = if x = r.1 then r.2 else (if y.1 = x then y.2 else atB l x)
    by_cases e : y.1 = x
    · have : x ≠ r.1 := fun e2 => h y (by simp) (e.trans e2)
      rw [if_pos e, if_neg this, if_pos e]
    · rw [if_neg e, if_neg e, ih]
theorem atB_step {l : List Ro} (hu : Ups l) {k : Nat} (hk : k < l.length) (x : Hd) : atB (l.take (k + 1)) x = if x = (l.getD k roZ).1 then (l.getD k roZ).2 else atB (l.take k) x := by
  have e : l.take (k + 1) = l.take k ++ [l.getD k roZ] := by
    rw [List.take_add_one, List.getElem?_eq_getElem hk, List.getD_eq_getElem?_getD, List.getElem?_eq_getElem hk]; rfl
  rw [e]
  refine atB_snoc (fun y hy e2 => ?_)
  rw [← List.take_append_drop k l] at hu
  have := (List.pairwise_append.1 hu).2.2 y hy (l.getD k roZ) (by rw [List.getD_eq_getElem?_getD, List.getElem?_eq_getElem hk, List.drop_eq_getElem_cons hk]; exact List.mem_cons_self)
  rw [e2] at this
  exact hlt_irrefl _ this
end Go.Proofs.YtnmlapoiilckhaaDoor

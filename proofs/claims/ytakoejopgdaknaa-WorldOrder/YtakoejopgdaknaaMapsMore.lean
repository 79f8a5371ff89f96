/- Maps of the call's own: as few entries as keys; a store and a deletion, at the operation. -/
import Derived.Test.YtakoejopgdaknaaMapsOwn
import Derived.Maps.OwnSet
namespace Go.Proofs.Ytakoejopgdaknaa
open Go.RowKit Go.Maps Go.ChangeMaps

theorem filter_ne_len {α : Type} [DecidableEq α] : ∀ {ks : List α} {a : α}, ks.Nodup → (ks.filter (fun y => !decide (y = a))).length + (if a ∈ ks then 1 else 0) = ks.length
  | [], a, _ => by simp
  | k :: ks, a, h => by
    obtain ⟨h1, h2⟩ := List.nodup_cons.1 h
    have ih := filter_ne_len (a := a) h2
    by_cases e : k = a
    · subst e
      rw [if_neg h1] at ih
      simp
      simpa using ih
    · have e' : ¬ a = k := fun x => e x.symm
      rw [List.filter_cons_of_pos (by simp [e])]
      simp only [List.length_cons, List.mem_cons, e', false_or]
      omega

section
variable {α : Type} {k : TypeId} {K : KeyEnc α k} {w w' : World} {b n : Nat} {ks : List α} {f : α → Value}
theorem MapIs.tight (h : MapIs K w b n ks f) : MapIs K w b ks.length ks f := by
  obtain ⟨D, ho, h1, h2, h3, h4, h5⟩ := h
  refine ⟨D, ?_, h1, h2, h3, h4, h5⟩
  obtain ⟨es, clock, hb, F, hs, rfl⟩ := ho
  refine ⟨es, clock, hb, F, ?_, rfl⟩
  rw [← h5]
  simp [Maps.size, length_sorted]
theorem MapIs.nodup (h : MapIs K w b n ks f) : ks.Nodup := by obtain ⟨D, ho, h1, _⟩ := h; exact h1
theorem MapIs.okAt (h : MapIs K w b n ks f) {a : α} (ha : a ∈ ks) : K.ok a := by obtain ⟨D, ho, h1, h2, _⟩ := h; exact h2 a ha
theorem MapIs.congr {g : α → Value} (h : MapIs K w b n ks f) (e : ∀ a ∈ ks, f a = g a) : MapIs K w b n ks g := by
  obtain ⟨D, ho, h1, h2, h3, h4, h5⟩ := h
  exact ⟨D, ho, h1, h2, h3, fun a ha z => by rw [← e a ha]; exact h4 a ha z, h5⟩

variable {ops : Array Oper} {rest : List Oper} {o : Oper} {a : Act} {Q : Exit → Act → World → Prop}
/-- 'm[x] = v' -/
theorem wpList_put_is [DecidableEq α] (w : World) (hg : o.guard = none) (m x v : Operand) (t : TypeId) (hop : o.op = Op.mapUpdate t m x v) (e : TypeId) (ht : Try.prog.underlying t = some (.map k e)) (hm : a.eval m = .map (some b)) (h : MapIs K w b n ks f) (hn : ks.length < maxLen)
    (x0 : α) (hx0 : K.ok x0) (u : Value) (hx : a.eval x = K.val x0) (hv : a.eval v = u)
    (hK : ∀ w', MapIs K w' b (if x0 ∈ ks then ks else ks ++ [x0]).length (if x0 ∈ ks then ks else ks ++ [x0]) (fun y => if y = x0 then u else f y) → Kept (fun q => q = b) w w' → wpList Try.prog ops Q rest (a.put o.dst undef) w') :
    wpList Try.prog ops Q (o :: rest) a w := by
  obtain ⟨D, ho, h1, h2, h3, h4, h5⟩ := h.tight
  refine wpList_mapUpdate_own w hg m x v t hop k e K.law ht heldR b ks.length D hm ho hn _ u (K.lit x0) hx hv (K.key x0 hx0) (.held u) [] rfl fun w' ho' hgr => ?_
  exact hK w' (MapIs.put ho h1 h2 h3 h4 h5 x0 hx0 u ho').tight (Kept.grown hgr (fun q e => by cases e; rfl))
theorem wpList_put_new [DecidableEq α] (w : World) (hg : o.guard = none) (m x v : Operand) (t : TypeId) (hop : o.op = Op.mapUpdate t m x v) (e : TypeId) (ht : Try.prog.underlying t = some (.map k e)) (hm : a.eval m = .map (some b)) (h : MapIs K w b n ks f) (hn : ks.length < maxLen)
    (x0 : α) (hx0 : K.ok x0) (u : Value) (hx : a.eval x = K.val x0) (hv : a.eval v = u) (hnew : ¬ x0 ∈ ks)
    (hK : ∀ w', MapIs K w' b (ks ++ [x0]).length (ks ++ [x0]) (fun y => if y = x0 then u else f y) → Kept (fun q => q = b) w w' → wpList Try.prog ops Q rest (a.put o.dst undef) w') :
    wpList Try.prog ops Q (o :: rest) a w :=
  wpList_put_is w hg m x v t hop e ht hm h hn x0 hx0 u hx hv (fun w' hm' hk' => hK w' (by rw [if_neg hnew] at hm'; exact hm') hk')
theorem wpList_put_in [DecidableEq α] (w : World) (hg : o.guard = none) (m x v : Operand) (t : TypeId) (hop : o.op = Op.mapUpdate t m x v) (e : TypeId) (ht : Try.prog.underlying t = some (.map k e)) (hm : a.eval m = .map (some b)) (h : MapIs K w b n ks f) (hn : ks.length < maxLen)
    (x0 : α) (hx0 : K.ok x0) (u : Value) (hx : a.eval x = K.val x0) (hv : a.eval v = u) (hin : x0 ∈ ks)
    (hK : ∀ w', MapIs K w' b ks.length ks (fun y => if y = x0 then u else f y) → Kept (fun q => q = b) w w' → wpList Try.prog ops Q rest (a.put o.dst undef) w') :
    wpList Try.prog ops Q (o :: rest) a w :=
  wpList_put_is w hg m x v t hop e ht hm h hn x0 hx0 u hx hv (fun w' hm' hk' => hK w' (by rw [if_pos hin] at hm'; exact hm') hk')
/-- 'delete(m, x)' -/
theorem wpList_del_is [DecidableEq α] (w : World) (hg : o.guard = none) (m x : Operand) (t : TypeId) (hop : o.op = Op.call { callee := Callee.builtin Builtin.delete, args := #[m, x], argTypes := #[t, k] }) (e : TypeId) (ht : Try.prog.underlying t = some (.map k e)) (hm : a.eval m = .map (some b)) (h : MapIs K w b n ks f)
    (x0 : α) (hx0 : K.ok x0) (hx : a.eval x = K.val x0)
    (hK : ∀ w', MapIs K w' b (ks.filter (fun y => !decide (y = x0))).length (ks.filter (fun y => !decide (y = x0))) f → Kept (fun q => q = b) w w' → wpList Try.prog ops Q rest (a.put o.dst (.tuple #[])) w') :
    wpList Try.prog ops Q (o :: rest) a w := by
  obtain ⟨D, ho, h1, h2, h3, h4, h5⟩ := h.tight
  refine wpList_delete_own w hg m x t k hop e K.law ht heldR b ks.length D hm ho _ (K.lit x0) hx (K.key x0 hx0) fun w' ho' htu => ?_
  have hmem : ∀ y, y ∈ ks.filter (fun y => !decide (y = x0)) ↔ y ∈ ks ∧ y ≠ x0 := fun y => by rw [List.mem_filter]; simp
  refine hK w' (MapIs.tight (n := ks.length) ⟨_, ho', h1.filter _, fun y hy => h2 y ((hmem y).1 hy).1, fun kl hh => ?_, fun y hy z => ?_, ?_⟩) ?_
  · by_cases e : kl = K.lit x0
    · rw [e, has_del_same] at hh; cases hh
    · rw [has_del_other e] at hh
      obtain ⟨y, hy, rfl⟩ := h3 kl hh
      exact ⟨y, (hmem y).2 ⟨hy, fun e2 => e (by rw [e2])⟩, rfl⟩
  · obtain ⟨hy1, hy2⟩ := (hmem y).1 hy
    rw [atKey_del_other (fun e2 => hy2 (K.lit_inj (h2 y hy1) hx0 e2))]; exact h4 y hy1 z
  · have := size_del (k := K.lit x0) (ho.tidy K.law)
    have hl := filter_ne_len (a := x0) h1
    by_cases hm : x0 ∈ ks
    · rw [if_pos (has_true_of_atKey (h4 x0 hm))] at this
      rw [if_pos hm] at hl
      omega
    · have hn : has D (K.lit x0) = false := by
        cases hh : has D (K.lit x0)
        · rfl
        · obtain ⟨a', ha', e⟩ := h3 _ hh
          exact absurd (K.lit_inj hx0 (h2 a' ha') e ▸ ha') hm
      rw [hn] at this
      rw [if_neg hm] at hl
      simp at this
      omega
  · obtain ⟨es, clock, es', clock', hb, rfl⟩ := htu
    exact ⟨rfl, rfl, rfl, by simp [setBlock], fun i _ hi => heap_setBlock_other hb _ hi⟩
end
end Go.Proofs.Ytakoejopgdaknaa

/- A loop over a map of the call's own: which keys are still to come. -/
import Derived.Test.YtakoejopgdaknaaMapsOwn
namespace Go.Proofs.Ytakoejopgdaknaa
open Go.RowKit Go.Maps

/-- A loop over the map in block b, its iterator in block r: the keys 'todo' are still to come, cnt of them. -/
def RangeIs {α : Type} {k : TypeId} (K : KeyEnc α k) (w : World) (b r n : Nat) (ks : List α) (f : α → Value) (todo : List α) (cnt : Nat) : Prop :=
  ∃ (D : DataW Value) (lf : Lit → Bool), w.ranges Try.prog k heldR b r n D lf cnt ∧ ks.Nodup ∧ (∀ a ∈ ks, K.ok a) ∧ (∀ kl, has D kl = true → ∃ a ∈ ks, kl = K.lit a) ∧ (∀ a ∈ ks, ∀ z, D.atKey (K.lit a) z = .held (f a)) ∧ size D = ks.length ∧
    (∀ kl, lf kl = true → ∃ a ∈ todo, kl = K.lit a) ∧ (∀ a ∈ todo, a ∈ ks ∧ lf (K.lit a) = true)

section
variable {α : Type} {k : TypeId} {K : KeyEnc α k} {w w' : World} {b r n cnt : Nat} {ks todo : List α} {f : α → Value}

theorem RangeIs.map (h : RangeIs K w b r n ks f todo cnt) : MapIs K w b n ks f := by
  obtain ⟨D, lf, hr, h1, h2, h3, h4, h5, _⟩ := h
  exact ⟨D, hr.owns, h1, h2, h3, h4, h5⟩
theorem RangeIs.left_eq (h : RangeIs K w b r n ks f todo cnt) : w.rangeLeft b r = cnt := by
  obtain ⟨D, lf, hr, _⟩ := h
  exact hr.left_eq
theorem RangeIs.lt (h : RangeIs K w b r n ks f todo cnt) : r < w.heap.size := by
  obtain ⟨D, lf, hr, _⟩ := h
  exact hr.lt
theorem RangeIs.kept {F : Nat → Prop} (h : RangeIs K w b r n ks f todo cnt) (hk : Kept F w w') (hb : ¬ F b) (hr : ¬ F r) : RangeIs K w' b r n ks f todo cnt := by
  obtain ⟨D, lf, hrg, rest⟩ := h
  refine ⟨D, lf, ?_, rest⟩
  have h1 := hrg.owns.lt
  have h2 := hrg.lt
  obtain ⟨es, clock, since, seen, c0, hbb, F', hs, hD, hrr, rest'⟩ := hrg
  exact ⟨es, clock, since, seen, c0, (hk.block b h1 hb).trans hbb, F', hs, hD, (hk.block r h2 hr).trans hrr, rest'⟩
theorem RangeIs.later (h : RangeIs K w b r n ks f todo cnt) (hb : Below w.heap.size w w') : RangeIs K w' b r n ks f todo cnt :=
  h.kept (F := fun _ => False) (Kept.ofBelow hb) id id
theorem RangeIs.sub (h : RangeIs K w b r n ks f todo cnt) : ∀ a ∈ todo, a ∈ ks := by
  obtain ⟨D, lf, _, _, _, _, _, _, _, h⟩ := h
  exact fun a ha => (h a ha).1

variable {ops : Array Oper} {rest : List Oper} {o : Oper} {a : Act} {Q : Exit → Act → World → Prop}
/-- 'range m' -/
theorem wpList_range_is (w : World) (hg : o.guard = none) (m : Operand) (t : TypeId) (hop : o.op = Op.range t m) (e : TypeId) (ht : Try.prog.underlying t = some (.map k e)) (hm : a.eval m = .map (some b)) (h : MapIs K w b n ks f)
    (hK : ∀ w', RangeIs K w' b w.heap.size n ks f ks ks.length → Below w.heap.size w w' → w'.heap.size = w.heap.size + 1 → wpList Try.prog ops Q rest (a.put o.dst (.pointer (some ⟨w.heap.size, 0, none⟩))) w') :
    wpList Try.prog ops Q (o :: rest) a w := by
  obtain ⟨D, ho, h1, h2, h3, h4, h5⟩ := h
  refine wpList_range_own w hg m t hop k e K.law ht heldR b n D hm ho fun w' hrg hgr hsz => ?_
  refine hK w' ⟨D, has D, by rw [← h5]; exact hrg, h1, h2, h3, h4, h5, h3, fun x hx => ⟨hx, has_true_of_atKey (h4 x hx)⟩⟩ ((Below.refl _ _).grown hgr (Nat.le_refl _) (fun q hq => by cases hq)) hsz

/-- the loop's step -/
theorem wpList_next_is [DecidableEq α] (w : World) (hg : o.guard = none) (it : Operand) (hop : o.op = Op.next it false) (hit : a.eval it = .pointer (some ⟨r, 0, none⟩)) (h : RangeIs K w b r n ks f todo cnt)
    (hDone : todo = [] → wpList Try.prog ops Q rest (a.put o.dst (.tuple #[.bool false])) w)
    (hMore : ∀ (x : α) (w' : World) (cnt' : Nat), x ∈ todo → x ∈ ks → RangeIs K w' b r n ks f (todo.filter (fun y => !decide (y = x))) cnt' → cnt' < cnt → Kept (fun q => q = r) w w' → w'.heap.size = w.heap.size →
      (Instr.entry (.pointer (some ⟨r, 0, none⟩))).run Try.prog w' = .ok (.tuple #[K.val x, f x]) w' → wpList Try.prog ops Q rest (a.put o.dst (.tuple #[.bool true, K.val x, f x])) w') :
    wpList Try.prog ops Q (o :: rest) a w := by
  obtain ⟨D, lf, hrg, h1, h2, h3, h4, h5, h6, h7⟩ := h
  refine wpList_next_ranges w hg it hop k K.law heldR id id (fun key kl _ => ⟨key, rfl⟩) (fun v y _ => ⟨v, rfl⟩) b r n D lf cnt hit hrg (fun _ hl => ?_) ?_
  · refine hDone (List.eq_nil_iff_forall_not_mem.2 fun x hx => ?_)
    have := (h7 x hx).2
    rw [hl] at this
    cases this
  · intro x c kl y w' cnt' hkey hlk hv hat hrg' hlt hgr hsz hen
    obtain ⟨x', hx', rfl⟩ := h6 kl hlk
    have hxk := (h7 x' hx').1
    have ex : x = K.val x' := K.law.inj hkey (K.key x' (h2 x' hxk))
    have ec : c = f x' := by
      simp only [heldR, id, Option.some.injEq] at hv
      have := hat (.held c)
      rw [h4 x' hxk, ← hv] at this
      simpa using this.symm
    subst ex
    subst ec
    refine hMore x' w' cnt' hx' hxk ⟨D, _, hrg', h1, h2, h3, h4, h5, ?_, ?_⟩ hlt (Kept.grown hgr (fun q e => by cases e; rfl)) hsz hen
    · intro kl hkl
      simp only [Bool.and_eq_true, Bool.not_eq_true'] at hkl
      obtain ⟨z, hz, rfl⟩ := h6 kl hkl.1
      refine ⟨z, List.mem_filter.2 ⟨hz, ?_⟩, rfl⟩
      rw [Bool.not_eq_true', decide_eq_false_iff_not]
      rintro rfl
      rw [WideAt.sameKey_self (K.law.key (K.key z (h2 z (h7 z hz).1)))] at hkl
      cases hkl.2
    · intro z hz
      obtain ⟨hz1, hz2⟩ := List.mem_filter.1 hz
      rw [Bool.not_eq_true', decide_eq_false_iff_not] at hz2
      refine ⟨(h7 z hz1).1, ?_⟩
      rw [(h7 z hz1).2]
      simp only [Bool.true_and, Bool.not_eq_true']
      cases hs : (K.lit z).sameKey (K.lit x')
      · rfl
      · exact absurd (K.lit_inj (h2 z (h7 z hz1).1) (h2 x' hxk) (WideAt.sameKey_eq hs)) hz2
end
end Go.Proofs.Ytakoejopgdaknaa

/- A table in memory: its object, its columns behind a map, and what stays true of them. -/
import Derived.Test.YtakoejopgdaknaaTableModel
import Derived.Test.YtakoejopgdaknaaMapRange
namespace Go.Proofs.Ytakoejopgdaknaa
open Go.RowKit

/-- A column of ints in block b, all in blocks of G. -/
def ColAt (w : World) (b : Nat) (G : Nat → Prop) (xs : List Int) : Prop :=
  ∃ v, ColIs elInt 3 w b 0 #[v] 121 v xs ∧ G b ∧ ∀ k, v.ownBlock = some k → G k
theorem ColAt.kept {w w' : World} {b : Nat} {G H : Nat → Prop} {xs : List Int} (h : ColAt w b G xs) (hk : Kept H w w') (hf : ∀ k, G k → ¬ H k) : ColAt w' b G xs := by
  obtain ⟨v, hc, hb, hv⟩ := h
  exact ⟨v, hc.kept hk (hf b hb) (fun k e => hf k (hv k e)), hb, hv⟩
theorem ColAt.mono {w : World} {b : Nat} {G H : Nat → Prop} {xs : List Int} (h : ColAt w b G xs) (hf : ∀ k, k < w.heap.size → G k → H k) : ColAt w b H xs := by
  obtain ⟨v, hc, hb, hv⟩ := h
  exact ⟨v, hc, hf b hc.lt hb, fun k e => hf k (hc.own.lt e) (hv k e)⟩

def ptrOf (cb : Int → Nat) (k : Int) : Value := .pointer (some ⟨cb k, 0, none⟩)

/-- A table at block p, in the blocks F; c: to which part each block belongs. -/
structure TabIs (w : World) (p : Nat) (F : Nat → Prop) (m : Int) (hs : List (Int × Int)) (xs : Int → List Int) (v : Value) (mb n : Nat) (cb : Int → Nat) (c : Nat → Int) : Prop where
  obj : w.heap[p]? = some (.cells #[.int .i64 m, v, .map (some mb)] 118 (0, 0))
  own : OwnsF elHand w 0 38 v hs
  map : MapIs kInt w mb n (kinds m) (ptrOf cb)
  cols : ∀ k ∈ kinds m, ColAt w (cb k) (fun b => F b ∧ c b = k) (xs k)
  fp : F p ∧ c p = -1
  fm : F mb ∧ c mb = -2
  fv : ∀ b, v.ownBlock = some b → F b ∧ c b = -3
  lt : ∀ b, F b → b < w.heap.size

theorem kinds_ge {m k : Int} (h : k ∈ kinds m) : 0 ≤ k ∧ k ≤ 7 := by
  obtain ⟨j, hj, rfl, _⟩ := mem_kindsTo.1 h
  omega
theorem kinds_iff {m : Int} {j : Nat} (h : j < 8) : (j : Int) ∈ kinds m ↔ tb m j = true := by
  constructor
  · intro hk
    obtain ⟨i, hi, e, ht⟩ := mem_kindsTo.1 hk
    obtain rfl : j = i := by omega
    exact ht
  · intro ht
    exact mem_kindsTo.2 ⟨j, h, rfl, ht⟩

section
variable {w w' : World} {p mb n : Nat} {F : Nat → Prop} {m : Int} {hs : List (Int × Int)} {xs : Int → List Int} {v : Value} {cb : Int → Nat} {c : Nat → Int}

theorem TabIs.kept {H : Nat → Prop} (h : TabIs w p F m hs xs v mb n cb c) (hk : Kept H w w') (hf : ∀ k, F k → ¬ H k) : TabIs w' p F m hs xs v mb n cb c :=
  ⟨by rw [hk.block p (h.lt p h.fp.1) (hf p h.fp.1)]; exact h.obj, h.own.kept hk (fun k e => hf k (h.fv k e).1), h.map.kept hk (hf mb h.fm.1), fun k hk' => (h.cols k hk').kept hk (fun b hb => hf b hb.1), h.fp, h.fm, h.fv, fun b hb => Nat.lt_of_lt_of_le (h.lt b hb) hk.size⟩
theorem TabIs.later (h : TabIs w p F m hs xs v mb n cb c) (hb : Below w.heap.size w w') : TabIs w' p F m hs xs v mb n cb c :=
  h.kept (H := fun _ => False) (Kept.ofBelow hb) (fun _ _ => id)
theorem TabIs.congr {ys : Int → List Int} (h : TabIs w p F m hs xs v mb n cb c) (e : ∀ k ∈ kinds m, xs k = ys k) : TabIs w p F m hs ys v mb n cb c :=
  ⟨h.obj, h.own, h.map, fun k hk => by rw [← e k hk]; exact h.cols k hk, h.fp, h.fm, h.fv, h.lt⟩
theorem TabIs.hcol (h : TabIs w p F m hs xs v mb n cb c) : ColIs elHand 38 w p 1 #[.int .i64 m, v, .map (some mb)] 118 v hs :=
  ⟨h.obj, rfl, h.own, fun k e => fun e2 => by have h1 := (h.fv k e).2; have h2 := h.fp.2; rw [e2] at h1; omega⟩
theorem TabIs.cell0 (h : TabIs w p F m hs xs v mb n cb c) : w.cell? ⟨p, 0, none⟩ = some (.int .i64 m) := by rw [cell_of_row _ _ _ _ _ _ h.obj]; rfl
theorem TabIs.cell1 (h : TabIs w p F m hs xs v mb n cb c) : w.cell? ⟨p, 1, none⟩ = some v := by rw [cell_of_row _ _ _ _ _ _ h.obj]; rfl
theorem TabIs.cell2 (h : TabIs w p F m hs xs v mb n cb c) : w.cell? ⟨p, 2, none⟩ = some (.map (some mb)) := by rw [cell_of_row _ _ _ _ _ _ h.obj]; rfl

/-- blocks that a call has made go to what it turned -/
def growF (F : Nat → Prop) (w w' : World) : Nat → Prop := fun b => F b ∨ (w.heap.size ≤ b ∧ b < w'.heap.size)
def growC (c : Nat → Int) (w : World) (k : Int) : Nat → Int := fun b => if w.heap.size ≤ b then k else c b
theorem growF_moves (F : Nat → Prop) (w w' : World) : Moves w F (growF F w w') := fun _ h => h.imp id And.left
theorem growC_old {c : Nat → Int} {w : World} {k : Int} {b : Nat} (h : b < w.heap.size) : growC c w k b = c b := if_neg (by omega)
theorem growC_new {c : Nat → Int} {w : World} {k : Int} {b : Nat} (h : w.heap.size ≤ b) : growC c w k b = k := if_pos h

/-- The handles have been turned. -/
theorem TabIs.hstep {hs' : List (Int × Int)} (h : TabIs w p F m hs xs v mb n cb c) (hp : ColPost elHand 38 w p 1 #[.int .i64 m, v, .map (some mb)] 118 v hs' w') :
    ∃ v', TabIs w' p (growF F w w') m hs' xs v' mb n cb (growC c w (-3)) ∧ Kept F w w' := by
  obtain ⟨v', hc, hk, hv⟩ := hp
  have hkF : Kept F w w' := hk.mono (fun b e => by
    rcases e with rfl | e
    · exact .inl h.fp.1
    · exact .inl (h.fv b e).1)
  have hne : ∀ b, F b → c b ≠ -1 → c b ≠ -3 → ¬ (b = p ∨ v.ownBlock = some b) := fun b hb h1 h3 e => by
    rcases e with rfl | e
    · exact h1 h.fp.2
    · exact h3 (h.fv b e).2
  refine ⟨v', ⟨by simpa using hc.heap, hc.own, h.map.kept hk (hne mb h.fm.1 (by rw [h.fm.2]; decide) (by rw [h.fm.2]; decide)), fun k hk' => ?_, ⟨.inl h.fp.1, by rw [growC_old (h.lt p h.fp.1)]; exact h.fp.2⟩, ⟨.inl h.fm.1, by rw [growC_old (h.lt mb h.fm.1)]; exact h.fm.2⟩, fun b e => ?_, fun b hb => ?_⟩, hkF⟩
  · have h0 := kinds_ge hk'
    have h1 := (h.cols k hk').mono (H := fun b => (F b ∧ c b = k) ∧ b < w.heap.size) (fun b hb hg => ⟨hg, hb⟩)
    exact (h1.kept hk (fun b hb => hne b hb.1.1 (by rw [hb.1.2]; omega) (by rw [hb.1.2]; omega))).mono (fun b _ hb => ⟨.inl hb.1.1, by rw [growC_old hb.2]; exact hb.1.2⟩)
  · rcases hv b e with e' | e'
    · exact ⟨.inl (h.fv b e').1, by rw [growC_old (h.lt b (h.fv b e').1)]; exact (h.fv b e').2⟩
    · exact ⟨.inr ⟨e', hc.own.lt e⟩, growC_new e'⟩
  · rcases hb with hb | hb
    · exact Nat.lt_of_lt_of_le (h.lt b hb) hk.size
    · exact hb.2

/-- Column k has been turned. -/
theorem TabIs.cstep {k : Int} {u : Value} {ys : List Int} (h : TabIs w p F m hs xs v mb n cb c) (hk : k ∈ kinds m) (hu : ∀ b, b = cb k ∨ u.ownBlock = some b → F b ∧ c b = k) (hp : ColPost elInt 3 w (cb k) 0 #[u] 121 u ys w') :
    TabIs w' p (growF F w w') m hs (fun j => if j = k then ys else xs j) v mb n cb (growC c w k) ∧ Kept F w w' := by
  obtain ⟨u', hc, hkp, hv⟩ := hp
  have hkF : Kept F w w' := hkp.mono (fun b e => .inl (hu b e).1)
  have h0 := kinds_ge hk
  have hne : ∀ b, F b → c b ≠ k → ¬ (b = cb k ∨ u.ownBlock = some b) := fun b _ h1 e => h1 (hu b e).2
  refine ⟨⟨?_, h.own.kept hkp (fun b e => hne b (h.fv b e).1 (by rw [(h.fv b e).2]; omega)), h.map.kept hkp (hne mb h.fm.1 (by rw [h.fm.2]; omega)), fun j hj => ?_, ⟨.inl h.fp.1, by rw [growC_old (h.lt p h.fp.1)]; exact h.fp.2⟩, ⟨.inl h.fm.1, by rw [growC_old (h.lt mb h.fm.1)]; exact h.fm.2⟩, fun b e => ⟨.inl (h.fv b e).1, by rw [growC_old (h.lt b (h.fv b e).1)]; exact (h.fv b e).2⟩, fun b hb => ?_⟩, hkF⟩
  · rw [hkp.block p (h.lt p h.fp.1) (hne p h.fp.1 (by rw [h.fp.2]; omega))]; exact h.obj
  · by_cases e : j = k
    · subst e
      rw [if_pos rfl]
      refine ⟨u', by simpa using hc, ⟨.inl (hu _ (.inl rfl)).1, by rw [growC_old (h.lt _ (hu _ (.inl rfl)).1)]; exact (hu _ (.inl rfl)).2⟩, fun b hb => ?_⟩
      rcases hv b hb with e' | e'
      · exact ⟨.inl (hu b (.inr e')).1, by rw [growC_old (h.lt b (hu b (.inr e')).1)]; exact (hu b (.inr e')).2⟩
      · exact ⟨.inr ⟨e', hc.own.lt hb⟩, growC_new e'⟩
    · rw [if_neg e]
      have h1 := (h.cols j hj).mono (H := fun b => (F b ∧ c b = j) ∧ b < w.heap.size) (fun b hb hg => ⟨hg, hb⟩)
      exact (h1.kept hkp (fun b hb => hne b hb.1.1 (by rw [hb.1.2]; exact e))).mono (fun b _ hb => ⟨.inl hb.1.1, by rw [growC_old hb.2]; exact hb.1.2⟩)
  · rcases hb with hb | hb
    · exact Nat.lt_of_lt_of_le (h.lt b hb) hkp.size
    · exact hb.2

/-- Column k, opened. -/
theorem TabIs.colIs {k : Int} (h : TabIs w p F m hs xs v mb n cb c) (hk : k ∈ kinds m) : ∃ u, ColIs elInt 3 w (cb k) 0 #[u] 121 u (xs k) ∧ ∀ b, b = cb k ∨ u.ownBlock = some b → F b ∧ c b = k := by
  obtain ⟨u, hc, hb, hu⟩ := h.cols k hk
  exact ⟨u, hc, fun b e => by
    rcases e with rfl | e
    · exact hb
    · exact hu b e⟩
end

/-- A loop that turns the columns one by one, from xs to ys. -/
def ColLoop (w0 w : World) (p : Nat) (F : Nat → Prop) (m : Int) (hs : List (Int × Int)) (xs ys : Int → List Int) (v : Value) (mb n : Nat) (cb : Int → Nat) (r : Nat) (todo : List Int) (cnt : Nat) : Prop :=
  ∃ F' c', TabIs w p F' m hs (fun k => if k ∈ todo then xs k else ys k) v mb n cb c' ∧ RangeIs kInt w mb r n (kinds m) (ptrOf cb) todo cnt ∧ Kept F w0 w ∧ Moves w0 F F' ∧ ¬ F' r

section
variable {w0 w w' w'' : World} {p mb n r cnt cnt' : Nat} {F : Nat → Prop} {m : Int} {hs : List (Int × Int)} {xs ys : Int → List Int} {v : Value} {cb : Int → Nat} {c : Nat → Int} {todo : List Int}

theorem ColLoop.start (h : TabIs w0 p F m hs xs v mb n cb c) (hr : RangeIs kInt w mb w0.heap.size n (kinds m) (ptrOf cb) (kinds m) cnt) (hb : Below w0.heap.size w0 w) : ColLoop w0 w p F m hs xs ys v mb n cb w0.heap.size (kinds m) cnt :=
  ⟨F, c, (h.later hb).congr (fun k hk => by rw [if_pos hk]), hr, Kept.ofBelow hb, Moves.refl _ _, fun hf => by have := h.lt _ hf; omega⟩
theorem ColLoop.range (h : ColLoop w0 w p F m hs xs ys v mb n cb r todo cnt) : RangeIs kInt w mb r n (kinds m) (ptrOf cb) todo cnt := by
  obtain ⟨F', c', _, hr, _⟩ := h; exact hr
theorem ColLoop.done (h : ColLoop w0 w p F m hs xs ys v mb n cb r [] cnt) : ∃ F' c', TabIs w p F' m hs ys v mb n cb c' ∧ Kept F w0 w ∧ Moves w0 F F' := by
  obtain ⟨F', c', ht, _, hk, hm, _⟩ := h
  exact ⟨F', c', ht.congr (fun k _ => by simp), hk, hm⟩
/-- Column k comes up: what it is, and what is there when it has been turned. -/
theorem ColLoop.next {k : Int} (h : ColLoop w0 w p F m hs xs ys v mb n cb r todo cnt) (hk : k ∈ todo) (hr0 : w0.heap.size ≤ r) (hr : RangeIs kInt w' mb r n (kinds m) (ptrOf cb) (todo.filter (fun y => !decide (y = k))) cnt') (hw : Kept (fun q => q = r) w w') (hsz : w'.heap.size = w.heap.size) :
    ∃ u, ColIs elInt 3 w' (cb k) 0 #[u] 121 u (xs k) ∧ ∀ w'', ColPost elInt 3 w' (cb k) 0 #[u] 121 u (ys k) w'' → ColLoop w0 w'' p F m hs xs ys v mb n cb r (todo.filter (fun y => !decide (y = k))) cnt' := by
  obtain ⟨F', c', ht, hr', hkk, hm, hnr⟩ := h
  have hkm := hr'.sub k hk
  have ht' := ht.kept hw (fun b hb e => hnr (e ▸ hb))
  obtain ⟨u, hc, hu⟩ := ht'.colIs hkm
  rw [if_pos hk] at hc
  refine ⟨u, hc, fun w'' hp => ?_⟩
  obtain ⟨h1, h2⟩ := ht'.cstep hkm hu hp
  have hrl := hr.lt
  obtain ⟨_, _, hkp, _⟩ := hp
  have h0 := kinds_ge hkm
  refine ⟨growF F' w' w'', growC c' w' k, h1.congr (fun j hj => ?_), hr.kept hkp (fun e => by have := (hu mb e).2; rw [ht.fm.2] at this; omega) (fun e => hnr (hu r e).1), ?_, ?_, ?_⟩
  · by_cases e : j = k
    · subst e; simp
    · rw [if_neg e]; simp [e]
  · exact (hkk.trans hw (fun b e => .inr (by omega))).trans h2 hm
  · exact hm.trans (growF_moves F' w' w'') (by rw [hsz]; exact hkk.size)
  · rintro (hf | hf)
    · exact hnr hf
    · omega
end
end Go.Proofs.Ytakoejopgdaknaa

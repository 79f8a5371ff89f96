/- Memory that a call owns: which blocks may turn (Kept), slices that read as lists of elements of several cells (Reads), slices of the call's own (Owns). -/
import Derived.Test.YtakoejopgdaknaaBase
import Derived.Deep.AppendLies
namespace Go.Proofs.Ytakoejopgdaknaa
open Go.RowKit

/-- w' is w but for the blocks of F and for new blocks. -/
structure Kept (F : Nat → Prop) (w w' : World) : Prop where
  os : w'.os = w.os
  tape : w'.tape = w.tape
  output : w'.output = w.output
  size : w.heap.size ≤ w'.heap.size
  block : ∀ k, k < w.heap.size → ¬ F k → w'.heap[k]? = w.heap[k]?

theorem Kept.refl (F : Nat → Prop) (w : World) : Kept F w w := ⟨rfl, rfl, rfl, Nat.le_refl _, fun _ _ _ => rfl⟩
theorem Kept.trans {F G : Nat → Prop} {a b c : World} (h : Kept F a b) (k : Kept G b c) (hg : ∀ i, G i → F i ∨ a.heap.size ≤ i) : Kept F a c :=
  ⟨k.os.trans h.os, k.tape.trans h.tape, k.output.trans h.output, Nat.le_trans h.size k.size, fun i hi hf =>
    (k.block i (Nat.lt_of_lt_of_le hi h.size) (fun g => (hg i g).elim hf (fun e => by omega))).trans (h.block i hi hf)⟩
theorem Kept.mono {F G : Nat → Prop} {w w' : World} (h : Kept F w w') (hg : ∀ i, F i → G i ∨ w.heap.size ≤ i) : Kept G w w' :=
  ⟨h.os, h.tape, h.output, h.size, fun i hi hf => h.block i hi (fun g => (hg i g).elim hf (fun e => by omega))⟩
theorem Kept.ofBelow {F : Nat → Prop} {w w' : World} (h : Below w.heap.size w w') : Kept F w w' := ⟨h.os, h.tape, h.output, h.size, fun k hk _ => h.block k hk⟩
theorem Kept.below {F : Nat → Prop} {w w' : World} {B : Nat} (h : Kept F w w') (hB : B ≤ w.heap.size) (hF : ∀ k, F k → B ≤ k) : Below B w w' :=
  ⟨h.os, h.tape, h.output, h.size, fun k hk => h.block k (by omega) (fun f => by have := hF k f; omega)⟩
theorem Kept.alloc (F : Nat → Prop) (w : World) (o : Obj) : Kept F w (w.alloc o) := ⟨rfl, rfl, rfl, by simp, fun k hk _ => Below.heap_alloc w o k hk⟩
theorem Kept.setCell {F : Nat → Prop} (w : World) {p : Addr} (hp : F p.block) (u : Value) : Kept F w (w.setCell p u) :=
  ⟨rfl, rfl, rfl, by simp [World.setCell], fun k _ hf => heap_setCell_other _ _ _ _ (fun e => hf (by rw [e]; exact hp))⟩
theorem Kept.grown {F : Nat → Prop} {w w' : World} {row : Option Nat} (hg : w.grownBy w' row) (hr : ∀ k, row = some k → F k) : Kept F w w' :=
  ⟨hg.os, hg.tape, hg.output, hg.size, fun k hk hf => hg.block k hk (fun e => hf (hr k e.symm))⟩
theorem Kept.drew (F : Nat → Prop) (w : World) : Kept F w w.drew := ⟨rfl, rfl, rfl, Nat.le_refl _, fun _ _ _ => rfl⟩
theorem Kept.cell {F : Nat → Prop} {w w' : World} (h : Kept F w w') {p : Addr} (hp : p.block < w.heap.size) (hf : ¬ F p.block) : w'.cell? p = w.cell? p := World.cell?_of_block (h.block p.block hp hf)
theorem Kept.cellS {F : Nat → Prop} {w w' : World} (h : Kept F w w') {p : Addr} {v : Value} (hc : w.cell? p = some v) (hf : ¬ F p.block) : w'.cell? p = some v := by
  rw [h.cell (World.block_lt_of_cell? _ _ hc) hf]; exact hc

/-- What comes of a set of own blocks: old ones of it, or new blocks. -/
def Moves (w : World) (F F' : Nat → Prop) : Prop := ∀ k, F' k → F k ∨ w.heap.size ≤ k
theorem Moves.refl (w : World) (F : Nat → Prop) : Moves w F F := fun _ h => .inl h
theorem Moves.trans {w w' : World} {F G H : Nat → Prop} (h : Moves w F G) (k : Moves w' G H) (hs : w.heap.size ≤ w'.heap.size) : Moves w F H :=
  fun i hi => (k i hi).elim (fun g => h i g) (fun e => .inr (Nat.le_trans hs e))
theorem Kept.next {F F' : Nat → Prop} {a b c : World} (h : Kept F a b) (m : Moves a F F') (k : Kept F' b c) : Kept F a c := h.trans k m
/-- Two sets of own blocks, the first turned: still apart. -/
theorem Moves.apart {w : World} {F F' G : Nat → Prop} (m : Moves w F F') (hG : ∀ k, G k → k < w.heap.size) (h : ∀ k, F k → ¬ G k) : ∀ k, F' k → ¬ G k :=
  fun k hk hg => (m k hk).elim (fun f => h k f hg) (fun e => by have := hG k hg; omega)
theorem Moves.apart' {w : World} {F F' G : Nat → Prop} (m : Moves w F F') (hG : ∀ k, G k → k < w.heap.size) (h : ∀ k, G k → ¬ F k) : ∀ k, G k → ¬ F' k :=
  fun k hk hf => (m k hf).elim (fun f => h k hk f) (fun e => by have := hG k hk; omega)
theorem Moves.above {w : World} {F F' : Nat → Prop} {B : Nat} (m : Moves w F F') (hB : B ≤ w.heap.size) (h : ∀ k, F k → B ≤ k) : ∀ k, F' k → B ≤ k :=
  fun k hk => (m k hk).elim (h k) (fun e => by omega)

/-- How an element lies in cells. -/
structure El (α : Type) where
  enc : α → List Value
  size : Nat
  zero : α
  len : ∀ x, (enc x).length = size
  pos : 0 < size
  one : ∀ x, ∀ u ∈ enc x, u.oneCell' = true

/-- In world w the value v is a slice whose elements are xs. -/
def Reads {α : Type} (E : El α) (w : World) (v : Value) (xs : List α) : Prop :=
  ∃ a cap, v = .slice a xs.length cap ∧ xs.length ≤ cap ∧ cap ≤ maxLen ∧
    ∀ k, k < xs.length → ∃ b off, a = some ⟨b, off, none⟩ ∧ b < w.heap.size ∧ ∀ j, j < E.size → w.cell? ⟨b, off + k * E.size + j, none⟩ = (E.enc (xs.getD k E.zero))[j]?

theorem Reads.open {α : Type} {E : El α} {w : World} {v : Value} {xs : List α} (h : Reads E w v xs) :
    xs.length ≤ maxLen ∧ ((∃ a cap, v = .slice a xs.length cap ∧ xs.length ≤ 0) ∨ ∃ b off cap, v = .slice (some ⟨b, off, none⟩) xs.length cap ∧ b < w.heap.size ∧ xs.length ≤ cap ∧ cap ≤ maxLen ∧
      ∀ k, k < xs.length → ∀ j, j < E.size → w.cell? ⟨b, off + k * E.size + j, none⟩ = (E.enc (xs.getD k E.zero))[j]?) := by
  obtain ⟨a, cap, rfl, hl, hm, h⟩ := h
  refine ⟨Nat.le_trans hl hm, ?_⟩
  by_cases e : xs.length = 0
  · exact .inl ⟨a, cap, rfl, by omega⟩
  · obtain ⟨b, off, rfl, hb, _⟩ := h 0 (by omega)
    refine .inr ⟨b, off, cap, rfl, hb, hl, hm, fun k hk => ?_⟩
    obtain ⟨b', off', e, _, h⟩ := h k hk
    simp only [Option.some.injEq, Addr.mk.injEq] at e
    obtain ⟨rfl, rfl, _⟩ := e
    exact h

theorem Reads.kept {α : Type} {E : El α} {F : Nat → Prop} {w w' : World} {v : Value} {xs : List α} (h : Reads E w v xs) (hk : Kept F w w') (hf : ∀ k, v.ownBlock = some k → ¬ F k) : Reads E w' v xs := by
  obtain ⟨a, cap, rfl, hl, hm, h⟩ := h
  refine ⟨a, cap, rfl, hl, hm, fun k hk' => ?_⟩
  obtain ⟨b, off, rfl, hlt, hc⟩ := h k hk'
  exact ⟨b, off, rfl, Nat.lt_of_lt_of_le hlt hk.size, fun j hj => by rw [hk.cell (p := ⟨b, off + k * E.size + j, none⟩) hlt (hf b rfl)]; exact hc j hj⟩
theorem Reads.later {α : Type} {E : El α} {w w' : World} {v : Value} {xs : List α} (h : Reads E w v xs) (hb : Below w.heap.size w w') : Reads E w' v xs :=
  h.kept (F := fun _ => False) (Kept.ofBelow hb) (fun _ _ f => f)

/-- A slice of the call's own. -/
def Owns {α : Type} (E : El α) (w : World) (T : TypeId) (v : Value) (xs : List α) : Prop := w.ownsRow 0 T E.size v xs.length (xs.flatMap E.enc)

theorem length_enc {α : Type} (E : El α) : ∀ xs : List α, (xs.flatMap E.enc).length = xs.length * E.size
  | [] => by simp
  | x :: xs => by rw [List.flatMap_cons, List.length_append, E.len, length_enc E xs, List.length_cons, Nat.add_mul]; omega
theorem enc_at {α : Type} (E : El α) : ∀ (xs : List α) (k j : Nat), k < xs.length → j < E.size → (xs.flatMap E.enc)[k * E.size + j]? = (E.enc (xs.getD k E.zero))[j]?
  | x :: xs, 0, j, _, hj => by
    rw [List.flatMap_cons, List.getElem?_append_left (by rw [E.len]; omega)]; simp
  | x :: xs, k + 1, j, hk, hj => by
    rw [List.flatMap_cons, List.getElem?_append_right (by rw [E.len, Nat.add_mul]; omega), E.len, show (k + 1) * E.size + j - E.size = k * E.size + j by rw [Nat.add_mul]; omega]
    rw [enc_at E xs k j (by simpa using hk) hj]
    simp
theorem enc_set {α : Type} (E : El α) : ∀ (xs : List α) (k j : Nat) (x : α) (u : Value), k < xs.length → j < E.size → E.enc x = (E.enc (xs.getD k E.zero)).set j u → (xs.set k x).flatMap E.enc = (xs.flatMap E.enc).set (k * E.size + j) u
  | y :: xs, 0, j, x, u, _, hj, h => by
    simp only [List.set_cons_zero, List.flatMap_cons, Nat.zero_mul, Nat.zero_add]
    rw [List.set_append_left _ _ (by rw [E.len]; exact hj), h]; simp
  | y :: xs, k + 1, j, x, u, hk, hj, h => by
    simp only [List.set_cons_succ, List.flatMap_cons]
    rw [List.set_append_right _ _ (by rw [E.len, Nat.add_mul]; omega), E.len, show (k + 1) * E.size + j - E.size = k * E.size + j by rw [Nat.add_mul]; omega]
    rw [enc_set E xs k j x u (by simpa using hk) hj (by simpa using h)]

theorem Owns.form {α : Type} {E : El α} {w : World} {T : TypeId} {v : Value} {xs : List α} (h : Owns E w T v xs) :
    (v = .slice none 0 0 ∧ xs = []) ∨ ∃ g cap cur, v = .slice (some ⟨g, 0, none⟩) xs.length cap ∧ w.heap[g]? = some (.cells cur T (0, 0)) ∧ g < w.heap.size ∧ xs.length ≤ cap ∧ cap ≤ maxLen ∧ cur.size = cap * E.size := by
  rcases h.2 with ⟨rfl, h0⟩ | ⟨g, cap, cur, rfl, _, hh, hn, hcap, hsz, htake⟩
  · exact .inl ⟨rfl, List.length_eq_zero_iff.1 h0⟩
  · exact .inr ⟨g, cap, cur, rfl, hh, (Array.getElem?_eq_some_iff.1 hh).1, hn, hcap, hsz⟩

theorem Owns.reads {α : Type} {E : El α} {w : World} {T : TypeId} {v : Value} {xs : List α} (h : Owns E w T v xs) : Reads E w v xs := by
  rcases h.form with ⟨rfl, rfl⟩ | ⟨g, cap, cur, rfl, hh, hg, hn, hcap, hsz⟩
  · exact ⟨none, 0, rfl, by simp, by simp [maxLen], fun k hk => by simp at hk⟩
  · refine ⟨_, cap, rfl, hn, hcap, fun k hk => ⟨g, 0, rfl, hg, fun j hj => ?_⟩⟩
    rw [← enc_at E xs k j hk hj, Nat.zero_add]
    exact World.ownsRow.cellAt h _ (by have : (k + 1) * E.size ≤ xs.length * E.size := Nat.mul_le_mul_right _ hk
                                       rw [Nat.add_mul] at this; omega)

theorem Owns.kept {α : Type} {E : El α} {F : Nat → Prop} {w w' : World} {T : TypeId} {v : Value} {xs : List α} (h : Owns E w T v xs) (hk : Kept F w w') (hf : ∀ k, v.ownBlock = some k → ¬ F k) : Owns E w' T v xs := by
  refine ⟨h.1, ?_⟩
  rcases h.2 with hn | ⟨g, cap, cur, rfl, hb, hgg, rest⟩
  · exact .inl hn
  · refine .inr ⟨g, cap, cur, rfl, hb, ?_, rest⟩
    rw [hk.block g (Array.getElem?_eq_some_iff.1 hgg).1 (hf g rfl)]
    exact hgg
theorem Owns.later {α : Type} {E : El α} {w w' : World} {T : TypeId} {v : Value} {xs : List α} (h : Owns E w T v xs) (hb : Below w.heap.size w w') : Owns E w' T v xs :=
  h.kept (F := fun _ => False) (Kept.ofBelow hb) (fun _ _ f => f)
theorem Owns.nil {α : Type} (E : El α) (w : World) (T : TypeId) : Owns E w T (.slice none 0 0) [] := World.ownsRow_nil _ _ _ _
theorem Owns.lt {α : Type} {E : El α} {w : World} {T : TypeId} {v : Value} {xs : List α} (h : Owns E w T v xs) {k : Nat} (hk : v.ownBlock = some k) : k < w.heap.size := (World.ownsRow.lt h k hk).2
/-- A store into a cell of element k that makes it x. -/
theorem Owns.stored {α : Type} {E : El α} {w : World} {T : TypeId} {g n cap : Nat} {xs : List α} (h : Owns E w T (.slice (some ⟨g, 0, none⟩) n cap) xs) (k j : Nat) (x : α) (u : Value)
    (hk : k < xs.length) (hj : j < E.size) (hx : E.enc x = (E.enc (xs.getD k E.zero)).set j u) :
    Owns E (w.setCell ⟨g, k * E.size + j, none⟩ u) T (.slice (some ⟨g, 0, none⟩) n cap) (xs.set k x) := by
  have e : n = xs.length := by
    rcases h.form with ⟨h', _⟩ | ⟨g', cap', cur, h', _⟩
    · cases h'
    · simpa using (Value.slice.inj h').2.1
  subst e
  have := (World.ownsRow.stored h (k * E.size + j) u).1
  unfold Owns
  rw [enc_set E xs k j x u hk hj hx, List.length_set]
  exact this

/-- A slice of the call's own, in a block from B on. -/
def OwnsF {α : Type} (E : El α) (w : World) (B : Nat) (T : TypeId) (v : Value) (xs : List α) : Prop := w.ownsRow B T E.size v xs.length (xs.flatMap E.enc)
theorem OwnsF.owns {α : Type} {E : El α} {w : World} {B : Nat} {T : TypeId} {v : Value} {xs : List α} (h : OwnsF E w B T v xs) : Owns E w T v xs := by
  refine ⟨h.1, ?_⟩
  rcases h.2 with hn | ⟨g, cap, cur, rfl, hb, rest⟩
  · exact .inl hn
  · exact .inr ⟨g, cap, cur, rfl, Nat.zero_le _, rest⟩
theorem OwnsF.reads {α : Type} {E : El α} {w : World} {B : Nat} {T : TypeId} {v : Value} {xs : List α} (h : OwnsF E w B T v xs) : Reads E w v xs := h.owns.reads
theorem OwnsF.ge {α : Type} {E : El α} {w : World} {B : Nat} {T : TypeId} {v : Value} {xs : List α} (h : OwnsF E w B T v xs) {k : Nat} (hk : v.ownBlock = some k) : B ≤ k := (World.ownsRow.lt h k hk).1
theorem OwnsF.lt {α : Type} {E : El α} {w : World} {B : Nat} {T : TypeId} {v : Value} {xs : List α} (h : OwnsF E w B T v xs) {k : Nat} (hk : v.ownBlock = some k) : k < w.heap.size := (World.ownsRow.lt h k hk).2
theorem OwnsF.kept {α : Type} {E : El α} {F : Nat → Prop} {w w' : World} {B : Nat} {T : TypeId} {v : Value} {xs : List α} (h : OwnsF E w B T v xs) (hk : Kept F w w') (hf : ∀ k, v.ownBlock = some k → ¬ F k) : OwnsF E w' B T v xs := by
  refine ⟨h.1, ?_⟩
  rcases h.2 with hn | ⟨g, cap, cur, rfl, hb, hgg, rest⟩
  · exact .inl hn
  · refine .inr ⟨g, cap, cur, rfl, hb, ?_, rest⟩
    rw [hk.block g (Array.getElem?_eq_some_iff.1 hgg).1 (hf g rfl)]
    exact hgg
theorem OwnsF.later {α : Type} {E : El α} {w w' : World} {B : Nat} {T : TypeId} {v : Value} {xs : List α} (h : OwnsF E w B T v xs) (hb : Below w.heap.size w w') : OwnsF E w' B T v xs :=
  h.kept (F := fun _ => False) (Kept.ofBelow hb) (fun _ _ f => f)
theorem OwnsF.nil {α : Type} (E : El α) (w : World) (B : Nat) (T : TypeId) : OwnsF E w B T (.slice none 0 0) [] := World.ownsRow_nil _ _ _ _
/-- behind an append of one element -/
theorem OwnsF.snoc {α : Type} {E : El α} {w : World} {B : Nat} {T : TypeId} {v : Value} {xs : List α} {x : α} (h : w.ownsRow B T E.size v (xs.length + 1) (xs.flatMap E.enc ++ E.enc x)) : OwnsF E w B T v (xs ++ [x]) := by
  unfold OwnsF; rw [List.flatMap_append, List.length_append]; simpa using h
theorem OwnsF.stored {α : Type} {E : El α} {w : World} {B : Nat} {T : TypeId} {g n cap : Nat} {xs : List α} (h : OwnsF E w B T (.slice (some ⟨g, 0, none⟩) n cap) xs) (k j : Nat) (x : α) (u : Value)
    (hk : k < xs.length) (hj : j < E.size) (hx : E.enc x = (E.enc (xs.getD k E.zero)).set j u) :
    OwnsF E (w.setCell ⟨g, k * E.size + j, none⟩ u) B T (.slice (some ⟨g, 0, none⟩) n cap) (xs.set k x) := by
  have e : n = xs.length := by
    rcases h.owns.form with ⟨h', _⟩ | ⟨g', cap', cur, h', _⟩
    · cases h'
    · simpa using (Value.slice.inj h').2.1
  subst e
  have := (World.ownsRow.stored h (k * E.size + j) u).1
  unfold OwnsF
  rw [enc_set E xs k j x u hk hj hx, List.length_set]
  exact this

/-- a variable of two cells, newly made and set -/
theorem below_var2 (w : World) (o : Obj) (u u' : Value) : Below w.heap.size w (((w.alloc o).setCell ⟨w.heap.size, 0, none⟩ u).setCell ⟨w.heap.size, 1, none⟩ u') :=
  (((Below.refl _ _).alloc (Nat.le_refl _) o).setCell (p := ⟨w.heap.size, 0, none⟩) (Nat.le_refl _) u).setCell (p := ⟨w.heap.size, 1, none⟩) (Nat.le_refl _) u'

theorem getD_set_eq {α : Type} (xs : List α) (k : Nat) (x d : α) (h : k < xs.length) : (xs.set k x).getD k d = x := by simp [List.getD_eq_getElem?_getD, h]
theorem getD_set_ne {α : Type} (xs : List α) {k j : Nat} (x d : α) (h : k ≠ j) : (xs.set k x).getD j d = xs.getD j d := by simp [List.getD_eq_getElem?_getD, List.getElem?_set_ne h]
end Go.Proofs.Ytakoejopgdaknaa

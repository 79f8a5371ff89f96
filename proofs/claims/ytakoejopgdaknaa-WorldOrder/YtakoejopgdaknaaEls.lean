/- Elements of one or two cells: ints, bools, handles; own slices of them, opened. -/
import Derived.Test.YtakoejopgdaknaaMem
import Derived.Test.YtakoejopgdaknaaLists
namespace Go.Proofs.Ytakoejopgdaknaa
open Go.RowKit

def elHand : El (Int × Int) := { enc := fun x => [.int .i64 x.1, .int .i64 x.2], size := 2, zero := (0, 0), len := fun _ => rfl, pos := by decide, one := fun x u hu => by simp at hu; rcases hu with rfl | rfl <;> rfl }
def elInt : El Int := { enc := fun x => [.int .i64 x], size := 1, zero := 0, len := fun _ => rfl, pos := by decide, one := fun x u hu => by simp at hu; subst hu; rfl }
def elBool : El Bool := { enc := fun x => [.bool x], size := 1, zero := false, len := fun _ => rfl, pos := by decide, one := fun x u hu => by simp at hu; subst hu; rfl }
/-- The cells of slice elements of two cells, in the walk's own spelling. -/
theorem cells2 {α : Type} {E : El α} (hE : E.size = 2) {w : World} {b off n : Nat} {xs : List α} (h : ∀ k, k < n → ∀ j, j < E.size → w.cell? ⟨b, off + k * E.size + j, none⟩ = (E.enc (xs.getD k E.zero))[j]?) {k : Nat} (hk : k < n) :
    w.cell? ⟨b, off + k * 2, none⟩ = (E.enc (xs.getD k E.zero))[0]? ∧ w.cell? ⟨b, off + k * 2 + 1, none⟩ = (E.enc (xs.getD k E.zero))[1]? := by
  have h0 := h k hk 0 (by omega)
  have h1 := h k hk 1 (by omega)
  rw [hE] at h0 h1
  exact ⟨h0, h1⟩
/-- An own slice, opened: its block, its cells, none frozen. -/
theorem Owns.open2 {α : Type} {E : El α} (hE : E.size = 2) {w : World} {T : TypeId} {v : Value} {xs : List α} (h : Owns E w T v xs) {k : Nat} (hk : k < xs.length) :
    ∃ g cap, v = .slice (some ⟨g, 0, none⟩) xs.length cap ∧ g < w.heap.size ∧ xs.length ≤ maxLen ∧ w.cell? ⟨g, k * 2, none⟩ = (E.enc (xs.getD k E.zero))[0]? ∧ w.cell? ⟨g, k * 2 + 1, none⟩ = (E.enc (xs.getD k E.zero))[1]? ∧ ∀ j, w.frozen? ⟨g, j, none⟩ = false := by
  rcases h.form with ⟨rfl, rfl⟩ | ⟨g, cap, cur, rfl, hh, hg, hn, hcap, hsz⟩
  · simp at hk
  · have c := fun j (hj : j < xs.length * E.size) => World.ownsRow.cellAt h j hj
    have h0 := enc_at E xs k 0 hk (by omega)
    have h1 := enc_at E xs k 1 hk (by omega)
    rw [hE] at h0 h1 c
    exact ⟨g, cap, rfl, hg, by omega, by rw [c _ (by omega), ← h0]; rfl, by rw [c _ (by omega), ← h1], fun j => frozen_of_row _ _ _ _ _ hh⟩
theorem infoHand : (Try.prog.info? 38).map (fun i => (i.zero, i.size, i.bytes)) = some (some (.agg #[.int .i64 0, .int .i64 0]), 2, 16) := by kernel_rfl
theorem flatMap_int (xs : List Int) : xs.flatMap elInt.enc = xs.map (Value.int .i64) := by
  induction xs with
  | nil => rfl
  | cons x xs ih => rw [List.flatMap_cons, ih]; rfl
theorem Ints.ofReads {w : World} {v : Value} {xs : List Int} (h : Reads elInt w v xs) : Ints w v xs := by
  obtain ⟨a, cap, rfl, hl, hm, h⟩ := h
  refine ⟨a, cap, rfl, hl, hm, fun k hk => ?_⟩
  obtain ⟨b, off, e, hb, hc⟩ := h k hk
  have := hc 0 (by decide)
  simp [elInt] at this
  exact ⟨b, off, e, hb, by simpa using this⟩
/-- A cell of an own slice of elements of one cell. -/
theorem OwnsF.open1 {α : Type} {E : El α} (hE : E.size = 1) {w : World} {B : Nat} {T : TypeId} {g n cap : Nat} {xs : List α} (h : OwnsF E w B T (.slice (some ⟨g, 0, none⟩) n cap) xs) {k : Nat} (hk : k < xs.length) :
    w.cell? ⟨g, k, none⟩ = (E.enc (xs.getD k E.zero))[0]? ∧ w.frozen? ⟨g, k, none⟩ = false ∧ g < w.heap.size := by
  have h' := h.owns
  rcases h'.form with ⟨e, _⟩ | ⟨g', cap', cur, e, hh, hg, hn, hcap, hsz⟩
  · cases e
  · simp only [Value.slice.injEq, Option.some.injEq, Addr.mk.injEq, and_true] at e
    obtain ⟨rfl, rfl, rfl⟩ := e
    have h0 := enc_at E xs k 0 hk (by omega)
    rw [hE] at h0
    have c := World.ownsRow.cellAt h' k (by rw [hE]; omega)
    refine ⟨by rw [c, ← h0]; simp, frozen_of_row _ _ _ _ _ hh, hg⟩
theorem OwnsF.stored1 {α : Type} {E : El α} (hE : E.size = 1) {w : World} {B : Nat} {T : TypeId} {g n cap : Nat} {xs : List α} (h : OwnsF E w B T (.slice (some ⟨g, 0, none⟩) n cap) xs) (k : Nat) (x : α) (u : Value)
    (hk : k < xs.length) (hx : E.enc x = (E.enc (xs.getD k E.zero)).set 0 u) : OwnsF E (w.setCell ⟨g, k, none⟩ u) B T (.slice (some ⟨g, 0, none⟩) n cap) (xs.set k x) := by
  have := h.stored k 0 x u hk (by omega) hx
  rwa [hE, Nat.mul_one, Nat.add_zero] at this
theorem OwnsF.weaken {α : Type} {E : El α} {w : World} {B B' : Nat} {T : TypeId} {v : Value} {xs : List α} (h : OwnsF E w B' T v xs) (hB : B ≤ B') : OwnsF E w B T v xs := by
  refine ⟨h.1, ?_⟩
  rcases h.2 with hn | ⟨g, cap, cur, rfl, hb, rest⟩
  · exact .inl hn
  · exact .inr ⟨g, cap, cur, rfl, Nat.le_trans hB hb, rest⟩
theorem addr_add' (b off i : Nat) : (⟨b, off, none⟩ : Addr).add i = ⟨b, off + i, none⟩ := by
  unfold Addr.add; split <;> simp_all
theorem cells1 {α : Type} {E : El α} (hE : E.size = 1) {w : World} {b off n : Nat} {xs : List α} (h : ∀ k, k < n → ∀ j, j < E.size → w.cell? ⟨b, off + k * E.size + j, none⟩ = (E.enc (xs.getD k E.zero))[j]?) {k : Nat} (hk : k < n) :
    w.cell? ⟨b, off + k, none⟩ = (E.enc (xs.getD k E.zero))[0]? := by
  have h0 := h k hk 0 (by omega)
  rwa [hE, Nat.mul_one, Nat.add_zero] at h0
/-- Behind an append onto v: what has become of a world that it began in. -/
structure Grew (W w1 : World) (v : Value) (g : Nat) : Prop where
  os : w1.os = W.os
  tape : w1.tape = W.tape
  output : w1.output = W.output
  size : W.heap.size ≤ w1.heap.size
  far : ∀ b, b < W.heap.size → v.ownBlock ≠ some b → w1.heap[b]? = W.heap[b]?
  at_ : v.ownBlock = some g ∨ W.heap.size ≤ g
  lt : g < w1.heap.size
theorem Grew.of {W x w1 : World} {v : Value} {g : Nat} (hb : Below W.heap.size W x) (hg : x.grownBy w1 v.ownBlock) (hat : v.ownBlock = some g ∨ g = x.heap.size) (hlt : g < w1.heap.size) : Grew W w1 v g :=
  ⟨hg.os.trans hb.os, hg.tape.trans hb.tape, hg.output.trans hb.output, Nat.le_trans hb.size hg.size, fun b hb' hne => by rw [hg.block b (Nat.lt_of_lt_of_le hb' hb.size) (Ne.symm hne), hb.block b hb'],
    hat.imp id (fun e => by rw [e]; exact hb.size), hlt⟩
theorem Grew.new {W x w1 : World} {v : Value} (hv : ∀ b, v.ownBlock = some b → b < W.heap.size) (hg : x.grownBy w1 v.ownBlock) {b : Nat} {o : Obj} (hb : W.heap.size ≤ b) (h : x.heap[b]? = some o) : w1.heap[b]? = some o := by
  rw [hg.block b (Array.getElem?_eq_some_iff.1 h).1 (fun e => by have := hv b e.symm; omega)]; exact h
theorem ownsRow_block {w w' : World} {B : Nat} {e : TypeId} {size : Nat} {v : Value} {n : Nat} {xs : List Value} (h : w.ownsRow B e size v n xs) (hb : ∀ g, v.ownBlock = some g → w'.heap[g]? = w.heap[g]?) : w'.ownsRow B e size v n xs := by
  refine ⟨h.1, ?_⟩
  rcases h.2 with hn | ⟨g, cap, cur, rfl, hB, hgg, rest⟩
  · exact .inl hn
  · exact .inr ⟨g, cap, cur, rfl, hB, by rw [hb g rfl]; exact hgg, rest⟩
theorem Grew.kept {W w1 : World} {v : Value} {g : Nat} {F : Nat → Prop} (h : Grew W w1 v g) (hv : ∀ b, v.ownBlock = some b → F b) : Kept F W w1 :=
  ⟨h.os, h.tape, h.output, h.size, fun b hb hf => h.far b hb (fun e => hf (hv b e))⟩
end Go.Proofs.Ytakoejopgdaknaa

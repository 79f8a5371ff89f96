/- The change's box of the reference's Between: its parts stored one by one; a list of rows without its first. -/
import Derived.Test.YtnmlapoiilckhaaDoorRefDiffKit
import Derived.Test.YtnmlapoiilckhaaDoorDiffBetP
import Derived.Test.YtnmlapoiilckhaaDoorHeldTill2
import Derived.Test.YtnmlapoiilckhaaDoorGroundA
namespace Go.Proofs.YtnmlapoiilckhaaDoor
open Go.RowKit
set_option linter.unusedSimpArgs false
set_option linter.unusedVariables false

/-- a part of a struct stored into a box, in a drawn region -/
theorem step_put {P : Program} {op : Oper} {a : Act} {w : World} {K : Act → World → Prop} {Q : Exit → Act → World → Prop} {ops : Array Oper} {E : Prop} (hgd : op.guard = none) (ty : TypeId) (x y : Operand) (ho : op.op = .store ty x y)
    (b o : Nat) (l : List Value) (hx : a.eval x = .pointer (some ⟨b, o, none⟩)) (hy : a.eval y = .agg l.toArray)
    (ht : w.there b o l.length) (hi : (P.info? ty).map (·.size) = some l.length) (h1 : ∀ u ∈ l, u.oneCell' = true)
    (h : K (a.put op.dst undef) (w.setCells b o l)) : if Region.wanted op (yielded ops a.tmps) = true then op.wp P a w K Q else E := by
  rw [if_pos (by simp [Region.wanted, hgd])]
  refine wp_store_mid ty x y ho b o l.toArray hx hy (by simpa using ht) (by simpa using hi) (all_oneCell_toArray h1) ?_
  simpa using h
theorem one2 (s g : Int) : ∀ u ∈ ([.int .i64 s, .int .i64 g] : List Value), u.oneCell' = true := fun u hu => by simp at hu; rcases hu with rfl | rfl <;> rfl
theorem one9 (m a0 a1 a2 a3 a4 a5 a6 a7 : Int) : ∀ u ∈ ([.int .i64 m, .int .i64 a0, .int .i64 a1, .int .i64 a2, .int .i64 a3, .int .i64 a4, .int .i64 a5, .int .i64 a6, .int .i64 a7] : List Value), u.oneCell' = true := fun u hu => by simp at hu; rcases hu with rfl | rfl | rfl | rfl | rfl | rfl | rfl | rfl | rfl <;> rfl
/-- The box of a change beside the list of changes so far. -/
def Bx (w : World) (q : Nat) (z : Value) (out : List Ch) (c : Ch) (W : World) : Prop :=
  w.heap.size ≤ q ∧ (∀ k, z.ownBlock = some k → ¬ k = q) ∧ Below w.heap.size w W ∧ W.heap[q]? = some (.cells (elCh.enc c).toArray 36) ∧ OwnsF elCh W w.heap.size 36 z out
section
variable {w W W' : World} {q : Nat} {z : Value} {out : List Ch} {c : Ch} {h0 : Hd} {o n : Be}
theorem Bx.later (h : Bx w q z out c W) (hb : Below W.heap.size W W') : Bx w q z out c W' := by
  obtain ⟨h1, h2, h3, h4, h5⟩ := h
  exact ⟨h1, h2, nb_trans h3 hb, (hb.block _ (Array.getElem?_eq_some_iff.1 h4).1).trans h4, h5.later hb⟩
theorem Bx.drew (h : Bx w q z out c W) : Bx w q z out c W.drew := h.later (Below.refl _ _).drew
theorem Bx.lt (h : Bx w q z out c W) : q < W.heap.size := (Array.getElem?_eq_some_iff.1 h.2.2.2.1).1
theorem Bx.below (h : Bx w q z out c W) : Below w.heap.size w W := h.2.2.1
theorem Bx.own (h : Bx w q z out c W) : OwnsF elCh W w.heap.size 36 z out := h.2.2.2.2
theorem Bx.box (h : Bx w q z out c W) : W.heap[q]? = some (.cells (elCh.enc c).toArray 36) := h.2.2.2.1
theorem Bx.there (h : Bx w q z out c W) (o k : Nat) (hk : o + k ≤ 20) : W.there q o k := fun j hj => by
  refine ⟨?_, frozen_of_row _ _ _ _ _ h.box⟩
  rw [cell_of_row _ _ _ _ _ _ h.box, Array.getElem?_eq_getElem (by rw [List.size_toArray, elCh.len]; show o + j < 20; omega)]
  rfl
theorem Bx.put (h : Bx w q z out c W) (o : Nat) (l : List Value) {d : Ch} (hd : (W.setCells q o l).heap[q]? = some (.cells (elCh.enc d).toArray 36)) : Bx w q z out d (W.setCells q o l) := by
  obtain ⟨h1, h2, h3, h4, h5⟩ := h
  have hk := ow_setCellsR q l o W
  refine ⟨h1, h2, h3.trans (hk.below h3.size (fun k e => by rw [e]; exact h1)), hd, h5.kept hk (fun k e => h2 k e)⟩
theorem Bx.at_ (s g : Int) (h : Bx w q z out (h0, o, n) W) : Bx w q z out ((s, g), o, n) (W.setCells q 0 [.int .i64 s, .int .i64 g]) := h.put 0 _ (put_at s g h.box)
theorem Bx.old (m a0 a1 a2 a3 a4 a5 a6 a7 : Int) (h : Bx w q z out (h0, o, n) W) : Bx w q z out (h0, (m, a0, a1, a2, a3, a4, a5, a6, a7), n) (W.setCells q 2 [.int .i64 m, .int .i64 a0, .int .i64 a1, .int .i64 a2, .int .i64 a3, .int .i64 a4, .int .i64 a5, .int .i64 a6, .int .i64 a7]) := h.put 2 _ (put_old m a0 a1 a2 a3 a4 a5 a6 a7 h.box)
theorem Bx.now (m a0 a1 a2 a3 a4 a5 a6 a7 : Int) (h : Bx w q z out (h0, o, n) W) : Bx w q z out (h0, o, (m, a0, a1, a2, a3, a4, a5, a6, a7)) (W.setCells q 11 [.int .i64 m, .int .i64 a0, .int .i64 a1, .int .i64 a2, .int .i64 a3, .int .i64 a4, .int .i64 a5, .int .i64 a6, .int .i64 a7]) := h.put 11 _ (put_now m a0 a1 a2 a3 a4 a5 a6 a7 h.box)
theorem Bx.cell (h : Bx w q z out c W) : ∀ j, j < 20 → W.cell? ⟨q, j, none⟩ = (elCh.enc c)[j]? := fun j hj => by
  rw [cell_of_row _ _ _ _ _ _ h.box, List.getElem?_toArray]
end
section
variable {W : World} {b o : Nat} {s g m a0 a1 a2 a3 a4 a5 a6 a7 : Int}
theorem ld_roH (h : ∀ j, j < 11 → W.cell? ⟨b, o + j, none⟩ = (elRo.enc ((s, g), m, a0, a1, a2, a3, a4, a5, a6, a7))[j]?) : (Instr.loadAt 28 (.pointer (some ⟨b, o, none⟩))).run Tryd.prog W = .ok (.agg #[.int .i64 s, .int .i64 g]) W :=
  ld_all (cs := [.int .i64 s, .int .i64 g]) (fun j hj => by
    have hj' : j < 2 := hj
    rw [h j (by omega)]
    match j, hj' with
    | 0, _ => rfl
    | 1, _ => rfl) Tryd.underlying28 rfl (by kernel_rfl)
theorem ld_roB (h : ∀ j, j < 11 → W.cell? ⟨b, o + j, none⟩ = (elRo.enc ((s, g), m, a0, a1, a2, a3, a4, a5, a6, a7))[j]?) : (Instr.loadAt 31 (.pointer (some ⟨b, o + 2, none⟩))).run Tryd.prog W = .ok (.agg #[.int .i64 m, .int .i64 a0, .int .i64 a1, .int .i64 a2, .int .i64 a3, .int .i64 a4, .int .i64 a5, .int .i64 a6, .int .i64 a7]) W :=
  ld_all (cs := [.int .i64 m, .int .i64 a0, .int .i64 a1, .int .i64 a2, .int .i64 a3, .int .i64 a4, .int .i64 a5, .int .i64 a6, .int .i64 a7]) (fun j hj => by
    have hj' : j < 9 := hj
    rw [Nat.add_assoc, h (2 + j) (by omega)]
    match j, hj' with
    | 0, _ => rfl
    | 1, _ => rfl
    | 2, _ => rfl
    | 3, _ => rfl
    | 4, _ => rfl
    | 5, _ => rfl
    | 6, _ => rfl
    | 7, _ => rfl
    | 8, _ => rfl) Tryd.underlying31 rfl (by kernel_rfl)
end
/-- The first of some rows, and the others. -/
theorem first_ro {w : World} {a : Option Addr} {n cap : Nat} {x : Ro} {xs : List Ro} (h : Reads elRo w (.slice a n cap) (x :: xs)) :
    ∃ b o k, a = some ⟨b, o, none⟩ ∧ xs.length = k ∧ n = k + 1 ∧ k + 1 ≤ cap ∧ cap ≤ maxLen ∧ b < w.heap.size ∧ (∀ W, Below w.heap.size w W → b < W.heap.size) ∧ (∀ W, Below w.heap.size w W → ∀ j, j < 11 → W.cell? ⟨b, o + j, none⟩ = (elRo.enc x)[j]?) ∧
      (Reads elRo w (.slice (some ⟨b, o + 11, none⟩) k (cap - 1)) xs) ∧ (cap = 1 → ∀ a', Reads elRo w (.slice a' 0 0) xs) := by
  obtain ⟨a', cap', e, hl, hm, hc⟩ := h
  simp only [Value.slice.injEq] at e
  obtain ⟨rfl, rfl, rfl⟩ := e
  obtain ⟨b, o, rfl, hb, hcc⟩ := hc 0 (by simp)
  have hlen : (x :: xs).length = xs.length + 1 := rfl
  rw [hlen] at hl hc
  refine ⟨b, o, xs.length, rfl, rfl, rfl, hl, hm, hb, fun W hW => Nat.lt_of_lt_of_le hb hW.size, fun W hW j hj => ?_, ⟨_, _, rfl, by omega, by omega, fun k hk => ?_⟩, fun hc1 a' => ⟨_, _, by rw [show xs.length = 0 by omega], by omega, Nat.zero_le _, fun k hk => by omega⟩⟩
  · rw [hW.cell (p := ⟨b, _, none⟩) hb]
    have := hcc j hj
    rwa [Nat.zero_mul, Nat.add_zero] at this
  · obtain ⟨b', o', e', hb', hk'⟩ := hc (k + 1) (by omega)
    simp only [Option.some.injEq, Addr.mk.injEq, and_true] at e'
    obtain ⟨rfl, rfl⟩ := e'
    refine ⟨_, _, rfl, hb', fun j hj => ?_⟩
    have h9 := hk' j hj
    have e9 : o + 11 + k * elRo.size + j = o + (k + 1) * elRo.size + j := by show o + 11 + k * 11 + j = o + (k + 1) * 11 + j; omega
    rw [e9, h9]
    rfl
end Go.Proofs.YtnmlapoiilckhaaDoor

/- The iterator ancestors of package family: all above a handle, from its parent on. -/
import Derived.RangeFuncNested
import Derived.RangeFuncBound
import Derived.RangeFuncCalls
import Derived.RangeFuncLeaves
import Derived.Shelf.Abstract
import Derived.Shelf.RegionOpen
import Derived.WalkKit
import Derived.OwnWalkIn
import Derived.TacticsInMore
import Derived.LoopNIn
import Derived.LoopIn
import Derived.BigRegionIn
import Derived.Test.YtlclceiebnnpgaaFamAt
namespace Go.Proofs.Ytlclceiebnnpgaa
set_option maxRecDepth 100000
open Go.RowKit Go.Shelf
attribute [local go_sem] Oper.semAt_some

theorem eqHd' {a b c d : Int} : decide (((a, b) : Hd) = (c, d)) = ((a == c) && (b == d)) := by
  by_cases h1 : a = c <;> by_cases h2 : b = d <;> simp [h1, h2]
/-- What is still to come, behind a look at the parent. -/
def AncRest (bs : List Bd) (g : Bool) (y : Hd) (rest : List Hd) : Prop := (g = false ∧ rest = []) ∨ (g = true ∧ ∃ r, rest = y :: r ∧ IsAnc bs y r)
theorem IsAnc.unique {bs : List Bd} (hs : SortedB bs) : ∀ {A B : List Hd} {x : Hd}, IsAnc bs x A → IsAnc bs x B → A = B
  | [], [], _, _, _ => rfl
  | [], b :: _, _, h, k => absurd k.1 (h b)
  | a :: _, [], _, h, k => absurd h.1 (k a)
  | a :: r, b :: r', x, h, k => by
    have e := hs.fn h.1 k.1
    subst e
    rw [IsAnc.unique hs h.2 k.2]
theorem AncRest.of {bs : List Bd} {x : Hd} {A : List Hd} (hs : SortedB bs) (h : IsAnc bs x A) : AncRest bs (hasP bs x) (parB bs x) A := by
  cases A with
  | nil => exact .inl ⟨hasP_no h, rfl⟩
  | cons y r =>
    obtain ⟨e1, e2⟩ := parB_of hs h.1
    exact .inr ⟨e1, r, by rw [e2], by rw [e2]; exact h.2⟩
def AncAt (bs : List Bd) (v4 v5 : Value) (wr : World) (rest : List Hd) : Prop :=
  ∃ (q : Nat) (y : Hd) (g : Bool), v4 = .pointer (some ⟨q, 0, none⟩) ∧ v5 = .bool g ∧ wr.cell? ⟨q, 0, none⟩ = some (.int .i64 y.1) ∧ wr.cell? ⟨q, 1, none⟩ = some (.int .i64 y.2) ∧ AncRest bs g y rest
theorem AncAt.unique {bs : List Bd} (hs : SortedB bs) {v4 v5 : Value} {wr : World} {r r' : List Hd} (h : AncAt bs v4 v5 wr r) (k : AncAt bs v4 v5 wr r') : r = r' := by
  obtain ⟨q, y, g, rfl, rfl, h1, h2, h3⟩ := h
  obtain ⟨q', y', g', e1, e2, k1, k2, k3⟩ := k
  simp only [Value.pointer.injEq, Option.some.injEq, Addr.mk.injEq, and_true] at e1
  subst e1
  simp only [Value.bool.injEq] at e2
  subst e2
  rw [h1] at k1
  rw [h2] at k2
  simp only [Option.some.injEq, Value.int.injEq, true_and] at k1 k2
  obtain rfl : y = y' := Prod.ext k1 k2
  rcases h3 with ⟨rfl, rfl⟩ | ⟨rfl, s, rfl, hs1⟩ <;> rcases k3 with ⟨e, rfl⟩ | ⟨e, s', rfl, hs2⟩
  · rfl
  · cases e
  · cases e
  · rw [IsAnc.unique hs hs1 hs2]
open Classical in
noncomputable def ancLeft (bs : List Bd) (v4 v5 : Value) (wr : World) : Nat := if h : ∃ rest, AncAt bs v4 v5 wr rest then (Classical.choose h).length else 0
theorem ancLeft_eq {bs : List Bd} (hs : SortedB bs) {v4 v5 : Value} {wr : World} {rest : List Hd} (h : AncAt bs v4 v5 wr rest) : ancLeft bs v4 v5 wr = rest.length := by
  unfold ancLeft
  rw [dif_pos ⟨rest, h⟩, AncAt.unique hs (Classical.choose_spec (⟨rest, h⟩ : ∃ rest, AncAt bs v4 v5 wr rest)) h]
theorem abides_later {β : Type} {B : Nat} {J : β → World → Prop} (h : AbidesFrom B J) {s : β} {W W' : World} (hs : J s W) (hb : Below W.heap.size W W') : J s W' :=
  h s W W' none hs ⟨hb.os, hb.tape, hb.output, hb.size, fun k hk _ => hb.block k hk⟩ (fun r e => by cases e)
/-- A round keeps what lay below n0, and all variables. -/
def KpC (n0 : Nat) (W W' : World) : Prop := Below n0 W W' ∧ ∀ (k : Nat) (c : Array Value) (T : TypeId) (f : Nat × Nat), W.heap[k]? = some (.cells c T f) → W'.heap[k]? = some (.cells c T f)
theorem KpC.trans {n0 : Nat} {A B C : World} (h : KpC n0 A B) (k : KpC n0 B C) : KpC n0 A C := ⟨h.1.trans k.1, fun i c T f e => k.2 i c T f (h.2 i c T f e)⟩
theorem KpC.put {n0 : Nat} {w : World} (hn : n0 ≤ w.heap.size) (W : World) (l : Nat) (o o' : Obj) (hl : w.heap.size ≤ l) (ho : W.heap[l]? = some o) (hc : o.isCells = false) (hw : o.isWalk = false) : KpC n0 W (W.putObj l o') := by
  refine ⟨belowK_b (w := w) hn W l o o' hl ho hc hw, fun k c T f e => ?_⟩
  have hne : k ≠ l := by
    rintro rfl
    rw [e] at ho
    cases ho
    cases hc
  rw [(grownBy_putObj' W l o').block k (Array.getElem?_eq_some_iff.1 e).1 (fun q => hne (by cases q; rfl))]
  exact e
theorem KpC.later {n0 : Nat} {W W' : World} (hn : n0 ≤ W.heap.size) (h : Below W.heap.size W W') : KpC n0 W W' := ⟨h.mono hn, fun k c T f e => by rw [h.block k (Array.getElem?_eq_some_iff.1 e).1]; exact e⟩
theorem IsAnc.okA {bs : List Bd} (hok : ∀ b ∈ bs, okH b.1 ∧ okH b.2) : ∀ {A : List Hd} {x : Hd}, IsAnc bs x A → ∀ y ∈ A, okH y
  | [], _, _, y, hy => by simp at hy
  | p :: r, x, h, y, hy => by
    rcases List.mem_cons.1 hy with rfl | hy
    · exact (hok _ h.1).2
    · exact IsAnc.okA hok h.2 y hy

set_option maxHeartbeats 4000000 in
theorem anc1_in (n : Nat) (hn : 1 ≤ n) (l Bf Bh p n0 n1 : Nat) (F : Nat → Prop) (bs : List Bd) (A : List Hd) (a b : Int) (J Jx : List Hd → World → Prop)
    (hY : ∀ pre x W, J pre W → pre.length < A.length → YieldAt Fence.wide (n - 1) Try.prog l #[.agg #[.int .i64 x.1, .int .i64 x.2]] W fun e W' =>
      (e = .returned (.bool true) ∧ J (pre ++ [x]) W' ∧ KpC n0 W W') ∨ (e = .returned (.bool false) ∧ Jx (pre ++ [x]) W'))
    (hJ : AbidesFrom n1 J) (W : World) (hBf : W.heap[Bf]? = some (.cells #[.pointer (some ⟨p, 0, none⟩)] 23)) (hBh : W.heap[Bh]? = some (.cells #[.int .i64 a, .int .i64 b] 38)) (hf0 : Bf < n0) (hnW : n0 ≤ W.heap.size)
    (hfam : FamAt W p F bs) (hF : ∀ i, F i → i < n0) (hs : SortedB bs) (hok : ∀ b ∈ bs, okH b.1 ∧ okH b.2) (hab : okH (a, b)) (hA : IsAnc bs (a, b) A) (h0 : J [] W) :
    CallsIn Fence.wide n Try.prog 45 #[.func (.yield l) #[] #[], .pointer (some ⟨Bf, 0, none⟩), .pointer (some ⟨Bh, 0, none⟩)] W fun e W' => (∃ v, e = .returned v) ∧
      ((∃ ys, ys = A ∧ J ys W') ∨ (∃ pre, pre <+: A ∧ Jx pre W')) := by
  obtain ⟨vm, hfam⟩ := hfam
  have hlt := (Array.getElem?_eq_some_iff.1 hBf).1
  have hlt2 := (Array.getElem?_eq_some_iff.1 hBh).1
  have cf : W.cell? ⟨Bf, 0, none⟩ = some (.pointer (some ⟨p, 0, none⟩)) := by rw [cell_of_row _ _ _ _ _ _ hBf]; rfl
  have kh0 : W.cell? ⟨Bh, 0, none⟩ = some (.int .i64 a) := by rw [cell_of_row _ _ _ _ _ _ hBh]; rfl
  have kh1 : W.cell? ⟨Bh, 1, none⟩ = some (.int .i64 b) := by rw [cell_of_row _ _ _ _ _ _ hBh]; rfl
  have cm := hfam.cell
  have hpl := hfam.plt
  have HFAM : Hid (∀ Y, Below n0 W Y → FamIs Y p F vm bs) := Lib.hid (fun Y hY => hfam.kept (G := fun i => n0 ≤ i) ⟨hY.os, hY.tape, hY.output, hY.size, fun k _ hf => hY.block k (by omega)⟩ (fun i hi hi2 => by have := hF i hi; omega))
  have HLK : Hid (∀ Y, Below n0 W Y → ∀ x : Hd, okH x → (Instr.lookup 61 vm (.agg #[.int .i64 x.1, .int .i64 x.2]) true).run Try.prog Y = .ok (.tuple #[.agg #[.int .i64 (parB bs x).1, .int .i64 (parB bs x).2], .bool (hasP bs x)]) Y) := Lib.hid (fun Y hY x hx => (HFAM.out Y hY).look hs x.1 x.2 hx.1 hx.2)
  have HJ := Lib.hid hJ
  have HS := Lib.hid hs
  have HOKA := Lib.hid (hA.okA hok)
  have HR0 := Lib.hid (AncRest.of hs hA)
  have HCF : Hid (∀ Y, Below n0 W Y → Y.cell? ⟨Bf, 0, none⟩ = some (.pointer (some ⟨p, 0, none⟩)) ∧ Y.cell? ⟨p, 0, none⟩ = some vm ∧ p < Y.heap.size ∧ Bf < Y.heap.size) := Lib.hid (fun Y hY => ⟨by rw [hY.cell (p := ⟨Bf, 0, none⟩) hf0]; exact cf, (HFAM.out Y hY).cell, (HFAM.out Y hY).plt, Nat.lt_of_lt_of_le hlt hY.size⟩)
  have HBW : Hid (∀ o, Below n0 W (W.alloc o).drew ∧ Below n0 W (W.alloc o)) := Lib.hid (fun o => ⟨((nb_alloc (Below.refl _ W) o).mono hnW).drew, (nb_alloc (Below.refl _ W) o).mono hnW⟩)
  have hlk := HLK.out W.drew (Below.refl _ _).drew (a, b) hab
  have hlk1 := HLK.out (W.alloc (.cells #[.int .i64 0, .int .i64 0] 38)).drew (HBW.out _).1 (a, b) hab
  dsimp only at hlk hlk1
  obtain ⟨y0, hy0⟩ : ∃ y, parB bs (a, b) = y := ⟨_, rfl⟩
  obtain ⟨g0, hg0⟩ : ∃ g, hasP bs (a, b) = g := ⟨_, rfl⟩
  rw [hy0, hg0] at hlk hlk1 HR0
  clear hy0 hg0
  clear hfam hF hs hok hA hJ hBf hBh
  refine callsIn_of_wp Try.func45 rfl trivial ?_ rfl
  simp only [Try.ntmps45, List.size_toArray, List.length_cons, List.length_nil, Nat.reduceAdd, Nat.reduceSub, Array.replicate_succ, Array.replicate_zero, List.push_toArray, List.append_toArray, List.nil_append, List.cons_append]
  gi_wp2_with fail
  gi_region
  all_goals
    have HV : Hid (Below n0 W (W.alloc (.cells #[.int .i64 y0.1, .int .i64 y0.2] 38)).drew) := Lib.hid (HBW.out _).1
    have HJ0 : Hid (J [] (W.alloc (.cells #[.int .i64 y0.1, .int .i64 y0.2] 38)).drew) := Lib.hid (abides_later HJ.out h0 (nb_alloc (Below.refl _ _) _).drew)
    have HC0 : Hid ((W.alloc (.cells #[.int .i64 y0.1, .int .i64 y0.2] 38)).drew.heap[W.heap.size]? = some (.cells #[.int .i64 y0.1, .int .i64 y0.2] 38)) := Lib.hid (heap_alloc_new _ _)
    generalize (W.alloc (.cells #[.int .i64 y0.1, .int .i64 y0.2] 38)).drew = V at *
    clear hlk hlk1 kh0 kh1 cf cm h0
    gi_wp2
    gi_loopw [4, 5] (fun v4 v5 wr => ∃ (pre rest : List Hd) (q : Nat) (y : Hd) (g : Bool), v4 = .pointer (some ⟨q, 0, none⟩) ∧ v5 = .bool g ∧ Hid (wr.heap[q]? = some (.cells #[.int .i64 y.1, .int .i64 y.2] 38)) ∧ Hid (AncRest bs g y rest) ∧ Hid (A = pre ++ rest) ∧ Hid (J pre wr) ∧ Hid (Below n0 W wr)) (fun v4 v5 wr => ancLeft bs v4 v5 wr)
    case atStart => exact ⟨[], A, _, y0, g0, rfl, rfl, HC0, HR0, Lib.hid rfl, HJ0, HV⟩
    case round =>
      obtain ⟨pre, rest, q, y, g, rfl, rfl, hq, hr, hA, hJp, hB⟩ := hrel
      have hql := (Array.getElem?_eq_some_iff.1 hq.out).1
      have kq0 : wr.cell? ⟨q, 0, none⟩ = some (.int .i64 y.1) := by rw [cell_of_row _ _ _ _ _ _ hq.out]; rfl
      have kq1 : wr.cell? ⟨q, 1, none⟩ = some (.int .i64 y.2) := by rw [cell_of_row _ _ _ _ _ _ hq.out]; rfl
      have HAT : Hid (AncAt bs (.pointer (some ⟨q, 0, none⟩)) (.bool g) wr rest) := Lib.hid ⟨q, y, g, rfl, rfl, kq0, kq1, hr.out⟩
      rcases hr.out with ⟨rfl, rfl⟩ | ⟨rfl, r, rfl, hyr⟩
      · clear kq0 kq1
        gi_wp2
        go_end0
        exact ⟨⟨_, rfl⟩, .inl ⟨pre, by rw [hA.out, List.append_nil], hJp.out⟩⟩
      · have HYR := Lib.hid hyr
        have hyA : y ∈ A := by rw [hA.out]; simp
        obtain ⟨fn, tmps, assign, body, hy, hRd⟩ := hY pre y wr hJp.out (by rw [hA.out]; simp)
        clear hyr
        gi_wp2
        refine hRd.mono ?_
        rintro e W3 (⟨rfl, hJ3, hk3⟩ | ⟨rfl, hJx3⟩)
        · have hB3 : Below n0 W W3 := hB.out.trans hk3.1
          have hq3 := hk3.2 _ _ _ _ hq.out
          have hql3 := (Array.getElem?_eq_some_iff.1 hq3).1
          have kr0 : W3.cell? ⟨q, 0, none⟩ = some (.int .i64 y.1) := by rw [cell_of_row _ _ _ _ _ _ hq3]; rfl
          have kr1 : W3.cell? ⟨q, 1, none⟩ = some (.int .i64 y.2) := by rw [cell_of_row _ _ _ _ _ _ hq3]; rfl
          have hn3 : n0 ≤ W3.heap.size := Nat.le_trans hnW hB3.size
          have hB4 : Below n0 W (W3.alloc (.cells #[.int .i64 y.1, .int .i64 y.2] 38)) := hB3.alloc hn3 _
          have HJ3 := Lib.hid hJ3
          have HB34 : Hid (Below W3.heap.size W3 (W3.alloc (.cells #[.int .i64 y.1, .int .i64 y.2] 38))) := Lib.hid (nb_alloc (Below.refl _ _) _)
          have hc4 : (W3.alloc (.cells #[.int .i64 y.1, .int .i64 y.2] 38)).heap[W3.heap.size]? = some (.cells #[.int .i64 y.1, .int .i64 y.2] 38) := heap_alloc_new _ _
          have HB4 := Lib.hid hB4
          have HC4 := Lib.hid hc4
          have HSZ4 : Hid ((W3.alloc (.cells #[.int .i64 y.1, .int .i64 y.2] 38)).heap.size = W3.heap.size + 1) := Lib.hid (by simp)
          clear hB3 hJ3 hk3 hq3 hB4 hc4 kq0 kq1
          gi_wp2_with fail
          generalize W3.alloc (.cells #[.int .i64 y.1, .int .i64 y.2] 38) = V4 at *
          obtain ⟨cf, cm, hpl4, hbf4⟩ := HCF.out V4 HB4.out
          have hl4 : W3.heap.size < V4.heap.size := (Array.getElem?_eq_some_iff.1 HC4.out).1
          have ks0 : V4.cell? ⟨W3.heap.size, 0, none⟩ = some (.int .i64 y.1) := by rw [cell_of_row _ _ _ _ _ _ HC4.out]; rfl
          have ks1 : V4.cell? ⟨W3.heap.size, 1, none⟩ = some (.int .i64 y.2) := by rw [cell_of_row _ _ _ _ _ _ HC4.out]; rfl
          have fz : ∀ j, V4.frozen? ⟨W3.heap.size, j, none⟩ = false := fun j => frozen_of_row _ _ _ _ _ HC4.out
          have hlk := HLK.out V4.drew HB4.out.drew y (HOKA.out y hyA)
          have HR4 := Lib.hid (AncRest.of HS.out HYR.out)
          obtain ⟨y1, hy1⟩ : ∃ z, parB bs y = z := ⟨_, rfl⟩
          obtain ⟨g1, hg1⟩ : ∃ g, hasP bs y = g := ⟨_, rfl⟩
          rw [hy1, hg1] at hlk HR4
          clear hy1 hg1 kr0 kr1
          gi_region
          all_goals
            have hq5 : ((V4.setCell ⟨W3.heap.size, 0, none⟩ (.int .i64 y1.1)).setCell ⟨W3.heap.size, 1, none⟩ (.int .i64 y1.2)).drew.heap[W3.heap.size]? = some (.cells #[.int .i64 y1.1, .int .i64 y1.2] 38) := heap_setCell_same _ _ 1 _ _ _ (heap_setCell_same _ _ 0 _ _ _ HC4.out)
            have hB5 : Below W3.heap.size W3 ((V4.setCell ⟨W3.heap.size, 0, none⟩ (.int .i64 y1.1)).setCell ⟨W3.heap.size, 1, none⟩ (.int .i64 y1.2)).drew := (nbf_set (nbf_set HB34.out _ 0 _ (Nat.le_refl _)) _ 1 _ (Nat.le_refl _)).drew
            have HQ5 := Lib.hid hq5
            have HJ5 := Lib.hid (abides_later HJ.out HJ3.out hB5)
            have HB5 : Hid (Below n0 W ((V4.setCell ⟨W3.heap.size, 0, none⟩ (.int .i64 y1.1)).setCell ⟨W3.heap.size, 1, none⟩ (.int .i64 y1.2)).drew) := Lib.hid (nbf_set (nbf_set HB4.out _ 0 _ hn3) _ 1 _ hn3).drew
            generalize ((V4.setCell ⟨W3.heap.size, 0, none⟩ (.int .i64 y1.1)).setCell ⟨W3.heap.size, 1, none⟩ (.int .i64 y1.2)).drew = V5 at *
            clear hq5 hB5 hlk ks0 ks1 fz cf cm
            gi_wp2
            go_roundw
            case rel => exact ⟨pre ++ [y], r, _, y1, g1, rfl, rfl, HQ5, HR4, Lib.hid (by rw [hA.out]; simp), HJ5, HB5⟩
            case measure =>
              rw [ancLeft_eq HS.out HAT.out, ancLeft_eq HS.out (rest := r) ⟨_, y1, g1, rfl, rfl, by rw [cell_of_row _ _ _ _ _ _ HQ5.out]; rfl, by rw [cell_of_row _ _ _ _ _ _ HQ5.out]; rfl, HR4.out⟩]
              simp
        · clear kq0 kq1
          gi_wp2
          refine bodyPost_ret (results_none rfl _ _ _) rfl ?_
          exact ⟨⟨_, rfl⟩, .inr ⟨pre ++ [y], ⟨r, by rw [hA.out]; simp⟩, hJx3⟩⟩
end Go.Proofs.Ytlclceiebnnpgaa

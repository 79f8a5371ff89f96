/- Appends as steps of a region that draws its order; parts of own slices; a row put in its place. -/
import Derived.Test.YtlclceiebnnpgaaGreatGroundC
import Derived.Test.YtlclceiebnnpgaaGreatWorldModel
import Derived.Laws.OwnMore
namespace Go.Proofs.YtlclceiebnnpgaaGreat
open Go.RowKit

/-- An append of any number of elements, as one step of a region that draws, guarded or not. -/
theorem stepZ_append {P : Program} {w : World} {ops : Array Oper} {o : Oper} {a : Act} {K : Act → World → Prop} {Q : Exit → Act → World → Prop} {E : Prop} (hw : Region.wanted o (yielded ops a.tmps) = true) (s x : Operand) (t : TypeId)
    (ho : o.op = .call { callee := .builtin .append, args := #[s, x], argTypes := #[t, t] })
    (base : Nat) (e : TypeId) (i : TypeInfo) (z : Value) (size bytes : Nat) (ht : P.underlying t = some (.slice e)) (hi : P.info? e = some i) (hz : i.zero = some z)
    (hsize : i.size = size) (hby : i.bytes = bytes) (hzs : z.cells.size = size) (hsz : 0 < size)
    (v : Value) (n : Nat) (xs : List Value) (hs : a.eval s = v) (hown : w.ownsRow base e size v n xs)
    (ad : Addr) (m c : Nat) (news : List Value) (hx : a.eval x = .slice (some ad) m c) (hl : news.length = m * size) (hnews : ∀ j u, news[j]? = some u → w.cell? (ad.add j) = some u) (h1 : ∀ u ∈ news, u.oneCell' = true)
    (h63 : n + m ≤ maxLen) (hbytes : (n + m) * bytes ≤ 140737488355328) (hbase : base ≤ w.heap.size)
    (h : ∀ v' w', w'.ownsRow base e size v' (n + m) (xs ++ news) → w.grownBy w' v.ownBlock → (v' = .slice none 0 0 ↔ v = .slice none 0 0 ∧ m = 0) → K (a.put o.dst v') w') :
    if Region.wanted o (yielded ops a.tmps) = true then Oper.wp P o a w K Q else E := by
  rw [if_pos hw]
  exact wp_append_own w s x t ho base e i z size bytes ht hi hz hsize hby hzs hsz v n xs hs hown ad m c news hx hl hnews h1 h63 hbytes hbase h
/-- .. of nothing. -/
theorem stepZ_append_none {P : Program} {w : World} {ops : Array Oper} {o : Oper} {a : Act} {K : Act → World → Prop} {Q : Exit → Act → World → Prop} {E : Prop} (hw : Region.wanted o (yielded ops a.tmps) = true) (s x : Operand) (t : TypeId)
    (ho : o.op = .call { callee := .builtin .append, args := #[s, x], argTypes := #[t, t] })
    (base : Nat) (e : TypeId) (i : TypeInfo) (size : Nat) (ht : P.underlying t = some (.slice e)) (hi : P.info? e = some i)
    (v : Value) (n : Nat) (xs : List Value) (hs : a.eval s = v) (hown : w.ownsRow base e size v n xs) (hx : a.eval x = .slice none 0 0)
    (h : K (a.put o.dst v) w) : if Region.wanted o (yielded ops a.tmps) = true then Oper.wp P o a w K Q else E := by
  rw [if_pos hw]
  have hrun := run_append_owned_none (P := P) (w := w) base t o.type e i size ht hi v n xs hown
  unfold Oper.wp
  simp [execOp, ho, resolve, invoke, builtin, hs, hx, hrun, Result.andThen]
  exact h

theorem flatMapZ_take {α : Type} (E : El α) : ∀ (xs : List α) (t : Nat), (xs.take t).flatMap E.enc = (xs.flatMap E.enc).take (t * E.size)
  | [], t => by simp
  | x :: xs, 0 => by simp
  | x :: xs, t + 1 => by
    rw [List.take_succ_cons, List.flatMap_cons, List.flatMap_cons, flatMapZ_take E xs t, List.take_append, E.len, show (t + 1) * E.size - E.size = t * E.size by rw [Nat.add_mul]; omega, List.take_of_length_le (l := E.enc x) (by rw [E.len, Nat.add_mul]; omega)]
theorem flatMapZ_drop {α : Type} (E : El α) : ∀ (xs : List α) (t : Nat), (xs.drop t).flatMap E.enc = (xs.flatMap E.enc).drop (t * E.size)
  | [], t => by simp
  | x :: xs, 0 => by simp
  | x :: xs, t + 1 => by
    rw [List.drop_succ_cons, List.flatMap_cons, flatMapZ_drop E xs t, List.drop_append, E.len, show (t + 1) * E.size - E.size = t * E.size by rw [Nat.add_mul]; omega, List.drop_of_length_le (l := E.enc x) (by rw [E.len, Nat.add_mul]; omega), List.nil_append]
theorem oneZ_rows (xs : List Rw) : ∀ u ∈ xs.flatMap elRow.enc, u.oneCell' = true := by
  intro u hu
  obtain ⟨x, _, hx⟩ := List.mem_flatMap.1 hu
  exact elRow.one x u hx
/-- The first t elements of an own slice. -/
theorem OwnsF.cutTo {α : Type} {E : El α} {w : World} {B : Nat} {T : TypeId} {g n cap t : Nat} {xs : List α} (h : OwnsF E w B T (.slice (some ⟨g, 0, none⟩) n cap) xs) (ht : t ≤ xs.length) : OwnsF E w B T (.slice (some ⟨g, 0, none⟩) t cap) (xs.take t) := by
  have hlen : (xs.take t).length = t := by rw [List.length_take]; omega
  rcases h.2 with ⟨e, _⟩ | ⟨g', cap', cur, e, hb, hh, hn, hc, hsz, htk⟩
  · cases e
  · simp only [Value.slice.injEq, Option.some.injEq, Addr.mk.injEq, and_true] at e
    obtain ⟨rfl, rfl, rfl⟩ := e
    refine ⟨?_, .inr ⟨g, cap, cur, by rw [hlen], hb, hh, by rw [hlen]; omega, hc, hsz, ?_⟩⟩
    · rw [length_enc, hlen]
    · rw [hlen, flatMapZ_take, ← htk, List.take_take, Nat.min_eq_left (Nat.mul_le_mul_right _ ht)]
theorem insR_at : ∀ {rows : List Rw} {x : Rw} {t : Nat}, t ≤ rows.length → (∀ j, j < t → (rows.getD j rowZ).s < x.s) → (t < rows.length → ¬ (rows.getD t rowZ).s < x.s) → insR rows x = rows.take t ++ x :: rows.drop t
  | [], x, t, ht, _, _ => by simp at ht; simp [insR]
  | y :: rows, x, 0, _, _, h2 => by
    have := h2 (by simp)
    simp at this
    simp [insR, this]
  | y :: rows, x, t + 1, ht, h1, h2 => by
    have hy := h1 0 (by omega)
    simp at hy
    have ih := insR_at (rows := rows) (x := x) (t := t) (by simpa using ht) (fun j hj => by simpa using h1 (j + 1) (by omega)) (fun h => by simpa using h2 (by simpa using h))
    have ei : insR (y :: rows) x = y :: insR rows x := by simp [insR, hy]
    rw [ei, ih]; simp
end Go.Proofs.YtlclceiebnnpgaaGreat

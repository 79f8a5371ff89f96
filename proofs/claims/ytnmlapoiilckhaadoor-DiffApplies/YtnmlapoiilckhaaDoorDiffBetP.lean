/- What Between answers, and a store of a change into a block of its own. -/
import Derived.Test.YtnmlapoiilckhaaDoorDiffLaws
import Derived.Deep.CutRange
import Derived.Deep.MidRow
namespace Go.Proofs.YtnmlapoiilckhaaDoor
open Go.RowKit

def betE (a b : List Ro) : Int := if (valid a && valid b) = true then 0 else 4
def betL (a b : List Ro) : List Ch := if (valid a && valid b) = true then mrg a b else []
/-- the changes that have been met in a loop over a map -/
def GotC (ks : List Hd) (M N : Hd → Be) (todo : List Hd) (ys : List Ch) : Prop := (ys.map (·.1)).Nodup ∧ ∀ r : Ch, r ∈ ys ↔ (r.1 ∈ ks ∧ ¬ r.1 ∈ todo ∧ r.2.1 = M r.1 ∧ r.2.2 = N r.1 ∧ r.2.1 ≠ r.2.2)
theorem GotC.start (ks : List Hd) (M N : Hd → Be) : GotC ks M N ks [] := ⟨by simp, fun r => by simp; intro h1 h2; exact absurd h1 h2⟩
theorem GotC.skip {ks todo : List Hd} {M N : Hd → Be} {ys : List Ch} {x : Hd} (h : GotC ks M N todo ys) (e : M x = N x) : GotC ks M N (todo.filter (fun y => !decide (y = x))) ys := by
  obtain ⟨h1, h2⟩ := h
  refine ⟨h1, fun r => ?_⟩
  have hmem : ∀ y, y ∈ todo.filter (fun y => !decide (y = x)) ↔ y ∈ todo ∧ y ≠ x := fun y => by rw [List.mem_filter]; simp
  rw [h2, hmem]
  constructor
  · rintro ⟨a, b, c, d, f⟩
    exact ⟨a, fun h => b h.1, c, d, f⟩
  · rintro ⟨a, b, c, d, f⟩
    refine ⟨a, fun h => b ⟨h, fun e2 => f ?_⟩, c, d, f⟩
    rw [c, d, e2, e]
theorem GotC.next {ks todo : List Hd} {M N : Hd → Be} {ys : List Ch} {x : Hd} (h : GotC ks M N todo ys) (ht : x ∈ todo) (hk : x ∈ ks) (hne : M x ≠ N x) : GotC ks M N (todo.filter (fun y => !decide (y = x))) (ys ++ [(x, M x, N x)]) := by
  obtain ⟨h1, h2⟩ := h
  have hmem : ∀ y, y ∈ todo.filter (fun y => !decide (y = x)) ↔ y ∈ todo ∧ y ≠ x := fun y => by rw [List.mem_filter]; simp
  refine ⟨?_, fun r => ?_⟩
  · rw [List.map_append, List.nodup_append]
    refine ⟨h1, by simp, fun a ha b hb e => ?_⟩
    simp at hb
    subst hb
    obtain ⟨r, hr, rfl⟩ := List.mem_map.1 ha
    exact ((h2 r).1 hr).2.1 (e ▸ ht)
  · rw [List.mem_append, h2, List.mem_singleton, hmem]
    constructor
    · rintro (⟨a, b, c⟩ | rfl)
      · exact ⟨a, fun h => b h.1, c⟩
      · exact ⟨hk, fun h => h.2 rfl, rfl, rfl, hne⟩
    · rintro ⟨a, b, c, d, f⟩
      by_cases e : r.1 = x
      · exact .inr (Prod.ext e (Prod.ext (by rw [c, e]) (by rw [d, e])))
      · exact .inl ⟨a, fun h => b ⟨h, e⟩, c, d, f⟩
theorem GotC.done {ks : List Hd} {M N : Hd → Be} {ys zs : List Ch} (h : GotC ks M N [] ys) (hp : zs.Perm ys) (hz : zs.Pairwise (fun x y => ¬ hlt y.1 x.1)) (hk : ∀ h, M h ≠ N h → h ∈ ks) : Spec M N zs := by
  refine ⟨Ups.ofPerm ((hp.map _).nodup_iff.2 h.1) hz, fun r => ?_⟩
  rw [hp.mem_iff, h.2]
  exact ⟨fun ⟨_, _, c⟩ => c, fun ⟨c, d, f⟩ => ⟨hk _ (by rw [← c, ← d]; exact f), by simp, c, d, f⟩⟩
def BetPost (w : World) (a b : List Ro) (e : Ending) (w' : World) : Prop := ∃ x, e = .returned (.tuple #[x, .int .i64 (betE a b)]) ∧ OwnsF elCh w' w.heap.size 36 x (betL a b) ∧ Below w.heap.size w w'
theorem BetPost.no {w w' : World} {a b : List Ro} (h : (valid a && valid b) = false) (hb : Below w.heap.size w w') : BetPost w a b (.returned (.tuple #[.slice none 0 0, .int .i64 4])) w' := by
  refine ⟨_, by rw [betE, h]; rfl, ?_, hb⟩
  rw [betL, h]
  exact OwnsF.nil _ _ _ _
theorem BetPost.yes {w w5 wr : World} {a b : List Ro} {ks : List Hd} {v : Value} {ys zs : List Ch} {B : Nat} (ha : valid a = true) (hb : valid b = true) (h : GotC ks (atB a) (atB b) [] ys) (hp : zs.Perm ys) (hz : zs.Pairwise (fun x y => ¬ hlt y.1 x.1)) (hk : ∀ h, atB a h ≠ atB b h → h ∈ ks)
    (ho : OwnsF elCh w5 B 36 v zs) (hB : w.heap.size ≤ B) (hbw : Below w.heap.size w wr) (hk5 : Kept (fun b => v.ownBlock = some b) wr w5) : BetPost w a b (.returned (.tuple #[v, .int .i64 0])) w5 := by
  have e := (h.done hp hz hk).unique (mrgS (valid_ups ha) (valid_ups hb))
  subst e
  refine ⟨v, by rw [betE, ha, hb]; rfl, ?_, hbw.trans (hk5.below hbw.size (fun k e => by have := ho.ge e; omega))⟩
  rw [betL, ha, hb]
  exact ho.weaken hB
theorem di_t {α : Type} {l : List α} {i : Nat} {a : α} : l.toArray.setIfInBounds i a = (l.set i a).toArray := List.setIfInBounds_toArray ..
theorem di_0 {α : Type} {x : α} {l : List α} {a : α} : (x :: l).set 0 a = a :: l := List.set_cons_zero ..
theorem di_s {α : Type} {x : α} {l : List α} {n : Nat} {a : α} : (x :: l).set (n + 1) a = x :: l.set n a := List.set_cons_succ ..
theorem kept_setCells (b : Nat) : ∀ (vs : List Value) (o : Nat) (w : World), Kept (fun q => q = b) w (w.setCells b o vs)
  | [], _, w => Kept.refl _ w
  | v :: vs, o, w => (Kept.setCell (F := fun q => q = b) w (p := ⟨b, o, none⟩) rfl v).trans (kept_setCells b vs (o + 1) _) (fun _ h => .inl h)
/-- a change is stored in a block that is its own -/
theorem wp_store_mid' {P : Program} {op : Oper} {a : Act} {w : World} {K : Act → World → Prop} {Q : Exit → Act → World → Prop} {ops : Array Oper} {E : Prop} (hgd : op.guard = none) (ty : TypeId) (x y : Operand) (ho : op.op = .store ty x y)
    (b : Nat) (cells : Array Value) (hx : a.eval x = .pointer (some ⟨b, 0, none⟩)) (hy : a.eval y = .agg cells)
    {old : Array Value} (hb : w.heap[b]? = some (.cells old ty (0, 0))) (hsz : cells.size = old.size) (hi : (P.info? ty).map (·.size) = some cells.size) (h1 : cells.all (·.oneCell') = true)
    (h : ∀ w', Kept (fun q => q = b) w w' → b < w'.heap.size ∧ (∀ j, j < cells.size → w'.cell? ⟨b, j, none⟩ = cells[j]?) → K (a.put op.dst undef) w') : if Region.wanted op (yielded ops a.tmps) = true then op.wp P a w K Q else E := by
  rw [if_pos (by simp [Region.wanted, hgd])]
  have hbl := (Array.getElem?_eq_some_iff.1 hb).1
  have hlen : cells.toList.length = cells.size := Array.length_toList
  have hcell : ∀ j, j < cells.size → (w.cell? ⟨b, j, none⟩).isSome = true := fun j hj => by
    rw [cell_of_row _ _ _ _ _ _ hb, Array.getElem?_eq_getElem (by omega)]; rfl
  refine wp_store_mid ty x y ho b 0 cells hx hy (fun j hj => ⟨by rw [Nat.zero_add]; exact hcell j hj, frozen_of_row _ _ _ _ _ hb⟩) hi h1 (h _ ?_ ⟨?_, fun j hj => ?_⟩)
  · exact kept_setCells b cells.toList 0 w
  · exact Nat.lt_of_lt_of_le hbl (kept_setCells b cells.toList 0 w).size
  · have := World.cell?_setCells_in b cells.toList 0 w (fun j hj => by rw [Nat.zero_add]; exact hcell j (by rw [hlen] at hj; exact hj)) j (by rw [hlen]; exact hj)
    rw [Nat.zero_add] at this
    rw [this, Array.getElem?_eq_getElem hj, Array.getElem_toList]
end Go.Proofs.YtnmlapoiilckhaaDoor


/- Contracts and plain facts, several texts in one. -/
import Derived.Laws.OwnMore
import Derived.Test.YtndhomjfjhohoaaGreatDoorGroundA
import Derived.Test.YtndhomjfjhohoaaGreatDoorGroundB
import Derived.Test.YtndhomjfjhohoaaGreatDoorGroundC
import Derived.Test.YtndhomjfjhohoaaGreatDoorGroundD
import Derived.Test.YtndhomjfjhohoaaGreatDoorGroundE
import Derived.Test.YtndhomjfjhohoaaGreatDoorGroundF
import Derived.Test.YtndhomjfjhohoaaGreatDoorGroundG
import Derived.Test.YtndhomjfjhohoaaGreatDoorGroundH
/- The reference's bonds in memory: the contracts of Parent, Children, Under. -/
namespace Go.Proofs.YtndhomjfjhohoaaGreatDoor
set_option maxRecDepth 8000
set_option maxRecDepth 8000
open Go.RowKit

/-- At block q lies a zoo with these bonds, in the blocks G (its slots and rows are held as values). -/
structure BonIs (w : World) (q : Nat) (G : Nat → Prop) (v0 v1 v2 : Value) (bs : List Bd) (vB : Value) : Prop where
  block : w.heap[q]? = some (.cells #[v0, v1, v2, vB] 81 (0, 0))
  own : Owns elBond w 58 vB bs
  inB : ∀ k, vB.ownBlock = some k → G k ∧ k ≠ q
  at_ : G q
  lt : ∀ b, G b → b < w.heap.size
def BonAt (w : World) (q : Nat) (G : Nat → Prop) (bs : List Bd) : Prop := ∃ v0 v1 v2 vB, BonIs w q G v0 v1 v2 bs vB
section
variable {w w' : World} {q : Nat} {G : Nat → Prop} {v0 v1 v2 vB v' : Value} {bs bs' : List Bd}
theorem BonIs.kept {H : Nat → Prop} (h : BonIs w q G v0 v1 v2 bs vB) (hk : Kept H w w') (hf : ∀ b, G b → ¬ H b) : BonIs w' q G v0 v1 v2 bs vB :=
  ⟨by rw [hk.block q (h.lt q h.at_) (hf q h.at_)]; exact h.block, h.own.kept hk (fun k e => hf k (h.inB k e).1), h.inB, h.at_, fun b hb => Nat.lt_of_lt_of_le (h.lt b hb) hk.size⟩
theorem BonIs.later (h : BonIs w q G v0 v1 v2 bs vB) (hb : Below w.heap.size w w') : BonIs w' q G v0 v1 v2 bs vB := h.kept (H := fun _ => False) (Kept.ofBelow hb) (fun _ _ => id)
theorem BonAt.kept {H : Nat → Prop} (h : BonAt w q G bs) (hk : Kept H w w') (hf : ∀ b, G b → ¬ H b) : BonAt w' q G bs := by obtain ⟨a, b, c, d, h⟩ := h; exact ⟨a, b, c, d, h.kept hk hf⟩
theorem BonAt.later (h : BonAt w q G bs) (hb : Below w.heap.size w w') : BonAt w' q G bs := by obtain ⟨a, b, c, d, h⟩ := h; exact ⟨a, b, c, d, h.later hb⟩
theorem BonAt.lt (h : BonAt w q G bs) : ∀ b, G b → b < w.heap.size := by obtain ⟨a, b, c, d, h⟩ := h; exact h.lt
theorem BonAt.at_ (h : BonAt w q G bs) : G q := by obtain ⟨a, b, c, d, h⟩ := h; exact h.at_
theorem BonIs.cell (h : BonIs w q G v0 v1 v2 bs vB) : w.cell? ⟨q, 3, none⟩ = some vB ∧ w.frozen? ⟨q, 3, none⟩ = false ∧ q < w.heap.size := ⟨by rw [cell_of_row _ _ _ _ _ _ h.block]; rfl, frozen_of_row _ _ _ _ _ h.block, h.lt q h.at_⟩
theorem BonAt.new (w : World) : BonAt (w.alloc (.cells #[.slice none 0 0, .slice none 0 0, .slice none 0 0, .slice none 0 0] 81)) w.heap.size (fun b => b = w.heap.size) [] :=
  ⟨_, _, _, _, ⟨heap_alloc_new w _, Owns.nil _ _ _, fun k e => by simp [Value.ownBlock] at e, rfl, fun b e => by simp [e]⟩⟩
/-- Of block q nothing but the bonds has turned. -/
def SameS (w w' : World) (q : Nat) : Prop := ∀ v0 v1 v2 vB, w.heap[q]? = some (.cells #[v0, v1, v2, vB] 81 (0, 0)) → ∃ vB', w'.heap[q]? = some (.cells #[v0, v1, v2, vB'] 81 (0, 0))
theorem SameS.later (hb : Below w.heap.size w w') (hq : q < w.heap.size) : SameS w w' q := fun a b c d e => ⟨d, by rw [hb.block q hq]; exact e⟩
/-- The bonds have been set anew. -/
theorem BonIs.set {X : World} (h : BonIs w q G v0 v1 v2 bs vB) (hb : Below w.heap.size w X) (ho : OwnsF elBond X w.heap.size 58 v' bs') :
    ∃ G', BonAt (X.setCell ⟨q, 3, none⟩ v') q G' bs' ∧ Kept G w (X.setCell ⟨q, 3, none⟩ v') ∧ Moves w G G' ∧ SameS w (X.setCell ⟨q, 3, none⟩ v') q := by
  have hq := h.lt q h.at_
  have hk : Kept (fun b => b = q) X (X.setCell ⟨q, 3, none⟩ v') := Kept.setCell (F := fun b => b = q) X (p := ⟨q, 3, none⟩) rfl _
  have hbX : X.heap[q]? = some (.cells #[v0, v1, v2, vB] 81 (0, 0)) := by rw [hb.block q hq]; exact h.block
  refine ⟨fun b => b = q ∨ v'.ownBlock = some b, ⟨v0, v1, v2, v', ⟨heap_setCell_same _ _ 3 _ _ _ hbX, ho.owns.kept hk (fun k e e2 => by have := ho.ge e; omega), fun k e => ⟨.inr e, by have := ho.ge e; omega⟩, .inl rfl, fun b hb' => ?_⟩⟩, (Kept.ofBelow hb).trans hk (fun i e => .inl (by rw [e]; exact h.at_)), fun b hb' => ?_, fun a b c d e => ⟨v', ?_⟩⟩
  · rcases hb' with e | e
    · have := hb.size; have := hk.size; omega
    · exact Nat.lt_of_lt_of_le (ho.lt e) hk.size
  · rcases hb' with e | e
    · exact .inl (by rw [e]; exact h.at_)
    · exact .inr (ho.ge e)
  · have hX : X.heap[q]? = some (.cells #[a, b, c, d] 81 (0, 0)) := by rw [hb.block q hq]; exact e
    rw [heap_setCell_same _ _ 3 _ _ _ hX]; rfl
end

theorem parB_at {bs : List Bd} {c : Hd} {k : Nat} (hk : k < bs.length) (hno : ∀ j, j < k → (bs.getD j bdZ).1 ≠ c) (hy : (bs.getD k bdZ).1 = c) : hasP bs c = true ∧ parB bs c = (bs.getD k bdZ).2 := by
  have hg : ∀ j (hj : j < bs.length), bs.getD j bdZ = bs[j] := fun j hj => by rw [List.getD_eq_getElem?_getD, List.getElem?_eq_getElem hj]; rfl
  have hfi : bs.find? (fun b => decide (b.1 = c)) = some (bs.getD k bdZ) := by
    rw [List.find?_eq_some_iff_getElem]
    refine ⟨decide_eq_true hy, k, hk, (hg k hk).symm, fun j hj => ?_⟩
    rw [Bool.not_eq_true', decide_eq_false_iff_not, ← hg j (by omega)]
    exact hno j hj
  refine ⟨hasP_iff.2 ⟨(bs.getD k bdZ).2, ?_⟩, by rw [parB, hfi]; rfl⟩
  rw [← hy]; exact memD hk
theorem hasP_none' {bs : List Bd} {c : Hd} (hno : ∀ j, j < bs.length → (bs.getD j bdZ).1 ≠ c) : hasP bs c = false :=
  hasP_no (fun p hp => by
    obtain ⟨j, hj, e⟩ := List.getElem_of_mem hp
    refine hno j hj ?_
    rw [List.getD_eq_getElem?_getD, List.getElem?_eq_getElem hj, Option.getD_some, e])

set_option maxHeartbeats 4000000 in
theorem refParent_any (q : Nat) (G : Nat → Prop) (bs : List Bd) (a b c d : Int) (g : Bool) (w : World) (h : BonAt w q G bs) (hq : parB bs (a, b) = (c, d)) (hg : hasP bs (a, b) = g) :
    Calls Tryz.prog 66 #[.pointer (some ⟨q, 0, none⟩), .agg #[.int .i64 a, .int .i64 b]] w fun e w' => e = .returned (.tuple #[.agg #[.int .i64 c, .int .i64 d], .bool g]) ∧ Below w.heap.size w w' := by
  obtain ⟨v0, v1, v2, vB, h⟩ := h
  have HPQ : Hid (parB bs (a, b) = (c, d) ∧ hasP bs (a, b) = g) := Lib.hid ⟨hq, hg⟩
  have HX : Hid (Below w.heap.size w ((w.alloc (.cells #[.int .i64 a, .int .i64 b] 49)).alloc (.cells #[.int .i64 0, .int .i64 0] 49))) := Lib.hid (nb_alloc (nb_alloc (Below.refl _ _) _) _)
  have HXS : Hid (((w.alloc (.cells #[.int .i64 a, .int .i64 b] 49)).alloc (.cells #[.int .i64 0, .int .i64 0] 49)).heap.size = w.heap.size + 2) := Lib.hid (by simp)
  have hbb : ((w.alloc (.cells #[.int .i64 a, .int .i64 b] 49)).alloc (.cells #[.int .i64 0, .int .i64 0] 49)).heap[w.heap.size + 1]? = some (.cells #[.int .i64 0, .int .i64 0] 49) := heap_alloc2_new _ _ _
  have hhb : ((w.alloc (.cells #[.int .i64 a, .int .i64 b] 49)).alloc (.cells #[.int .i64 0, .int .i64 0] 49)).heap[w.heap.size]? = some (.cells #[.int .i64 a, .int .i64 b] 49) := heap_alloc2_old _ _ _
  have HBB := Lib.hid hbb
  have HHB := Lib.hid hhb
  have hcq := (h.later HX.out).cell
  obtain ⟨cq, -, hql⟩ := hcq
  obtain ⟨hm, hop⟩ := (h.later HX.out).own.reads.open
  unfold maxLen at hm
  obtain ⟨n, hn⟩ : ∃ n, bs.length = n := ⟨_, rfl⟩
  have HN := Lib.hid hn
  rw [hn] at hm hop
  clear h hq hg hn hbb hhb
  rcases hop with ⟨ad, cap, rfl, hz⟩ | ⟨bl, off, cap, rfl, hb, hlc, hcm, hc⟩
  all_goals
    go_enter Tryz.func66, Tryz.ntmps66
    go_wp2_with fail
    generalize (w.alloc (.cells #[.int .i64 a, .int .i64 b] 49)).alloc (.cells #[.int .i64 0, .int .i64 0] 49) = X at *
    go_wp2
    clear cq
    go_loopw [13] (fun i wr => ∃ k : Nat, k ≤ n ∧ i = .int .i64 k ∧ Hid (∀ j, j < k → (bs.getD j bdZ).1 ≠ (a, b)) ∧ Hid (Below X.heap.size X wr)) (fun i _ => n - (intOf i).toNat)
    case atStart => exact ⟨0, by omega, rfl, Lib.hid (fun j hj => by omega), Below.refl _ _⟩
    case round =>
      obtain ⟨k, hk, rfl, hno, hB⟩ := hrel
      have hxs := HXS.out
      have hBs := hB.out.size
      have hh2 : wr.heap[w.heap.size]? = some (.cells #[.int .i64 a, .int .i64 b] 49) := by rw [hB.out.block _ (by omega)]; exact HHB.out
      have hr2 : wr.heap[w.heap.size + 1]? = some (.cells #[.int .i64 0, .int .i64 0] 49) := by rw [hB.out.block _ (by omega)]; exact HBB.out
      have hh2l := (Array.getElem?_eq_some_iff.1 hh2).1
      have hr2l := (Array.getElem?_eq_some_iff.1 hr2).1
      obtain ⟨kh0, kh1⟩ := hCells (a := a) (b := b) hh2
      obtain ⟨kr0, kr1⟩ := hCells (a := 0) (b := 0) hr2
      have fz : ∀ j, wr.frozen? ⟨w.heap.size + 1, j, none⟩ = false := fun j => frozen_of_row _ _ _ _ _ hr2
      have HBW : Hid (Below w.heap.size w wr) := Lib.hid (nb_trans HX.out hB.out)
      clear hh2 hr2
      by_cases hlt : k < n
      · first
          | omega
          | (have hcr : ∀ jj, jj < 4 → wr.cell? ⟨bl, off + k * 4 + jj, none⟩ = (elBond.enc (bs.getD k bdZ))[jj]? := fun jj hjj => by rw [hB.out.cell (p := ⟨bl, _, none⟩) hb]; exact hc k hlt jj hjj
             have hkl : k < bs.length := by rw [HN.out]; exact hlt
             have hbw : bl < wr.heap.size := Nat.lt_of_lt_of_le hb hBs
             have HPA := Lib.hid (fun h => parB_at (c := (a, b)) hkl hno.out h)
             obtain ⟨y, hy⟩ : ∃ y, bs.getD k bdZ = y := ⟨_, rfl⟩
             rw [hy] at hcr HPA
             have HY := Lib.hid hy
             obtain ⟨⟨y1, y2⟩, y3, y4⟩ := y
             have c0 : wr.cell? ⟨bl, off + k * 4, none⟩ = some (.int .i64 y1) := hcr 0 (by decide)
             have c1 : wr.cell? ⟨bl, off + k * 4 + 1, none⟩ = some (.int .i64 y2) := hcr 1 (by decide)
             have c2 : wr.cell? ⟨bl, off + k * 4 + 2, none⟩ = some (.int .i64 y3) := hcr 2 (by decide)
             have c3 : wr.cell? ⟨bl, off + k * 4 + 3, none⟩ = some (.int .i64 y4) := hcr 3 (by decide)
             clear hcr hc hy
             cases h1 : (y1 == a) <;> cases h2 : (y2 == b)
             case true.true =>
               obtain ⟨p1, p2⟩ := HPA.out (Prod.ext (eq_of_beq h1) (eq_of_beq h2))
               have hgt : g = true := by rw [← HPQ.out.2]; exact p1
               have hcd : ((y3, y4) : Hd) = (c, d) := by rw [← HPQ.out.1]; exact p2.symm
               simp only [Prod.mk.injEq] at hcd
               obtain ⟨rfl, rfl⟩ := hcd
               subst hgt
               go_wp2
               refine bodyPost_ret (v := .tuple #[.agg #[.int .i64 y3, .int .i64 y4], .bool true]) (by simp [results, Tryz.results66, go_sem, hr2l, kr0, kr1]) rfl ⟨rfl, ?_⟩
               refine nb_alloc ?_ _
               iterate 2 (refine nbf_set ?_ _ _ _ (by omega))
               exact HBW.out
             all_goals
               go_wp2
               go_roundw
               case rel => exact ⟨k + 1, by omega, by go_num, Lib.hid (fun j hj => if e : j = k then by rw [e, HY.out]; intro e2; simp only [Prod.mk.injEq] at e2; obtain ⟨rfl, rfl⟩ := e2; first | (simp at h1; done) | (simp at h2; done) else hno.out j (by omega)), Lib.hid (nb_alloc hB.out _)⟩
               case measure => simp [intOf]; omega)
      · obtain rfl : k = n := by omega
        have hnone := hasP_none' (bs := bs) (c := (a, b)) (by rw [HN.out]; exact hno.out)
        have hgf : g = false := by rw [← HPQ.out.2]; exact hnone
        have hcd : ((0, 0) : Hd) = (c, d) := by rw [← HPQ.out.1]; exact (hasP_none hnone).1.symm
        simp only [Prod.mk.injEq] at hcd
        obtain ⟨rfl, rfl⟩ := hcd
        subst hgf
        clear hnone
        go_wp2
        refine bodyPost_ret (v := .tuple #[.agg #[.int .i64 0, .int .i64 0], .bool false]) (by simp [results, Tryz.results66, go_sem, kr0, kr1]) rfl ⟨rfl, ?_⟩
        iterate 2 (refine nbf_set ?_ _ _ _ (by omega))
        exact HBW.out

theorem kidsTake (bs : List Bd) (h : Hd) (k : Nat) (hk : k < bs.length) : kids (bs.take (k + 1)) h = kids (bs.take k) h ++ (if (bs.getD k bdZ).2 = h then [(bs.getD k bdZ).1] else []) := by
  rw [List.take_add_one, List.getElem?_eq_getElem hk, List.getD_eq_getElem?_getD, List.getElem?_eq_getElem hk]
  unfold kids
  simp only [Option.toList_some, List.filter_append, List.map_append, Option.getD_some]
  congr 1
  by_cases e : bs[k].2 = h <;> simp [e]

set_option maxHeartbeats 4000000 in
theorem refChildren_any (q : Nat) (G : Nat → Prop) (bs : List Bd) (a b : Int) (w : World) (h : BonAt w q G bs) (hn32 : bs.length * 32 ≤ 140737488355328) :
    Calls Tryz.prog 145 #[.pointer (some ⟨q, 0, none⟩), .agg #[.int .i64 a, .int .i64 b]] w (HandsPost w (kids bs (a, b))) := by
  obtain ⟨i0, hi, hz0, hz1, hz2⟩ := info_parts infoHand
  obtain ⟨v0, v1, v2, vB, h⟩ := h
  have HX : Hid (Below w.heap.size w (w.alloc (.cells #[.int .i64 a, .int .i64 b] 49))) := Lib.hid (nb_alloc (Below.refl _ _) _)
  have HXS : Hid ((w.alloc (.cells #[.int .i64 a, .int .i64 b] 49)).heap.size = w.heap.size + 1) := Lib.hid (by simp)
  have HHB : Hid ((w.alloc (.cells #[.int .i64 a, .int .i64 b] 49)).heap[w.heap.size]? = some (.cells #[.int .i64 a, .int .i64 b] 49)) := Lib.hid (heap_alloc_new _ _)
  obtain ⟨cq, -, hql⟩ := (h.later HX.out).cell
  obtain ⟨hm, hop⟩ := (h.later HX.out).own.reads.open
  unfold maxLen at hm
  obtain ⟨n, hn⟩ : ∃ n, bs.length = n := ⟨_, rfl⟩
  have HN := Lib.hid hn
  rw [hn] at hm hop hn32
  clear h hn
  rcases hop with ⟨ad, cap, rfl, hz⟩ | ⟨bl, off, cap, rfl, hb, hlc, hcm, hc⟩
  all_goals
    go_enter Tryz.func145, Tryz.ntmps145
    go_wp2_with fail
    generalize w.alloc (.cells #[.int .i64 a, .int .i64 b] 49) = X at *
    go_wp2
    clear cq
    go_loopw [5, 13] (fun v5 i wr => ∃ k : Nat, k ≤ n ∧ i = .int .i64 k ∧ Hid (OwnsF elHand wr X.heap.size 49 v5 (kids (bs.take k) (a, b))) ∧ Hid (Below X.heap.size X wr)) (fun _ i _ => n - (intOf i).toNat)
    case atStart => exact ⟨0, by omega, rfl, OwnsF.nil _ _ _ _, Below.refl _ _⟩
    case round =>
      obtain ⟨k, hk, rfl, hO, hB⟩ := hrel
      have hxs := HXS.out
      have hBs := hB.out.size
      by_cases hlt : k < n
      · first
          | omega
          | (have hh2 : wr.heap[w.heap.size]? = some (.cells #[.int .i64 a, .int .i64 b] 49) := by rw [hB.out.block _ (by omega)]; exact HHB.out
             have hh2l := (Array.getElem?_eq_some_iff.1 hh2).1
             obtain ⟨kh0, kh1⟩ := hCells (a := a) (b := b) hh2
             have hcr : ∀ jj, jj < 4 → wr.cell? ⟨bl, off + k * 4 + jj, none⟩ = (elBond.enc (bs.getD k bdZ))[jj]? := fun jj hjj => by rw [hB.out.cell (p := ⟨bl, _, none⟩) hb]; exact hc k hlt jj hjj
             have hkl : k < bs.length := by rw [HN.out]; exact hlt
             have hbw : bl < wr.heap.size := Nat.lt_of_lt_of_le hb hBs
             have HKT := Lib.hid (kidsTake bs (a, b) k hkl)
             have hLk : (kids (bs.take k) (a, b)).length ≤ k := by
               unfold kids; rw [List.length_map]; exact Nat.le_trans (List.length_filter_le _ _) (by rw [List.length_take]; omega)
             obtain ⟨L, hL⟩ : ∃ L, kids (bs.take k) (a, b) = L := ⟨_, rfl⟩
             rw [hL] at hO HKT hLk
             obtain ⟨y, hy⟩ : ∃ y, bs.getD k bdZ = y := ⟨_, rfl⟩
             rw [hy] at hcr HKT
             obtain ⟨⟨y1, y2⟩, y3, y4⟩ := y
             have c0 : wr.cell? ⟨bl, off + k * 4, none⟩ = some (.int .i64 y1) := hcr 0 (by decide)
             have c1 : wr.cell? ⟨bl, off + k * 4 + 1, none⟩ = some (.int .i64 y2) := hcr 1 (by decide)
             have c2 : wr.cell? ⟨bl, off + k * 4 + 2, none⟩ = some (.int .i64 y3) := hcr 2 (by decide)
             have c3 : wr.cell? ⟨bl, off + k * 4 + 3, none⟩ = some (.int .i64 y4) := hcr 3 (by decide)
             clear hcr hc hy hL hh2
             cases h1 : (y3 == a) <;> cases h2 : (y4 == b)
             case true.true =>
               have HKN : Hid (kids (bs.take (k + 1)) (a, b) = L ++ [(y1, y2)]) := Lib.hid (by rw [HKT.out, if_pos (Prod.ext (eq_of_beq h1) (eq_of_beq h2))])
               go_wp2_with (first | (at_builtin; refine wpList_append_own _ rfl _ _ 148 rfl X.heap.size 49 i0 _ 2 16 Tryz.underlying148 hi hz0 hz1 hz2 rfl (by decide) _ L.length (L.flatMap elHand.enc) rfl (World.ownsRow.alloc (World.ownsRow.alloc hO.out _) _) ⟨wr.heap.size + 1, 0, none⟩ 1 1 [.int .i64 y1, .int .i64 y2] rfl rfl (World.news_of_block (heap_alloc2_new _ _ _)) (elHand.one (y1, y2)) (by unfold maxLen; omega) (by omega) (by simp; omega) ?_; intro v' w7 hown hgr hnil))
               have HO7 : Hid (OwnsF elHand w7 X.heap.size 49 v' (kids (bs.take (k + 1)) (a, b))) := Lib.hid (by rw [HKN.out]; exact OwnsF.snoc (x := (y1, y2)) hown)
               have HB7 : Hid (Below X.heap.size X w7) := Lib.hid ((nb_alloc (nb_alloc hB.out _) _).grown hgr (by simp; omega) (fun j hj => hO.out.ge hj))
               clear hown hgr hnil
               go_wp2
               go_roundw
               case rel => exact ⟨k + 1, by omega, by go_num, HO7, HB7⟩
               case measure => simp [intOf]; omega
             all_goals
               have HKN : Hid (kids (bs.take (k + 1)) (a, b) = L) := Lib.hid (by
                 rw [HKT.out, if_neg (fun e2 => by
                   simp only [Prod.mk.injEq] at e2
                   obtain ⟨rfl, rfl⟩ := e2
                   first | (simp at h1; done) | (simp at h2; done)), List.append_nil])
               go_wp2
               go_roundw
               case rel => exact ⟨k + 1, by omega, by go_num, Lib.hid (by rw [HKN.out]; exact hO.out.later (nb_alloc (Below.refl _ _) _)), Lib.hid (nb_alloc hB.out _)⟩
               case measure => simp [intOf]; omega)
      · obtain rfl : k = n := by omega
        rw [List.take_of_length_le (by rw [HN.out]; exact Nat.le_refl _)] at hO
        go_wp2
        go_ret
        exact ⟨_, rfl, hO.out.weaken HX.out.size, nb_trans HX.out hB.out⟩
end Go.Proofs.YtndhomjfjhohoaaGreatDoor

/- The function without of the reference over bonds, with the literals of Adopt, Loosen and Gone. -/
namespace Go.Proofs.YtndhomjfjhohoaaGreatDoor
set_option maxRecDepth 8000
set_option maxRecDepth 8000
open Go.RowKit

theorem filtB_t {p : Bd → Bool} {xs : List Bd} {r : Bd} (h : p r = true) : (xs ++ [r]).filter p = xs.filter p ++ [r] := by simp [List.filter_append, h]
theorem filtB_f {p : Bd → Bool} {xs : List Bd} {r : Bd} (h : p r = false) : (xs ++ [r]).filter p = xs.filter p := by simp [List.filter_append, h]

set_option maxHeartbeats 2000000 in
theorem refAdoptLit_any (x : Bd) (bx : Nat) (a b : Int) (w : World) (hbx : w.heap[bx]? = some (.cells #[.int .i64 a, .int .i64 b] 49)) :
    Calls Tryz.prog 103 #[.agg #[.int .i64 x.1.1, .int .i64 x.1.2, .int .i64 x.2.1, .int .i64 x.2.2], .pointer (some ⟨bx, 0, none⟩)] w fun e w' => e = .returned (.bool (decide (x.1 = (a, b)))) ∧ Below w.heap.size w w' := by
  obtain ⟨⟨x1, x2⟩, x3, x4⟩ := x
  have hbl := (Array.getElem?_eq_some_iff.1 hbx).1
  obtain ⟨k0, k1⟩ := hCells (a := a) (b := b) hbx
  have HX : Hid (∀ o, Below w.heap.size w (w.alloc o)) := Lib.hid (fun o => nb_alloc (Below.refl _ _) o)
  clear hbx
  rw [eqHd]
  cases h1 : (x1 == a) <;> cases h2 : (x2 == b)
  all_goals
    go_enter Tryz.func103, Tryz.ntmps103
    go_wp2
    go_ret
    exact ⟨rfl, HX.out _⟩

set_option maxHeartbeats 4000000 in
theorem withoutAdopt_any (v : Value) (bs : List Bd) (bx : Nat) (a b : Int) (w : World) (h : Reads elBond w v bs) (hn32 : bs.length * 32 ≤ 140737488355328) (hbx : w.heap[bx]? = some (.cells #[.int .i64 a, .int .i64 b] 49)) :
    Calls Tryz.prog 102 #[v, .func (.func 103) #[] #[.pointer (some ⟨bx, 0, none⟩)]] w (SelPost w (bs.filter (fun x => !(decide (x.1 = (a, b)))))) := by
  obtain ⟨i0, hi, hz0, hz1, hz2⟩ := info_parts infoBond
  obtain ⟨hm, hop⟩ := h.open
  obtain ⟨n, hn⟩ : ∃ n, bs.length = n := ⟨_, rfl⟩
  have HN := Lib.hid hn
  have HBX := Lib.hid hbx
  rw [hn] at hm hop hn32
  obtain ⟨Q, hQ⟩ : ∃ Q : Bd → Bool, (fun x : Bd => !(decide (x.1 = (a, b)))) = Q := ⟨_, rfl⟩
  have HQ := Lib.hid (fun x : Bd => (congrFun hQ x).symm)
  rw [hQ]
  clear hn h hbx hQ
  unfold maxLen at hm
  rcases hop with ⟨ad, cap, rfl, hz⟩ | ⟨bl, off, cap, rfl, hb, hlc, hcm, hc⟩
  all_goals
    go_enter Tryz.func102, Tryz.ntmps102
    go_wp2
    go_loopw [5, 10] (fun u i wr => ∃ k : Nat, k ≤ n ∧ i = .int .i64 k ∧ Hid (OwnsF elBond wr w.heap.size 58 u ((bs.take k).filter Q)) ∧ Hid (Below w.heap.size w wr)) (fun _ i _ => n - (intOf i).toNat)
    case atStart => exact ⟨0, by omega, rfl, OwnsF.nil _ _ _ _, Below.refl _ _⟩
    case round =>
      obtain ⟨k, hk, rfl, hO, hB⟩ := hrel
      by_cases hlt : k < n
      · first
          | omega
          | (have hcr : ∀ jj, jj < 4 → wr.cell? ⟨bl, off + k * 4 + jj, none⟩ = (elBond.enc (bs.getD k bdZ))[jj]? := fun jj hjj => by rw [hB.out.cell (p := ⟨bl, _, none⟩) hb]; exact hc k hlt jj hjj
             have hkl : k < bs.length := by rw [HN.out]; exact hlt
             have HTK : Hid (bs.take (k + 1) = bs.take k ++ [bs.getD k bdZ]) := Lib.hid (by rw [List.take_add_one, List.getElem?_eq_getElem hkl, List.getD_eq_getElem?_getD, List.getElem?_eq_getElem hkl]; rfl)
             have hbw : bl < wr.heap.size := Nat.lt_of_lt_of_le hb hB.out.size
             obtain ⟨y, hy⟩ : ∃ y, bs.getD k bdZ = y := ⟨_, rfl⟩
             rw [hy] at hcr HTK
             obtain ⟨⟨y1, y2⟩, y3, y4⟩ := y
             have c0 : wr.cell? ⟨bl, off + k * 4, none⟩ = some (.int .i64 y1) := hcr 0 (by decide)
             have c1 : wr.cell? ⟨bl, off + k * 4 + 1, none⟩ = some (.int .i64 y2) := hcr 1 (by decide)
             have c2 : wr.cell? ⟨bl, off + k * 4 + 2, none⟩ = some (.int .i64 y3) := hcr 2 (by decide)
             have c3 : wr.cell? ⟨bl, off + k * 4 + 3, none⟩ = some (.int .i64 y4) := hcr 3 (by decide)
             have hLk : ((bs.take k).filter Q).length ≤ k := Nat.le_trans (List.length_filter_le _ _) (by rw [List.length_take]; omega)
             obtain ⟨L, hL⟩ : ∃ L, (bs.take k).filter Q = L := ⟨_, rfl⟩
             rw [hL] at hO hLk
             have HL := Lib.hid hL
             have HAR : Hid ((wr.alloc (.cells #[.int .i64 y1, .int .i64 y2, .int .i64 y3, .int .i64 y4] 58)).heap[wr.heap.size]? = some (.cells #[.int .i64 y1, .int .i64 y2, .int .i64 y3, .int .i64 y4] 58)) := Lib.hid (heap_alloc_new _ _)
             have HBA := Lib.hid (nb_alloc hB.out (.cells #[.int .i64 y1, .int .i64 y2, .int .i64 y3, .int .i64 y4] 58))
             have HOA := Lib.hid (hO.out.later (nb_alloc (Below.refl _ _) (.cells #[.int .i64 y1, .int .i64 y2, .int .i64 y3, .int .i64 y4] 58)))
             clear hcr hc hy hL hO
             go_wp2_with fail
             generalize wr.alloc (.cells #[.int .i64 y1, .int .i64 y2, .int .i64 y3, .int .i64 y4] 58) = A at *
             clear c0 c1 c2 c3
             have hAl := (Array.getElem?_eq_some_iff.1 HAR.out).1
             refine (refAdoptLit_any ((y1, y2), (y3, y4)) bx a b _ (by rw [HBA.out.block _ (Array.getElem?_eq_some_iff.1 HBX.out).1]; exact HBX.out)).mono ?_
             rintro e w6 ⟨rfl, hb6⟩
             have hr6 : w6.heap[wr.heap.size]? = some (.cells #[.int .i64 y1, .int .i64 y2, .int .i64 y3, .int .i64 y4] 58) := by rw [hb6.block _ hAl]; exact HAR.out
             have HO6 := Lib.hid (HOA.out.later hb6)
             have HB6 := Lib.hid (nb_trans HBA.out hb6)
             have hr6l := (Array.getElem?_eq_some_iff.1 hr6).1
             have hs6 := HB6.out.size
             have k0 : w6.cell? ⟨wr.heap.size, 0, none⟩ = some (.int .i64 y1) := by rw [cell_of_row _ _ _ _ _ _ hr6]; rfl
             have k1 : w6.cell? ⟨wr.heap.size, 1, none⟩ = some (.int .i64 y2) := by rw [cell_of_row _ _ _ _ _ _ hr6]; rfl
             have k2 : w6.cell? ⟨wr.heap.size, 2, none⟩ = some (.int .i64 y3) := by rw [cell_of_row _ _ _ _ _ _ hr6]; rfl
             have k3 : w6.cell? ⟨wr.heap.size, 3, none⟩ = some (.int .i64 y4) := by rw [cell_of_row _ _ _ _ _ _ hr6]; rfl
             clear hb6 hr6
             have hqy := HQ.out ((y1, y2), (y3, y4))
             dsimp only at hqy
             obtain ⟨bv, hbv⟩ : ∃ bv, (decide (((y1, y2) : Hd) = (a, b))) = bv := ⟨_, rfl⟩
             rw [hbv] at hqy
             rw [hbv]
             cases bv
             · have HNX : Hid ((bs.take (k + 1)).filter Q = L ++ [((y1, y2), (y3, y4))]) := Lib.hid (by rw [HTK.out, filtB_t hqy, HL.out])
               clear hqy hbv
               go_wp2_with (first | (at_builtin; refine wpList_append_own _ rfl _ _ 24 rfl w.heap.size 58 i0 _ 4 32 Tryz.underlying24 hi hz0 hz1 hz2 rfl (by decide) _ L.length (L.flatMap elBond.enc) rfl (World.ownsRow.alloc HO6.out _) ⟨w6.heap.size, 0, none⟩ 1 1 [.int .i64 y1, .int .i64 y2, .int .i64 y3, .int .i64 y4] rfl rfl (World.news_of_block (heap_alloc_new _ _)) (elBond.one ((y1, y2), (y3, y4))) (by unfold maxLen; omega) (by omega) (by simp; omega) ?_; intro v' w2 hown hgr hnil))
               have HO2 : Hid (OwnsF elBond w2 w.heap.size 58 v' (L ++ [((y1, y2), (y3, y4))])) := Lib.hid (OwnsF.snoc (x := ((y1, y2), (y3, y4))) hown)
               have HB2 : Hid (Below w.heap.size w w2) := Lib.hid ((nb_alloc HB6.out _).grown hgr (by simp; omega) (fun j hj => HO6.out.ge hj))
               clear hown hgr hnil k0 k1 k2 k3
               go_wp2
               go_roundw
               case rel => exact ⟨k + 1, by omega, by go_num, by rw [HNX.out]; exact HO2, HB2⟩
               case measure => simp [intOf]; omega
             · have HNX : Hid ((bs.take (k + 1)).filter Q = L) := Lib.hid (by rw [HTK.out, filtB_f hqy, HL.out])
               clear hqy hbv k0 k1 k2 k3
               go_wp2
               go_roundw
               case rel => exact ⟨k + 1, by omega, by go_num, by rw [HNX.out]; exact HO6, HB6⟩
               case measure => simp [intOf]; omega)
      · obtain rfl : k = n := by omega
        rw [List.take_of_length_le (by rw [HN.out]; exact Nat.le_refl _)] at hO
        go_wp2
        go_ret
        exact ⟨_, rfl, hO.out, hB.out⟩

end Go.Proofs.YtndhomjfjhohoaaGreatDoor

/- The contracts of the reference's Loosen and Gone. -/
namespace Go.Proofs.YtndhomjfjhohoaaGreatDoor
set_option maxRecDepth 8000
open Go.RowKit

def BonPost (w : World) (q : Nat) (G : Nat → Prop) (x : Value) (bs' : List Bd) (e : Ending) (w' : World) : Prop := e = .returned x ∧ ∃ G', BonAt w' q G' bs' ∧ Kept G w w' ∧ Moves w G G' ∧ SameS w w' q
theorem BonPost.same {w w' : World} {q : Nat} {G : Nat → Prop} {x : Value} {bs : List Bd} (h : BonAt w q G bs) (hb : Below w.heap.size w w') : BonPost w q G x bs (.returned x) w' := ⟨rfl, G, h.later hb, Kept.ofBelow hb, Moves.refl _ _, SameS.later hb (h.lt q h.at_)⟩

end Go.Proofs.YtndhomjfjhohoaaGreatDoor

/- The contract of the reference's Under: it calls itself. -/
namespace Go.Proofs.YtndhomjfjhohoaaGreatDoor
set_option maxRecDepth 8000
set_option maxRecDepth 8000
open Go.RowKit

theorem flatTake (g : Hd → List Hd) (cs : List Hd) (k : Nat) (hk : k < cs.length) : (cs.take (k + 1)).flatMap (fun c => c :: g c) = (cs.take k).flatMap (fun c => c :: g c) ++ [cs.getD k (0, 0)] ++ g (cs.getD k (0, 0)) := by
  rw [List.take_add_one, List.getElem?_eq_getElem hk, List.getD_eq_getElem?_getD, List.getElem?_eq_getElem hk, List.flatMap_append]
  simp

set_option maxHeartbeats 4000000 in
theorem refUnder_any (q : Nat) (G : Nat → Prop) (bs : List Bd) (d : Hd → Nat) (M : Nat) (hs : SortedB bs) (ha : AcyBy bs d M) (hn32 : bs.length * 32 ≤ 140737488355328) : ∀ (n : Nat) (a b : Int) (w : World), d (a, b) ≤ n → BonAt w q G bs →
    Calls Tryz.prog 101 #[.pointer (some ⟨q, 0, none⟩), .agg #[.int .i64 a, .int .i64 b]] w (HandsPost w (under bs M (a, b))) := by
  obtain ⟨i0, hi, hz0, hz1, hz2⟩ := info_parts infoHand
  intro n
  induction n using Nat.strongRecOn with
  | ind n ih =>
  intro a b w hd h
  have HIH : Hid (∀ (c : Hd) (W : World), c ∈ kids bs (a, b) → BonAt W q G bs → Calls Tryz.prog 101 #[.pointer (some ⟨q, 0, none⟩), .agg #[.int .i64 c.1, .int .i64 c.2]] W (HandsPost W (under bs M c))) := Lib.hid (fun c W hc hW => ih (d c) (by have := (ha.kid hc).1; omega) c.1 c.2 W (Nat.le_refl _) hW)
  have HUE := Lib.hid (ha.under_eq (a, b))
  have HUL := Lib.hid (ha.under_len hs (a, b))
  have HX : Hid (Below w.heap.size w (w.alloc (.cells #[.int .i64 a, .int .i64 b] 49))) := Lib.hid (nb_alloc (Below.refl _ _) _)
  have HHB : Hid ((w.alloc (.cells #[.int .i64 a, .int .i64 b] 49)).heap[w.heap.size]? = some (.cells #[.int .i64 a, .int .i64 b] 49)) := Lib.hid (heap_alloc_new _ _)
  have HW := Lib.hid (h.later HX.out)
  have HN := Lib.hid hn32
  obtain ⟨U, hU⟩ : ∃ U, under bs M (a, b) = U := ⟨_, rfl⟩
  rw [hU] at HUE HUL
  rw [hU]
  clear ih h hd hU
  go_enter Tryz.func101, Tryz.ntmps101
  go_wp2_with fail
  generalize w.alloc (.cells #[.int .i64 a, .int .i64 b] 49) = X at *
  refine (refChildren_any q G bs a b _ HW.out HN.out).mono ?_
  rintro e w2 ⟨vc, rfl, ho2, hb2⟩
  obtain ⟨cs, hcs⟩ : ∃ cs, kids bs (a, b) = cs := ⟨_, rfl⟩
  rw [hcs] at ho2 HIH HUE
  have HW2 := Lib.hid (HW.out.later hb2)
  have HB2 := Lib.hid (nb_trans HX.out hb2)
  have HCO := Lib.hid ho2
  obtain ⟨hm, hop⟩ := ho2.reads.open
  unfold maxLen at hm
  obtain ⟨cn, hcn⟩ : ∃ cn, cs.length = cn := ⟨_, rfl⟩
  have HCN := Lib.hid hcn
  rw [hcn] at hm hop
  have hul : U.length * 32 ≤ 140737488355328 := by have := HUL.out; omega
  have HTL : Hid (∀ k, ((cs.take k).flatMap (fun c => c :: under bs M c)).length ≤ U.length) := Lib.hid (fun k => by
    rw [HUE.out, ← List.take_append_drop k cs]
    conv => rhs; rw [List.flatMap_append]
    rw [List.length_append, List.take_append_drop]
    omega)
  clear ho2 hb2 hcs hcn
  rcases hop with ⟨ad, cap, rfl, hz⟩ | ⟨bl, off, cap, rfl, hb, hlc, hcm, hc⟩
  all_goals
    go_wp2
    go_loopw [5, 12] (fun v5 i wr => ∃ k : Nat, k ≤ cn ∧ i = .int .i64 k ∧ Hid (OwnsF elHand wr w2.heap.size 49 v5 ((cs.take k).flatMap (fun c => c :: under bs M c))) ∧ Hid (Below w2.heap.size w2 wr)) (fun _ i _ => cn - (intOf i).toNat)
    case atStart => exact ⟨0, by omega, rfl, OwnsF.nil _ _ _ _, Below.refl _ _⟩
    case round =>
      obtain ⟨k, hk, rfl, hO, hB⟩ := hrel
      have hBs := hB.out.size
      by_cases hlt : k < cn
      · first
          | omega
          | (have hkl : k < cs.length := by rw [HCN.out]; exact hlt
             obtain ⟨c0, c1⟩ := cells2 (E := elHand) rfl hc hlt
             have hbw : bl < wr.heap.size := Nat.lt_of_lt_of_le hb hBs
             have HFT := Lib.hid (flatTake (under bs M) cs k hkl)
             have HYM := Lib.hid (memD (d := (0, 0)) hkl)
             have ht1 := HTL.out (k + 1)
             obtain ⟨y, hy⟩ : ∃ y, cs.getD k (0, 0) = y := ⟨_, rfl⟩
             have c0' : wr.cell? ⟨bl, off + k * 2, none⟩ = some (.int .i64 y.1) := by rw [hB.out.cell (p := ⟨bl, _, none⟩) hb, c0, ← hy]; rfl
             have c1' : wr.cell? ⟨bl, off + k * 2 + 1, none⟩ = some (.int .i64 y.2) := by rw [hB.out.cell (p := ⟨bl, _, none⟩) hb, c1, ← hy]; rfl
             rw [hy] at HFT HYM
             obtain ⟨y1, y2⟩ := y
             rw [HFT.out] at ht1
             simp only [List.length_append, List.length_cons, List.length_nil] at ht1
             obtain ⟨L, hL⟩ : ∃ L, (cs.take k).flatMap (fun c => c :: under bs M c) = L := ⟨_, rfl⟩
             rw [hL] at hO HFT ht1
             have HIY := Lib.hid (fun W hW => HIH.out (y1, y2) W HYM.out hW)
             obtain ⟨UY, hUY⟩ : ∃ UY, under bs M (y1, y2) = UY := ⟨_, rfl⟩
             rw [hUY] at HFT HIY ht1
             clear c0 c1 hy hc hL hUY
             go_wp2_with (first | (at_builtin; refine wpList_append_own _ rfl _ _ 148 rfl w2.heap.size 49 i0 _ 2 16 Tryz.underlying148 hi hz0 hz1 hz2 rfl (by decide) _ L.length (L.flatMap elHand.enc) rfl (World.ownsRow.alloc (World.ownsRow.alloc hO.out _) _) ⟨wr.heap.size + 1, 0, none⟩ 1 1 [.int .i64 y1, .int .i64 y2] rfl rfl (World.news_of_block (heap_alloc2_new _ _ _)) (elHand.one (y1, y2)) (by unfold maxLen; omega) ?d4 ?d5 ?_))
             case d4 => omega
             case d5 => omega
             intro v' w7 hown hgr hnil
             obtain ⟨g7, cap7, rfl, hmc7⟩ : ∃ g7 cap7, v' = .slice (some ⟨g7, 0, none⟩) (L.length + 1) cap7 ∧ L.length + 1 ≤ cap7 := by
               rcases (OwnsF.snoc (E := elHand) (xs := L) (x := (y1, y2)) hown).owns.form with ⟨_, e⟩ | ⟨g7, cap7, cur7, e7, _, _, h7, _⟩
               · simp at e
               · exact ⟨g7, cap7, by rw [e7]; simp, by simpa using h7⟩
             have HO7 := Lib.hid (OwnsF.snoc (E := elHand) (xs := L) (x := (y1, y2)) hown)
             have hB7 : Below w2.heap.size w2 w7 := (nb_alloc (nb_alloc hB.out _) _).grown hgr (by simp; omega) (fun j hj => hO.out.ge hj)
             have HB7 := Lib.hid hB7
             have hx7 : w7.heap[wr.heap.size]? = some (.cells #[.int .i64 y1, .int .i64 y2] 49) := by
               rw [hgr.block _ (by simp; omega) (fun e => by have := hO.out.lt e.symm; omega)]; exact heap_alloc2_old _ _ _
             have hx7l := (Array.getElem?_eq_some_iff.1 hx7).1
             obtain ⟨kx0, kx1⟩ := hCells (a := y1) (b := y2) hx7
             have HLL : Hid ((L ++ [(y1, y2)]).length = L.length + 1) := Lib.hid (by simp)
             obtain ⟨L2, hL2⟩ : ∃ L2, L ++ [(y1, y2)] = L2 := ⟨_, rfl⟩
             rw [hL2] at HO7 HFT HLL
             clear hown hgr hnil hB7 hx7 c0' c1' hL2
             go_wp2_with fail
             refine (HIY.out _ (HW2.out.later HB7.out)).mono ?_
             rintro e w8 ⟨v8, rfl, ho8, hb8⟩
             have HO8 := Lib.hid (HO7.out.later hb8)
             have HB8 := Lib.hid (nb_trans HB7.out hb8)
             have hs8 := HB8.out.size
             have hll := HLL.out
             rcases ho8.owns.form with ⟨rfl, rfl⟩ | ⟨g8, cap8, cur8, rfl, hh8, hg8, hn8, hcap8, hsz8⟩
             · have hap0 := fun ty => run_append_owned_none (P := Tryz.prog) (w := w8) w2.heap.size 148 ty 49 i0 2 Tryz.underlying148 hi _ _ _ HO8.out
               have HNX : Hid (OwnsF elHand w8 w2.heap.size 49 (.slice (some ⟨g7, 0, none⟩) (L.length + 1) cap7) ((cs.take (k + 1)).flatMap (fun c => c :: under bs M c))) := Lib.hid (by rw [HFT.out, List.append_nil]; exact HO8.out)
               clear ho8 hb8 kx0 kx1
               go_wp2
               go_roundw
               case rel => exact ⟨k + 1, by omega, by go_num, HNX, HB8⟩
               case measure => simp [intOf]; omega
             · have HC8 : Hid (∀ j u, (UY.flatMap elHand.enc)[j]? = some u → w8.cell? ((⟨g8, 0, none⟩ : Addr).add j) = some u) := Lib.hid (fun j u hu => by
                 rw [addr_add', Nat.zero_add, World.ownsRow.cellAt ho8.owns j (by have := (List.getElem?_eq_some_iff.1 hu).1; rwa [length_enc] at this)]
                 exact hu)
               clear ho8 hb8 hh8 hsz8 kx0 kx1
               go_wp2_with (first | (at_builtin; refine wpList_append_own _ rfl _ _ 148 rfl w2.heap.size 49 i0 _ 2 16 Tryz.underlying148 hi hz0 hz1 hz2 rfl (by decide) _ L2.length (L2.flatMap elHand.enc) rfl HO8.out ⟨g8, 0, none⟩ UY.length cap8 (UY.flatMap elHand.enc) rfl (length_enc elHand UY) HC8.out (by intro u hu; obtain ⟨x, _, hx⟩ := List.mem_flatMap.1 hu; exact elHand.one x u hx) (by unfold maxLen; omega) ?d4 ?d5 ?_))
               case d4 => omega
               case d5 => omega
               intro v9 w9 hown hgr hnil
               have HNX : Hid (OwnsF elHand w9 w2.heap.size 49 v9 ((cs.take (k + 1)).flatMap (fun c => c :: under bs M c))) := Lib.hid (by
                 rw [HFT.out]; unfold OwnsF; rw [List.flatMap_append, List.length_append, HLL.out]; exact hown)
               have HB9 : Hid (Below w2.heap.size w2 w9) := Lib.hid (HB8.out.grown hgr (by omega) (fun j hj => HO8.out.ge hj))
               clear hown hgr hnil
               go_wp2
               go_roundw
               case rel => exact ⟨k + 1, by omega, by go_num, HNX, HB9⟩
               case measure => simp [intOf]; omega)
      · obtain rfl : k = cn := by omega
        rw [List.take_of_length_le (by rw [HCN.out]; exact Nat.le_refl _), ← HUE.out] at hO
        go_wp2
        go_ret
        exact ⟨_, rfl, hO.out.weaken (HB2.out.size), nb_trans HB2.out hB.out⟩
end Go.Proofs.YtndhomjfjhohoaaGreatDoor

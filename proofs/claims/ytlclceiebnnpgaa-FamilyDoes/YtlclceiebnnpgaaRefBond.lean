/- The reference's bonds in memory: the contracts of Parent, Children, Under. -/
import Derived.Test.YtlclceiebnnpgaaFamBond
import Derived.Test.YtlclceiebnnpgaaFamGone
namespace Go.Proofs.Ytlclceiebnnpgaa
set_option maxRecDepth 8000
open Go.RowKit

/-- At block q lies a zoo with these bonds, in the blocks G (its slots and rows are held as values). -/
structure BonIs (w : World) (q : Nat) (G : Nat → Prop) (v0 v1 v2 : Value) (bs : List Bd) (vB : Value) : Prop where
  block : w.heap[q]? = some (.cells #[v0, v1, v2, vB] 33 (0, 0))
  own : Owns elBond w 44 vB bs
  inB : ∀ k, vB.ownBlock = some k → G k ∧ k ≠ q
  at_ : G q
  lt : ∀ b, G b → b < w.heap.size
def BonAt (w : World) (q : Nat) (G : Nat → Prop) (bs : List Bd) : Prop := ∃ v0 v1 v2 vB, BonIs w q G v0 v1 v2 bs vB
section
variable {w w' : World} {q : Nat} {G : Nat → Prop} {v0 v1 v2 vB v' : Value} {bs bs' : List Bd}
theorem BonIs.kept {H : Nat → Prop} (h : BonIs w q G v0 v1 v2 bs vB) (hk : Kept H w w') (hf : ∀ b, G b → ¬ H b) : BonIs w' q G v0 v1 v2 bs vB :=
  ⟨by rw [hk.block q (h.lt q h.at_) (hf q h.at_)]; exact h.block, h.own.kept hk (fun k e => hf k (h.inB k e).1), h.inB, h.at_, fun b hb => Nat.lt_of_lt_of_le (h.lt b hb) hk.size⟩
theorem BonIs.later (h : BonIs w q G v0 v1 v2 bs vB) (hb : Below w.heap.size w w') : BonIs w' q G v0 v1 v2 bs vB := h.kept (H := fun _ => False) (Kept.ofBelow hb) (fun _ _ => id)
theorem BonAt.kept {H : Nat → Prop} (h : BonAt w q G bs) (hk : Kept H w w') (hf : ∀ b, G b → ¬ H b) : BonAt w' q G bs := by obtain ⟨a, b, c, d, h⟩ := h; exact ⟨a, b, c, d, h.kept hk hf⟩
theorem BonAt.later (h : BonAt w q G bs) (hb : Below w.heap.size w w') : BonAt w' q G bs := by obtain ⟨a, b, c, d, h⟩ := h; exact ⟨a, b, c, d, h.later hb⟩
theorem BonAt.lt (h : BonAt w q G bs) : ∀ b, G b → b < w.heap.size := by obtain ⟨a, b, c, d, h⟩ := h; exact h.lt
theorem BonAt.at_ (h : BonAt w q G bs) : G q := by obtain ⟨a, b, c, d, h⟩ := h; exact h.at_
theorem BonIs.cell (h : BonIs w q G v0 v1 v2 bs vB) : w.cell? ⟨q, 3, none⟩ = some vB ∧ w.frozen? ⟨q, 3, none⟩ = false ∧ q < w.heap.size := ⟨by rw [cell_of_row _ _ _ _ _ _ h.block]; rfl, frozen_of_row _ _ _ _ _ h.block, h.lt q h.at_⟩
theorem BonAt.new (w : World) : BonAt (w.alloc (.cells #[.slice none 0 0, .slice none 0 0, .slice none 0 0, .slice none 0 0] 33)) w.heap.size (fun b => b = w.heap.size) [] :=
  ⟨_, _, _, _, ⟨heap_alloc_new w _, Owns.nil _ _ _, fun k e => by simp [Value.ownBlock] at e, rfl, fun b e => by simp [e]⟩⟩
/-- The bonds have been set anew. -/
theorem BonIs.set {X : World} (h : BonIs w q G v0 v1 v2 bs vB) (hb : Below w.heap.size w X) (ho : OwnsF elBond X w.heap.size 44 v' bs') :
    ∃ G', BonAt (X.setCell ⟨q, 3, none⟩ v') q G' bs' ∧ Kept G w (X.setCell ⟨q, 3, none⟩ v') ∧ Moves w G G' := by
  have hq := h.lt q h.at_
  have hk : Kept (fun b => b = q) X (X.setCell ⟨q, 3, none⟩ v') := Kept.setCell (F := fun b => b = q) X (p := ⟨q, 3, none⟩) rfl _
  have hbX : X.heap[q]? = some (.cells #[v0, v1, v2, vB] 33 (0, 0)) := by rw [hb.block q hq]; exact h.block
  refine ⟨fun b => b = q ∨ v'.ownBlock = some b, ⟨v0, v1, v2, v', ⟨heap_setCell_same _ _ 3 _ _ _ hbX, ho.owns.kept hk (fun k e e2 => by have := ho.ge e; omega), fun k e => ⟨.inr e, by have := ho.ge e; omega⟩, .inl rfl, fun b hb' => ?_⟩⟩, (Kept.ofBelow hb).trans hk (fun i e => .inl (by rw [e]; exact h.at_)), fun b hb' => ?_⟩
  · rcases hb' with e | e
    · have := hb.size; have := hk.size; omega
    · exact Nat.lt_of_lt_of_le (ho.lt e) hk.size
  · rcases hb' with e | e
    · exact .inl (by rw [e]; exact h.at_)
    · exact .inr (ho.ge e)
end

theorem parB_at {bs : List Bd} {c : Hd} {k : Nat} (hk : k < bs.length) (hno : ∀ j, j < k → (bs.getD j bdZ).1 ≠ c) (hy : (bs.getD k bdZ).1 = c) : hasP bs c = true ∧ parB bs c = (bs.getD k bdZ).2 := by
  have hg : ∀ j (hj : j < bs.length), bs.getD j bdZ = bs[j] := fun j hj => by rw [List.getD_eq_getElem?_getD, List.getElem?_eq_getElem hj]; rfl
  have hfi : bs.find? (fun b => decide (b.1 = c)) = some (bs.getD k bdZ) := by
    rw [List.find?_eq_some_iff_getElem]
    refine ⟨decide_eq_true hy, k, hk, (hg k hk).symm, fun j hj => ?_⟩
    rw [Bool.not_eq_true', decide_eq_false_iff_not, ← hg j (by omega)]
    exact hno j hj
  refine ⟨hasP_iff.2 ⟨(bs.getD k bdZ).2, ?_⟩, by rw [parB, hfi]; rfl⟩
  rw [← hy]; exact memD hk
theorem hasP_none' {bs : List Bd} {c : Hd} (hno : ∀ j, j < bs.length → (bs.getD j bdZ).1 ≠ c) : hasP bs c = false :=
  hasP_no (fun p hp => by
    obtain ⟨j, hj, e⟩ := List.getElem_of_mem hp
    refine hno j hj ?_
    rw [List.getD_eq_getElem?_getD, List.getElem?_eq_getElem hj, Option.getD_some, e])

set_option maxHeartbeats 4000000 in
theorem refParent_any (q : Nat) (G : Nat → Prop) (bs : List Bd) (a b c d : Int) (g : Bool) (w : World) (h : BonAt w q G bs) (hq : parB bs (a, b) = (c, d)) (hg : hasP bs (a, b) = g) :
    Calls Try.prog 13 #[.pointer (some ⟨q, 0, none⟩), .agg #[.int .i64 a, .int .i64 b]] w fun e w' => e = .returned (.tuple #[.agg #[.int .i64 c, .int .i64 d], .bool g]) ∧ Below w.heap.size w w' := by
  obtain ⟨v0, v1, v2, vB, h⟩ := h
  have HPQ : Hid (parB bs (a, b) = (c, d) ∧ hasP bs (a, b) = g) := Lib.hid ⟨hq, hg⟩
  have HX : Hid (Below w.heap.size w ((w.alloc (.cells #[.int .i64 a, .int .i64 b] 38)).alloc (.cells #[.int .i64 0, .int .i64 0] 38))) := Lib.hid (nb_alloc (nb_alloc (Below.refl _ _) _) _)
  have HXS : Hid (((w.alloc (.cells #[.int .i64 a, .int .i64 b] 38)).alloc (.cells #[.int .i64 0, .int .i64 0] 38)).heap.size = w.heap.size + 2) := Lib.hid (by simp)
  have hbb : ((w.alloc (.cells #[.int .i64 a, .int .i64 b] 38)).alloc (.cells #[.int .i64 0, .int .i64 0] 38)).heap[w.heap.size + 1]? = some (.cells #[.int .i64 0, .int .i64 0] 38) := heap_alloc2_new _ _ _
  have hhb : ((w.alloc (.cells #[.int .i64 a, .int .i64 b] 38)).alloc (.cells #[.int .i64 0, .int .i64 0] 38)).heap[w.heap.size]? = some (.cells #[.int .i64 a, .int .i64 b] 38) := heap_alloc2_old _ _ _
  have HBB := Lib.hid hbb
  have HHB := Lib.hid hhb
  have hcq := (h.later HX.out).cell
  obtain ⟨cq, -, hql⟩ := hcq
  obtain ⟨hm, hop⟩ := (h.later HX.out).own.reads.open
  unfold maxLen at hm
  obtain ⟨n, hn⟩ : ∃ n, bs.length = n := ⟨_, rfl⟩
  have HN := Lib.hid hn
  rw [hn] at hm hop
  clear h hq hg hn hbb hhb
  rcases hop with ⟨ad, cap, rfl, hz⟩ | ⟨bl, off, cap, rfl, hb, hlc, hcm, hc⟩
  all_goals
    go_enter Try.func13, Try.ntmps13
    go_wp2_with fail
    generalize (w.alloc (.cells #[.int .i64 a, .int .i64 b] 38)).alloc (.cells #[.int .i64 0, .int .i64 0] 38) = X at *
    go_wp2
    clear cq
    go_loopw [13] (fun i wr => ∃ k : Nat, k ≤ n ∧ i = .int .i64 k ∧ Hid (∀ j, j < k → (bs.getD j bdZ).1 ≠ (a, b)) ∧ Hid (Below X.heap.size X wr)) (fun i _ => n - (intOf i).toNat)
    case atStart => exact ⟨0, by omega, rfl, Lib.hid (fun j hj => by omega), Below.refl _ _⟩
    case round =>
      obtain ⟨k, hk, rfl, hno, hB⟩ := hrel
      have hxs := HXS.out
      have hBs := hB.out.size
      have hh2 : wr.heap[w.heap.size]? = some (.cells #[.int .i64 a, .int .i64 b] 38) := by rw [hB.out.block _ (by omega)]; exact HHB.out
      have hr2 : wr.heap[w.heap.size + 1]? = some (.cells #[.int .i64 0, .int .i64 0] 38) := by rw [hB.out.block _ (by omega)]; exact HBB.out
      have hh2l := (Array.getElem?_eq_some_iff.1 hh2).1
      have hr2l := (Array.getElem?_eq_some_iff.1 hr2).1
      have kh0 : wr.cell? ⟨w.heap.size, 0, none⟩ = some (.int .i64 a) := by rw [cell_of_row _ _ _ _ _ _ hh2]; rfl
      have kh1 : wr.cell? ⟨w.heap.size, 1, none⟩ = some (.int .i64 b) := by rw [cell_of_row _ _ _ _ _ _ hh2]; rfl
      have kr0 : wr.cell? ⟨w.heap.size + 1, 0, none⟩ = some (.int .i64 0) := by rw [cell_of_row _ _ _ _ _ _ hr2]; rfl
      have kr1 : wr.cell? ⟨w.heap.size + 1, 1, none⟩ = some (.int .i64 0) := by rw [cell_of_row _ _ _ _ _ _ hr2]; rfl
      have fz : ∀ j, wr.frozen? ⟨w.heap.size + 1, j, none⟩ = false := fun j => frozen_of_row _ _ _ _ _ hr2
      have HBW : Hid (Below w.heap.size w wr) := Lib.hid (nb_trans HX.out hB.out)
      clear hh2 hr2
      by_cases hlt : k < n
      · first
          | omega
          | (have hcr : ∀ jj, jj < 4 → wr.cell? ⟨bl, off + k * 4 + jj, none⟩ = (elBond.enc (bs.getD k bdZ))[jj]? := fun jj hjj => by rw [hB.out.cell (p := ⟨bl, _, none⟩) hb]; exact hc k hlt jj hjj
             have hkl : k < bs.length := by rw [HN.out]; exact hlt
             have hbw : bl < wr.heap.size := Nat.lt_of_lt_of_le hb hBs
             have HPA := Lib.hid (fun h => parB_at (c := (a, b)) hkl hno.out h)
             obtain ⟨y, hy⟩ : ∃ y, bs.getD k bdZ = y := ⟨_, rfl⟩
             rw [hy] at hcr HPA
             have HY := Lib.hid hy
             obtain ⟨⟨y1, y2⟩, y3, y4⟩ := y
             have c0 : wr.cell? ⟨bl, off + k * 4, none⟩ = some (.int .i64 y1) := hcr 0 (by decide)
             have c1 : wr.cell? ⟨bl, off + k * 4 + 1, none⟩ = some (.int .i64 y2) := hcr 1 (by decide)
             have c2 : wr.cell? ⟨bl, off + k * 4 + 2, none⟩ = some (.int .i64 y3) := hcr 2 (by decide)
             have c3 : wr.cell? ⟨bl, off + k * 4 + 3, none⟩ = some (.int .i64 y4) := hcr 3 (by decide)
             clear hcr hc hy
             cases h1 : (y1 == a) <;> cases h2 : (y2 == b)
             case true.true =>
               obtain ⟨p1, p2⟩ := HPA.out (Prod.ext (eq_of_beq h1) (eq_of_beq h2))
               have hgt : g = true := by rw [← HPQ.out.2]; exact p1
               have hcd : ((y3, y4) : Hd) = (c, d) := by rw [← HPQ.out.1]; exact p2.symm
               simp only [Prod.mk.injEq] at hcd
               obtain ⟨rfl, rfl⟩ := hcd
               subst hgt
               go_wp2
               refine bodyPost_ret (v := .tuple #[.agg #[.int .i64 y3, .int .i64 y4], .bool true]) (by simp [results, Try.results13, go_sem, hr2l, kr0, kr1]) rfl ⟨rfl, ?_⟩
               refine nb_alloc ?_ _
               iterate 2 (refine nbf_set ?_ _ _ _ (by omega))
               exact HBW.out
             all_goals
               go_wp2
               go_roundw
               case rel => exact ⟨k + 1, by omega, by go_num, Lib.hid (fun j hj => if e : j = k then by rw [e, HY.out]; intro e2; simp only [Prod.mk.injEq] at e2; obtain ⟨rfl, rfl⟩ := e2; first | (simp at h1; done) | (simp at h2; done) else hno.out j (by omega)), Lib.hid (nb_alloc hB.out _)⟩
               case measure => simp [intOf]; omega)
      · obtain rfl : k = n := by omega
        have hnone := hasP_none' (bs := bs) (c := (a, b)) (by rw [HN.out]; exact hno.out)
        have hgf : g = false := by rw [← HPQ.out.2]; exact hnone
        have hcd : ((0, 0) : Hd) = (c, d) := by rw [← HPQ.out.1]; exact (hasP_none hnone).1.symm
        simp only [Prod.mk.injEq] at hcd
        obtain ⟨rfl, rfl⟩ := hcd
        subst hgf
        clear hnone
        go_wp2
        refine bodyPost_ret (v := .tuple #[.agg #[.int .i64 0, .int .i64 0], .bool false]) (by simp [results, Try.results13, go_sem, kr0, kr1]) rfl ⟨rfl, ?_⟩
        iterate 2 (refine nbf_set ?_ _ _ _ (by omega))
        exact HBW.out

theorem kidsTake (bs : List Bd) (h : Hd) (k : Nat) (hk : k < bs.length) : kids (bs.take (k + 1)) h = kids (bs.take k) h ++ (if (bs.getD k bdZ).2 = h then [(bs.getD k bdZ).1] else []) := by
  rw [List.take_add_one, List.getElem?_eq_getElem hk, List.getD_eq_getElem?_getD, List.getElem?_eq_getElem hk]
  unfold kids
  simp only [Option.toList_some, List.filter_append, List.map_append, Option.getD_some]
  congr 1
  by_cases e : bs[k].2 = h <;> simp [e]

set_option maxHeartbeats 4000000 in
theorem refChildren_any (q : Nat) (G : Nat → Prop) (bs : List Bd) (a b : Int) (w : World) (h : BonAt w q G bs) (hn32 : bs.length * 32 ≤ 140737488355328) :
    Calls Try.prog 17 #[.pointer (some ⟨q, 0, none⟩), .agg #[.int .i64 a, .int .i64 b]] w (HandsPost w (kids bs (a, b))) := by
  obtain ⟨i0, hi, hz0, hz1, hz2⟩ := info_parts infoHand
  obtain ⟨v0, v1, v2, vB, h⟩ := h
  have HX : Hid (Below w.heap.size w (w.alloc (.cells #[.int .i64 a, .int .i64 b] 38))) := Lib.hid (nb_alloc (Below.refl _ _) _)
  have HXS : Hid ((w.alloc (.cells #[.int .i64 a, .int .i64 b] 38)).heap.size = w.heap.size + 1) := Lib.hid (by simp)
  have HHB : Hid ((w.alloc (.cells #[.int .i64 a, .int .i64 b] 38)).heap[w.heap.size]? = some (.cells #[.int .i64 a, .int .i64 b] 38)) := Lib.hid (heap_alloc_new _ _)
  obtain ⟨cq, -, hql⟩ := (h.later HX.out).cell
  obtain ⟨hm, hop⟩ := (h.later HX.out).own.reads.open
  unfold maxLen at hm
  obtain ⟨n, hn⟩ : ∃ n, bs.length = n := ⟨_, rfl⟩
  have HN := Lib.hid hn
  rw [hn] at hm hop hn32
  clear h hn
  rcases hop with ⟨ad, cap, rfl, hz⟩ | ⟨bl, off, cap, rfl, hb, hlc, hcm, hc⟩
  all_goals
    go_enter Try.func17, Try.ntmps17
    go_wp2_with fail
    generalize w.alloc (.cells #[.int .i64 a, .int .i64 b] 38) = X at *
    go_wp2
    clear cq
    go_loopw [5, 13] (fun v5 i wr => ∃ k : Nat, k ≤ n ∧ i = .int .i64 k ∧ Hid (OwnsF elHand wr X.heap.size 38 v5 (kids (bs.take k) (a, b))) ∧ Hid (Below X.heap.size X wr)) (fun _ i _ => n - (intOf i).toNat)
    case atStart => exact ⟨0, by omega, rfl, OwnsF.nil _ _ _ _, Below.refl _ _⟩
    case round =>
      obtain ⟨k, hk, rfl, hO, hB⟩ := hrel
      have hxs := HXS.out
      have hBs := hB.out.size
      by_cases hlt : k < n
      · first
          | omega
          | (have hh2 : wr.heap[w.heap.size]? = some (.cells #[.int .i64 a, .int .i64 b] 38) := by rw [hB.out.block _ (by omega)]; exact HHB.out
             have hh2l := (Array.getElem?_eq_some_iff.1 hh2).1
             have kh0 : wr.cell? ⟨w.heap.size, 0, none⟩ = some (.int .i64 a) := by rw [cell_of_row _ _ _ _ _ _ hh2]; rfl
             have kh1 : wr.cell? ⟨w.heap.size, 1, none⟩ = some (.int .i64 b) := by rw [cell_of_row _ _ _ _ _ _ hh2]; rfl
             have hcr : ∀ jj, jj < 4 → wr.cell? ⟨bl, off + k * 4 + jj, none⟩ = (elBond.enc (bs.getD k bdZ))[jj]? := fun jj hjj => by rw [hB.out.cell (p := ⟨bl, _, none⟩) hb]; exact hc k hlt jj hjj
             have hkl : k < bs.length := by rw [HN.out]; exact hlt
             have hbw : bl < wr.heap.size := Nat.lt_of_lt_of_le hb hBs
             have HKT := Lib.hid (kidsTake bs (a, b) k hkl)
             have hLk : (kids (bs.take k) (a, b)).length ≤ k := by
               unfold kids; rw [List.length_map]; exact Nat.le_trans (List.length_filter_le _ _) (by rw [List.length_take]; omega)
             obtain ⟨L, hL⟩ : ∃ L, kids (bs.take k) (a, b) = L := ⟨_, rfl⟩
             rw [hL] at hO HKT hLk
             obtain ⟨y, hy⟩ : ∃ y, bs.getD k bdZ = y := ⟨_, rfl⟩
             rw [hy] at hcr HKT
             obtain ⟨⟨y1, y2⟩, y3, y4⟩ := y
             have c0 : wr.cell? ⟨bl, off + k * 4, none⟩ = some (.int .i64 y1) := hcr 0 (by decide)
             have c1 : wr.cell? ⟨bl, off + k * 4 + 1, none⟩ = some (.int .i64 y2) := hcr 1 (by decide)
             have c2 : wr.cell? ⟨bl, off + k * 4 + 2, none⟩ = some (.int .i64 y3) := hcr 2 (by decide)
             have c3 : wr.cell? ⟨bl, off + k * 4 + 3, none⟩ = some (.int .i64 y4) := hcr 3 (by decide)
             clear hcr hc hy hL hh2
             cases h1 : (y3 == a) <;> cases h2 : (y4 == b)
             case true.true =>
               have HKN : Hid (kids (bs.take (k + 1)) (a, b) = L ++ [(y1, y2)]) := Lib.hid (by rw [HKT.out, if_pos (Prod.ext (eq_of_beq h1) (eq_of_beq h2))])
               go_wp2_with (first | (at_builtin; refine wpList_append_own _ rfl _ _ 51 rfl X.heap.size 38 i0 _ 2 16 Try.underlying51 hi hz0 hz1 hz2 rfl (by decide) _ L.length (L.flatMap elHand.enc) rfl (World.ownsRow.alloc (World.ownsRow.alloc hO.out _) _) ⟨wr.heap.size + 1, 0, none⟩ 1 1 [.int .i64 y1, .int .i64 y2] rfl rfl (World.news_of_block (heap_alloc2_new _ _ _)) (elHand.one (y1, y2)) (by unfold maxLen; omega) (by omega) (by simp; omega) ?_; intro v' w7 hown hgr hnil))
               have HO7 : Hid (OwnsF elHand w7 X.heap.size 38 v' (kids (bs.take (k + 1)) (a, b))) := Lib.hid (by rw [HKN.out]; exact OwnsF.snoc (x := (y1, y2)) hown)
               have HB7 : Hid (Below X.heap.size X w7) := Lib.hid ((nb_alloc (nb_alloc hB.out _) _).grown hgr (by simp; omega) (fun j hj => hO.out.ge hj))
               clear hown hgr hnil
               go_wp2
               go_roundw
               case rel => exact ⟨k + 1, by omega, by go_num, HO7, HB7⟩
               case measure => simp [intOf]; omega
             all_goals
               have HKN : Hid (kids (bs.take (k + 1)) (a, b) = L) := Lib.hid (by
                 rw [HKT.out, if_neg (fun e2 => by
                   simp only [Prod.mk.injEq] at e2
                   obtain ⟨rfl, rfl⟩ := e2
                   first | (simp at h1; done) | (simp at h2; done)), List.append_nil])
               go_wp2
               go_roundw
               case rel => exact ⟨k + 1, by omega, by go_num, Lib.hid (by rw [HKN.out]; exact hO.out.later (nb_alloc (Below.refl _ _) _)), Lib.hid (nb_alloc hB.out _)⟩
               case measure => simp [intOf]; omega)
      · obtain rfl : k = n := by omega
        rw [List.take_of_length_le (by rw [HN.out]; exact Nat.le_refl _)] at hO
        go_wp2
        go_ret
        exact ⟨_, rfl, hO.out.weaken HX.out.size, nb_trans HX.out hB.out⟩
end Go.Proofs.Ytlclceiebnnpgaa


/- Contracts and plain facts, several texts in one. -/
import Derived.Test.YtndhomjfjhohoaaGreatDoorGroundA
import Derived.Test.YtndhomjfjhohoaaGreatDoorGroundB
import Derived.Test.YtndhomjfjhohoaaGreatDoorGroundC
import Derived.Test.YtndhomjfjhohoaaGreatDoorGroundD
import Derived.Test.YtndhomjfjhohoaaGreatDoorGroundE
import Derived.Test.YtndhomjfjhohoaaGreatDoorGroundF
/- The reference's Matches returns what the program's Matches returns, for every set and query of 64-bit integers. -/
namespace Go.Proofs.YtndhomjfjhohoaaGreatDoor
open Go.RowKit

end Go.Proofs.YtndhomjfjhohoaaGreatDoor

/- The reference's zoo in memory: its slots, its rows; the contracts of its At and Get. -/
namespace Go.Proofs.YtndhomjfjhohoaaGreatDoor
set_option maxRecDepth 8000
open Go.RowKit

/-- At block q lies a zoo with these slots and rows, in the blocks G; c: to which part each block belongs; vB: its bonds. -/
structure ZooIs (w : World) (q : Nat) (G : Nat → Prop) (c : Nat → Int) (l : List (Int × Bool)) (rows : List Rw) (vL vB : Value) : Prop where
  slots : RefAt w q 81 [vL, vB] (fun b => G b ∧ c b = 0) l
  own : Owns elRow w 54 vL rows
  inL : ∀ k, vL.ownBlock = some k → G k ∧ c k = 1
  lt : ∀ b, G b → b < w.heap.size
def ZooAt (w : World) (q : Nat) (G : Nat → Prop) (l : List (Int × Bool)) (rows : List Rw) (vB : Value) : Prop := ∃ c vL, ZooIs w q G c l rows vL vB

section
variable {w w' : World} {q : Nat} {G : Nat → Prop} {c : Nat → Int} {l l' : List (Int × Bool)} {rows rows' : List Rw} {vL vB v' : Value}
theorem RefAt.at_ {T : TypeId} {rest : List Value} {F : Nat → Prop} (h : RefAt w q T rest F l) : F q := by obtain ⟨vg, vl, hq, hg, hl, hG, _⟩ := h; exact hG
theorem RefAt.mono {T : TypeId} {rest : List Value} {F H : Nat → Prop} (h : RefAt w q T rest F l) (hg : ∀ b, F b → H b) (hl : ∀ b, H b → b < w.heap.size) : RefAt w q T rest H l := by
  obtain ⟨vg, vl, hq, h1, h2, hG, hvg, hvl, hlt⟩ := h
  exact ⟨vg, vl, hq, h1, h2, hg q hG, fun k e => ⟨hg k (hvg k e).1, (hvg k e).2⟩, fun k e => ⟨hg k (hvl k e).1, (hvl k e).2⟩, hl⟩
theorem RefAt.cell2 {T : TypeId} {F : Nat → Prop} {x y : Value} (h : RefAt w q T [x, y] F l) : w.cell? ⟨q, 2, none⟩ = some x ∧ w.cell? ⟨q, 3, none⟩ = some y ∧ (∀ j, w.frozen? ⟨q, j, none⟩ = false) := by
  obtain ⟨vg, vl, hq, _⟩ := h
  exact ⟨by rw [cell_of_row _ _ _ _ _ _ hq]; rfl, by rw [cell_of_row _ _ _ _ _ _ hq]; rfl, fun j => frozen_of_row _ _ _ _ _ hq⟩
theorem ZooIs.kept {H : Nat → Prop} (h : ZooIs w q G c l rows vL vB) (hk : Kept H w w') (hf : ∀ b, G b → ¬ H b) : ZooIs w' q G c l rows vL vB :=
  ⟨h.slots.kept hk (fun b hb => hf b hb.1), h.own.kept hk (fun k e => hf k (h.inL k e).1), h.inL, fun b hb => Nat.lt_of_lt_of_le (h.lt b hb) hk.size⟩
theorem ZooIs.later (h : ZooIs w q G c l rows vL vB) (hb : Below w.heap.size w w') : ZooIs w' q G c l rows vL vB := h.kept (H := fun _ => False) (Kept.ofBelow hb) (fun _ _ => id)
theorem ZooIs.at_ (h : ZooIs w q G c l rows vL vB) : G q ∧ c q = 0 := h.slots.at_
theorem ZooAt.kept {H : Nat → Prop} (h : ZooAt w q G l rows vB) (hk : Kept H w w') (hf : ∀ b, G b → ¬ H b) : ZooAt w' q G l rows vB := by
  obtain ⟨c, vL, h⟩ := h; exact ⟨c, vL, h.kept hk hf⟩
theorem ZooAt.later (h : ZooAt w q G l rows vB) (hb : Below w.heap.size w w') : ZooAt w' q G l rows vB := by
  obtain ⟨c, vL, h⟩ := h; exact ⟨c, vL, h.later hb⟩
theorem ZooAt.lt (h : ZooAt w q G l rows vB) : ∀ b, G b → b < w.heap.size := by obtain ⟨c, vL, h⟩ := h; exact h.lt
theorem ZooAt.at_ (h : ZooAt w q G l rows vB) : G q := by obtain ⟨c, vL, h⟩ := h; exact h.at_.1
/-- The rows have been set anew. -/
theorem ZooIs.setL (h : ZooIs w q G c l rows vL vB) (hk : Kept (fun b => b = q) w w') (hq : ∀ vg vl, w.heap[q]? = some (.cells #[vg, vl, vL, vB] 81 (0, 0)) → w'.heap[q]? = some (.cells #[vg, vl, v', vB] 81 (0, 0))) (ho : OwnsF elRow w' w.heap.size 54 v' rows') :
    ∃ F', ZooAt w' q F' l rows' vB ∧ Kept G w w' ∧ Moves w G F' := by
  have hl : ∀ b, growF G w w' b → b < w'.heap.size := fun b hb => by
    rcases hb with hb | hb
    · exact Nat.lt_of_lt_of_le (h.lt b hb) hk.size
    · exact hb.2
  have hG := h.at_
  obtain ⟨vg, vl, hq0, h1, h2, hGq, hvg, hvl, hlt⟩ := h.slots
  have hold : ∀ b, (G b ∧ c b = 0) → growF G w w' b ∧ growC c w 1 b = 0 := fun b hb => ⟨.inl hb.1, (growC_old (h.lt b hb.1)).trans hb.2⟩
  refine ⟨growF G w w', ⟨growC c w 1, v', ⟨⟨vg, vl, hq vg vl hq0, h1.kept hk (fun k e => (hvg k e).2), h2.kept hk (fun k e => (hvl k e).2.1), hold q hGq, fun k e => ⟨hold k (hvg k e).1, (hvg k e).2⟩, fun k e => ⟨hold k (hvl k e).1, (hvl k e).2⟩, fun k hb => hl k hb.1⟩, ho.owns, fun k e => ⟨.inr ⟨ho.ge e, ho.lt e⟩, growC_new (ho.ge e)⟩, hl⟩⟩, hk.mono (fun b e => .inl (by rw [e]; exact hG.1)), growF_moves G w w'⟩
theorem ZooAt.new (w : World) : ZooAt (w.alloc (.cells #[.slice none 0 0, .slice none 0 0, .slice none 0 0, .slice none 0 0] 81)) w.heap.size (fun b => b = w.heap.size) [] [] (.slice none 0 0) :=
  ⟨fun _ => 0, .slice none 0 0, ⟨⟨_, _, heap_alloc_new w _, Owns.nil _ _ _, Owns.nil _ _ _, ⟨rfl, rfl⟩, fun k e => by simp [Value.ownBlock] at e, fun k e => by simp [Value.ownBlock] at e, fun k e => by simp [e.1]⟩, Owns.nil _ _ _, fun k e => by simp [Value.ownBlock] at e, fun b e => by simp [e]⟩⟩
end

def atI (rows : List Rw) (a b : Int) : Int := if hasH rows a b then (atN rows a b : Int) else -1
theorem atI_no {rows : List Rw} {a b : Int} (h : hasH rows a b = false) : atI rows a b = -1 := by rw [atI, h]; rfl
theorem atI_yes {rows : List Rw} {a b : Int} (h : hasH rows a b = true) : atI rows a b = (atN rows a b : Int) := by rw [atI, h]; rfl
theorem atN_first {rows : List Rw} {a b : Int} {k : Nat} (hk : k < rows.length) (hno : ∀ j, j < k → isH a b (rows.getD j rowZ) = false) (hy : isH a b (rows.getD k rowZ) = true) : hasH rows a b = true ∧ atN rows a b = k := by
  have hg : ∀ j (hj : j < rows.length), rows.getD j rowZ = rows[j] := fun j hj => by rw [List.getD_eq_getElem?_getD, List.getElem?_eq_getElem hj]; rfl
  have : atN rows a b = k := by
    unfold atN
    rw [List.findIdx_eq hk]
    refine ⟨by rw [← hg k hk]; exact hy, fun j hj => ?_⟩
    rw [← hg j (by omega)]; exact hno j hj
  exact ⟨by rw [hasH, this]; exact decide_eq_true hk, this⟩
theorem hasH_none {rows : List Rw} {a b : Int} (hno : ∀ j, j < rows.length → isH a b (rows.getD j rowZ) = false) : hasH rows a b = false := by
  cases hh : hasH rows a b
  · rfl
  · have hi : atN rows a b < rows.length := of_decide_eq_true hh
    have := isH_iff.2 (atN_is hi)
    rw [hno _ hi] at this; cases this

set_option maxHeartbeats 2000000 in
theorem refAtI_any (q : Nat) (G : Nat → Prop) (l : List (Int × Bool)) (rows : List Rw) (vB : Value) (a b : Int) (w : World) (h : ZooAt w q G l rows vB) :
    Calls Tryz.prog 65 #[.pointer (some ⟨q, 0, none⟩), .agg #[.int .i64 a, .int .i64 b]] w fun e w' => e = .returned (.int .i64 (atI rows a b)) ∧ Below w.heap.size w w' := by
  obtain ⟨c, vL, h⟩ := h
  have hq2 := (h.later (nb_alloc (Below.refl _ _) (.cells #[.int .i64 a, .int .i64 b] 49))).slots.cell2.1
  have hq2w := h.slots.cell2.1
  have hql := h.lt q h.at_.1
  have hX : Below w.heap.size w (w.alloc (.cells #[.int .i64 a, .int .i64 b] 49)) := nb_alloc (Below.refl _ _) _
  have HX := Lib.hid hX
  obtain ⟨hm, hop⟩ := h.own.reads.open
  unfold maxLen at hm
  generalize hn : rows.length = n at *
  have HN := Lib.hid hn
  clear hn h hX
  rcases hop with ⟨ad, cap, rfl, hz⟩ | ⟨bl, off, cap, rfl, hb, hlc, hcm, hc⟩
  all_goals
    go_enter Tryz.func65, Tryz.ntmps65
    go_wp2
    clear hq2
    go_loopw [12] (fun i wr => ∃ k : Nat, k ≤ n ∧ i = .int .i64 k ∧ Hid (∀ j, j < k → isH a b (rows.getD j rowZ) = false) ∧ Hid (Below (w.heap.size + 1) (w.alloc (.cells #[.int .i64 a, .int .i64 b] 49)) wr)) (fun i _ => n - (intOf i).toNat)
    case atStart => exact ⟨0, by omega, rfl, fun j hj => by omega, Below.refl _ _⟩
    case round =>
      obtain ⟨k, hk, rfl, hno, hB⟩ := hrel
      have HBW : Hid (Below w.heap.size w wr) := Lib.hid (HX.out.trans (hB.out.mono (by omega)))
      by_cases hlt : k < n
      · first
          | omega
          | (have hcr : ∀ jj, jj < 11 → wr.cell? ⟨bl, off + k * 11 + jj, none⟩ = (elRow.enc (rows.getD k rowZ))[jj]? := fun jj hjj => by rw [HBW.out.cell (p := ⟨bl, _, none⟩) hb]; exact hc k hlt jj hjj
             have k0 : wr.cell? ⟨w.heap.size, 0, none⟩ = some (.int .i64 a) := by rw [hB.out.cell (p := ⟨w.heap.size, 0, none⟩) (by simp)]; simp
             have k1 : wr.cell? ⟨w.heap.size, 1, none⟩ = some (.int .i64 b) := by rw [hB.out.cell (p := ⟨w.heap.size, 1, none⟩) (by simp)]; simp
             have hsz : w.heap.size < wr.heap.size := by have := hB.out.size; simp at this; omega
             have hbw : bl < wr.heap.size := by omega
             have HFI := Lib.hid (fun h => atN_first (a := a) (b := b) (by rw [HN.out]; exact hlt) hno.out h)
             clear hc
             generalize hy : rows.getD k rowZ = y at *
             have HY := Lib.hid hy
             clear hy
             obtain ⟨c0, c1, c2, c3, c4, c5, c6, c7, c8, c9, c10⟩ := lRow (O := off + k * 11) (r := y) hcr
             clear hcr
             cases h1 : (y.s == a) <;> cases h2 : (y.g == b)
             all_goals
               go_wp2
               first
                 | (go_roundw
                    case rel => exact ⟨k + 1, by omega, by go_num, fun j hj => if e : j = k then by rw [e, HY.out]; simp [isH, h1, h2] else hno.out j (by omega), hB.out.alloc (by omega) _⟩
                    case measure => simp [intOf]; omega)
                 | (go_ret
                    obtain ⟨f1, f2⟩ := HFI.out (by simp [isH, h1, h2])
                    exact ⟨ret_int (by rw [atI_yes f1, f2]), nb_alloc HBW.out _⟩))
      · obtain rfl : k = n := by omega
        go_wp2
        go_ret
        exact ⟨ret_int (atI_no (hasH_none (by rw [HN.out]; exact hno.out))).symm, HBW.out⟩
end Go.Proofs.YtndhomjfjhohoaaGreatDoor

/- The contract of Get of the reference's zoo. -/
namespace Go.Proofs.YtndhomjfjhohoaaGreatDoor
open Go.RowKit

end Go.Proofs.YtndhomjfjhohoaaGreatDoor


/- Contracts and plain facts, several texts in one. -/
import Derived.Deep.RegionLaw
import Derived.StillTailTactics
import Derived.Test.YtlaahlphfkadjaaGreatGroundA
import Derived.Test.YtlaahlphfkadjaaGreatGroundB
import Derived.Test.YtlaahlphfkadjaaGreatGroundC
import Derived.Test.YtlaahlphfkadjaaGreatGroundD
import Derived.Test.YtlaahlphfkadjaaGreatGroundE
import Derived.Test.YtlaahlphfkadjaaGreatGroundF
/- The reference's Matches returns what the program's Matches returns, for every set and query of 64-bit integers. -/
namespace Go.Proofs.YtlaahlphfkadjaaGreat
open Go.RowKit

end Go.Proofs.YtlaahlphfkadjaaGreat

/- The reference's zoo in memory: its slots, its rows; the contracts of its At and Get. -/
namespace Go.Proofs.YtlaahlphfkadjaaGreat
set_option maxRecDepth 8000
open Go.RowKit

/-- At block q lies a zoo with these slots and rows, in the blocks G; c: to which part each block belongs; vB: its bonds. -/
structure ZooIs (w : World) (q : Nat) (G : Nat → Prop) (c : Nat → Int) (l : List (Int × Bool)) (rows : List Rw) (vL vB : Value) : Prop where
  slots : RefAt w q 33 [vL, vB] (fun b => G b ∧ c b = 0) l
  own : Owns elRow w 56 vL rows
  inL : ∀ k, vL.ownBlock = some k → G k ∧ c k = 1
  lt : ∀ b, G b → b < w.heap.size
def ZooAt (w : World) (q : Nat) (G : Nat → Prop) (l : List (Int × Bool)) (rows : List Rw) (vB : Value) : Prop := ∃ c vL, ZooIs w q G c l rows vL vB

section
variable {w w' : World} {q : Nat} {G : Nat → Prop} {c : Nat → Int} {l l' : List (Int × Bool)} {rows rows' : List Rw} {vL vB v' : Value}
theorem RefAt.at_ {T : TypeId} {rest : List Value} {F : Nat → Prop} (h : RefAt w q T rest F l) : F q := by obtain ⟨vg, vl, hq, hg, hl, hG, _⟩ := h; exact hG
theorem RefAt.mono {T : TypeId} {rest : List Value} {F H : Nat → Prop} (h : RefAt w q T rest F l) (hg : ∀ b, F b → H b) (hl : ∀ b, H b → b < w.heap.size) : RefAt w q T rest H l := by
  obtain ⟨vg, vl, hq, h1, h2, hG, hvg, hvl, hlt⟩ := h
  exact ⟨vg, vl, hq, h1, h2, hg q hG, fun k e => ⟨hg k (hvg k e).1, (hvg k e).2⟩, fun k e => ⟨hg k (hvl k e).1, (hvl k e).2⟩, hl⟩
theorem RefAt.cell2 {T : TypeId} {F : Nat → Prop} {x y : Value} (h : RefAt w q T [x, y] F l) : w.cell? ⟨q, 2, none⟩ = some x ∧ w.cell? ⟨q, 3, none⟩ = some y ∧ (∀ j, w.frozen? ⟨q, j, none⟩ = false) := by
  obtain ⟨vg, vl, hq, _⟩ := h
  exact ⟨by rw [cell_of_row _ _ _ _ _ _ hq]; rfl, by rw [cell_of_row _ _ _ _ _ _ hq]; rfl, fun j => frozen_of_row _ _ _ _ _ hq⟩
theorem ZooIs.kept {H : Nat → Prop} (h : ZooIs w q G c l rows vL vB) (hk : Kept H w w') (hf : ∀ b, G b → ¬ H b) : ZooIs w' q G c l rows vL vB :=
  ⟨h.slots.kept hk (fun b hb => hf b hb.1), h.own.kept hk (fun k e => hf k (h.inL k e).1), h.inL, fun b hb => Nat.lt_of_lt_of_le (h.lt b hb) hk.size⟩
theorem ZooIs.later (h : ZooIs w q G c l rows vL vB) (hb : Below w.heap.size w w') : ZooIs w' q G c l rows vL vB := h.kept (H := fun _ => False) (Kept.ofBelow hb) (fun _ _ => id)
theorem ZooIs.at_ (h : ZooIs w q G c l rows vL vB) : G q ∧ c q = 0 := h.slots.at_
theorem ZooAt.kept {H : Nat → Prop} (h : ZooAt w q G l rows vB) (hk : Kept H w w') (hf : ∀ b, G b → ¬ H b) : ZooAt w' q G l rows vB := by
  obtain ⟨c, vL, h⟩ := h; exact ⟨c, vL, h.kept hk hf⟩
theorem ZooAt.later (h : ZooAt w q G l rows vB) (hb : Below w.heap.size w w') : ZooAt w' q G l rows vB := by
  obtain ⟨c, vL, h⟩ := h; exact ⟨c, vL, h.later hb⟩
theorem ZooAt.lt (h : ZooAt w q G l rows vB) : ∀ b, G b → b < w.heap.size := by obtain ⟨c, vL, h⟩ := h; exact h.lt
theorem ZooAt.at_ (h : ZooAt w q G l rows vB) : G q := by obtain ⟨c, vL, h⟩ := h; exact h.at_.1
/-- The slots have been turned. -/
theorem ZooIs.slotStep {G' : Nat → Prop} (h : ZooIs w q G c l rows vL vB) (hs : RefAt w' q 33 [vL, vB] G' l') (hkp : Kept (fun b => G b ∧ c b = 0) w w') (hm : Moves w (fun b => G b ∧ c b = 0) G') :
    ∃ F', ZooAt w' q F' l' rows vB ∧ Kept G w w' ∧ Moves w G F' := by
  have hl : ∀ b, growF G w w' b → b < w'.heap.size := fun b hb => by
    rcases hb with hb | hb
    · exact Nat.lt_of_lt_of_le (h.lt b hb) hkp.size
    · exact hb.2
  refine ⟨growF G w w', ⟨growC c w 0, vL, ⟨hs.mono (fun b hb => ?_) (fun b hb => hl b hb.1), h.own.kept hkp (fun k e hb => ?_), fun k e => ⟨.inl (h.inL k e).1, (growC_old (h.lt k (h.inL k e).1)).trans (h.inL k e).2⟩, hl⟩⟩, hkp.mono (fun b hb => .inl hb.1), growF_moves G w w'⟩
  · rcases hm b hb with h1 | h1
    · exact ⟨.inl h1.1, (growC_old (h.lt b h1.1)).trans h1.2⟩
    · exact ⟨.inr ⟨h1, hs.lt b hb⟩, growC_new h1⟩
  · have := (h.inL k e).2
    rw [hb.2] at this; exact absurd this (by decide)
/-- The rows have been set anew. -/
theorem ZooIs.setL (h : ZooIs w q G c l rows vL vB) (hk : Kept (fun b => b = q) w w') (hq : ∀ vg vl, w.heap[q]? = some (.cells #[vg, vl, vL, vB] 33 (0, 0)) → w'.heap[q]? = some (.cells #[vg, vl, v', vB] 33 (0, 0))) (ho : OwnsF elRow w' w.heap.size 56 v' rows') :
    ∃ F', ZooAt w' q F' l rows' vB ∧ Kept G w w' ∧ Moves w G F' := by
  have hl : ∀ b, growF G w w' b → b < w'.heap.size := fun b hb => by
    rcases hb with hb | hb
    · exact Nat.lt_of_lt_of_le (h.lt b hb) hk.size
    · exact hb.2
  have hG := h.at_
  obtain ⟨vg, vl, hq0, h1, h2, hGq, hvg, hvl, hlt⟩ := h.slots
  have hold : ∀ b, (G b ∧ c b = 0) → growF G w w' b ∧ growC c w 1 b = 0 := fun b hb => ⟨.inl hb.1, (growC_old (h.lt b hb.1)).trans hb.2⟩
  refine ⟨growF G w w', ⟨growC c w 1, v', ⟨⟨vg, vl, hq vg vl hq0, h1.kept hk (fun k e => (hvg k e).2), h2.kept hk (fun k e => (hvl k e).2.1), hold q hGq, fun k e => ⟨hold k (hvg k e).1, (hvg k e).2⟩, fun k e => ⟨hold k (hvl k e).1, (hvl k e).2⟩, fun k hb => hl k hb.1⟩, ho.owns, fun k e => ⟨.inr ⟨ho.ge e, ho.lt e⟩, growC_new (ho.ge e)⟩, hl⟩⟩, hk.mono (fun b e => .inl (by rw [e]; exact hG.1)), growF_moves G w w'⟩
theorem ZooAt.new (w : World) : ZooAt (w.alloc (.cells #[.slice none 0 0, .slice none 0 0, .slice none 0 0, .slice none 0 0] 33)) w.heap.size (fun b => b = w.heap.size) [] [] (.slice none 0 0) :=
  ⟨fun _ => 0, .slice none 0 0, ⟨⟨_, _, heap_alloc_new w _, Owns.nil _ _ _, Owns.nil _ _ _, ⟨rfl, rfl⟩, fun k e => by simp [Value.ownBlock] at e, fun k e => by simp [Value.ownBlock] at e, fun k e => by simp [e.1]⟩, Owns.nil _ _ _, fun k e => by simp [Value.ownBlock] at e, fun b e => by simp [e]⟩⟩
end

def atI (rows : List Rw) (a b : Int) : Int := if hasH rows a b then (atN rows a b : Int) else -1
theorem atI_no {rows : List Rw} {a b : Int} (h : hasH rows a b = false) : atI rows a b = -1 := by rw [atI, h]; rfl
theorem atI_yes {rows : List Rw} {a b : Int} (h : hasH rows a b = true) : atI rows a b = (atN rows a b : Int) := by rw [atI, h]; rfl
theorem atN_first {rows : List Rw} {a b : Int} {k : Nat} (hk : k < rows.length) (hno : ∀ j, j < k → isH a b (rows.getD j rowZ) = false) (hy : isH a b (rows.getD k rowZ) = true) : hasH rows a b = true ∧ atN rows a b = k := by
  have hg : ∀ j (hj : j < rows.length), rows.getD j rowZ = rows[j] := fun j hj => by rw [List.getD_eq_getElem?_getD, List.getElem?_eq_getElem hj]; rfl
  have : atN rows a b = k := by
    unfold atN
    rw [List.findIdx_eq hk]
    refine ⟨by rw [← hg k hk]; exact hy, fun j hj => ?_⟩
    rw [← hg j (by omega)]; exact hno j hj
  exact ⟨by rw [hasH, this]; exact decide_eq_true hk, this⟩
theorem hasH_none {rows : List Rw} {a b : Int} (hno : ∀ j, j < rows.length → isH a b (rows.getD j rowZ) = false) : hasH rows a b = false := by
  cases hh : hasH rows a b
  · rfl
  · have hi : atN rows a b < rows.length := of_decide_eq_true hh
    have := isH_iff.2 (atN_is hi)
    rw [hno _ hi] at this; cases this

set_option maxHeartbeats 2000000 in
theorem refAtI_any (q : Nat) (G : Nat → Prop) (l : List (Int × Bool)) (rows : List Rw) (vB : Value) (a b : Int) (w : World) (h : ZooAt w q G l rows vB) :
    Calls Tryz.prog 43 #[.pointer (some ⟨q, 0, none⟩), .agg #[.int .i64 a, .int .i64 b]] w fun e w' => e = .returned (.int .i64 (atI rows a b)) ∧ Below w.heap.size w w' := by
  obtain ⟨c, vL, h⟩ := h
  have hq2 := (h.later (nb_alloc (Below.refl _ _) (.cells #[.int .i64 a, .int .i64 b] 43))).slots.cell2.1
  have hq2w := h.slots.cell2.1
  have hql := h.lt q h.at_.1
  have hX : Below w.heap.size w (w.alloc (.cells #[.int .i64 a, .int .i64 b] 43)) := nb_alloc (Below.refl _ _) _
  have HX := Lib.hid hX
  obtain ⟨hm, hop⟩ := h.own.reads.open
  unfold maxLen at hm
  generalize hn : rows.length = n at *
  have HN := Lib.hid hn
  clear hn h hX
  rcases hop with ⟨ad, cap, rfl, hz⟩ | ⟨bl, off, cap, rfl, hb, hlc, hcm, hc⟩
  all_goals
    go_enter Tryz.func43, Tryz.ntmps43
    go_wp2
    clear hq2
    go_loopw [12] (fun i wr => ∃ k : Nat, k ≤ n ∧ i = .int .i64 k ∧ Hid (∀ j, j < k → isH a b (rows.getD j rowZ) = false) ∧ Hid (Below (w.heap.size + 1) (w.alloc (.cells #[.int .i64 a, .int .i64 b] 43)) wr)) (fun i _ => n - (intOf i).toNat)
    case atStart => exact ⟨0, by omega, rfl, fun j hj => by omega, Below.refl _ _⟩
    case round =>
      obtain ⟨k, hk, rfl, hno, hB⟩ := hrel
      have HBW : Hid (Below w.heap.size w wr) := Lib.hid (HX.out.trans (hB.out.mono (by omega)))
      by_cases hlt : k < n
      · first
          | omega
          | (have hcr : ∀ jj, jj < 11 → wr.cell? ⟨bl, off + k * 11 + jj, none⟩ = (elRow.enc (rows.getD k rowZ))[jj]? := fun jj hjj => by rw [HBW.out.cell (p := ⟨bl, _, none⟩) hb]; exact hc k hlt jj hjj
             have k0 : wr.cell? ⟨w.heap.size, 0, none⟩ = some (.int .i64 a) := by rw [hB.out.cell (p := ⟨w.heap.size, 0, none⟩) (by simp)]; simp
             have k1 : wr.cell? ⟨w.heap.size, 1, none⟩ = some (.int .i64 b) := by rw [hB.out.cell (p := ⟨w.heap.size, 1, none⟩) (by simp)]; simp
             have hsz : w.heap.size < wr.heap.size := by have := hB.out.size; simp at this; omega
             have hbw : bl < wr.heap.size := by omega
             have HFI := Lib.hid (fun h => atN_first (a := a) (b := b) (by rw [HN.out]; exact hlt) hno.out h)
             clear hc
             generalize hy : rows.getD k rowZ = y at *
             have HY := Lib.hid hy
             clear hy
             obtain ⟨c0, c1, c2, c3, c4, c5, c6, c7, c8, c9, c10⟩ := lRow (O := off + k * 11) (r := y) hcr
             clear hcr
             cases h1 : (y.s == a) <;> cases h2 : (y.g == b)
             all_goals
               go_wp2
               first
                 | (go_roundw
                    case rel => exact ⟨k + 1, by omega, by go_num, fun j hj => if e : j = k then by rw [e, HY.out]; simp [isH, h1, h2] else hno.out j (by omega), hB.out.alloc (by omega) _⟩
                    case measure => simp [intOf]; omega)
                 | (go_ret
                    obtain ⟨f1, f2⟩ := HFI.out (by simp [isH, h1, h2])
                    exact ⟨ret_int (by rw [atI_yes f1, f2]), nb_alloc HBW.out _⟩))
      · obtain rfl : k = n := by omega
        go_wp2
        go_ret
        exact ⟨ret_int (atI_no (hasH_none (by rw [HN.out]; exact hno.out))).symm, HBW.out⟩
end Go.Proofs.YtlaahlphfkadjaaGreat

/- The function without of the reference, with the literals of its zoo's Kill and Rows; the contract of the zoo's Rows. -/
namespace Go.Proofs.YtlaahlphfkadjaaGreat
set_option maxRecDepth 8000
open Go.RowKit

theorem filter_snoc_t {p : Rw → Bool} {xs : List Rw} {r : Rw} (h : p r = true) : (xs ++ [r]).filter p = xs.filter p ++ [r] := by simp [List.filter_append, h]
theorem filter_snoc_f {p : Rw → Bool} {xs : List Rw} {r : Rw} (h : p r = false) : (xs ++ [r]).filter p = xs.filter p := by simp [List.filter_append, h]
set_option maxHeartbeats 1000000 in
theorem zkillLit_any (r : Rw) (bx : Nat) (a b : Int) (w : World) (hbx : w.heap[bx]? = some (.cells #[.int .i64 a, .int .i64 b] 43)) :
    Calls Tryz.prog 82 #[.agg #[.int .i64 r.s, .int .i64 r.g, .int .i64 r.m, .int .i64 (r.f 0), .int .i64 (r.f 1), .int .i64 (r.f 2), .int .i64 (r.f 3), .int .i64 (r.f 4), .int .i64 (r.f 5), .int .i64 (r.f 6), .int .i64 (r.f 7)], .pointer (some ⟨bx, 0, none⟩)] w fun e w' => e = .returned (.bool (isH a b r)) ∧ Below w.heap.size w w' := by
  have hbl := (Array.getElem?_eq_some_iff.1 hbx).1
  obtain ⟨k0, k1⟩ := hCells (a := a) (b := b) hbx
  have HX : Hid (Below w.heap.size w (w.alloc (.cells #[.int .i64 r.s, .int .i64 r.g, .int .i64 r.m, .int .i64 (r.f 0), .int .i64 (r.f 1), .int .i64 (r.f 2), .int .i64 (r.f 3), .int .i64 (r.f 4), .int .i64 (r.f 5), .int .i64 (r.f 6), .int .i64 (r.f 7)] 56))) := Lib.hid (nb_alloc (Below.refl _ _) _)
  clear hbx
  cases h1 : (r.s == a) <;> cases h2 : (r.g == b)
  all_goals
    have HP : Hid (isH a b r = _) := Lib.hid (show isH a b r = ((r.s == a) && (r.g == b)) from rfl)
    rw [h1, h2] at HP
    go_enter Tryz.func82, Tryz.ntmps82
    go_wp2
    go_ret
    exact ⟨by rw [HP.out]; rfl, HX.out⟩

set_option maxHeartbeats 4000000 in
theorem withoutKill_any (v : Value) (rows : List Rw) (bx : Nat) (a b : Int) (w : World) (h : Reads elRow w v rows) (h60 : rows.length ≤ 60) (hbx : w.heap[bx]? = some (.cells #[.int .i64 a, .int .i64 b] 43)) :
    Calls Tryz.prog 81 #[v, .func (.func 82) #[] #[.pointer (some ⟨bx, 0, none⟩)]] w fun e w' => ∃ v', e = .returned v' ∧ OwnsF elRow w' w.heap.size 56 v' (rows.filter (fun r => !(isH a b r))) ∧ Below w.heap.size w w' := by
  obtain ⟨i0, hi, hz0, hz1, hz2⟩ := info_parts infoRow
  obtain ⟨hm, hop⟩ := h.open
  generalize hn : rows.length = n at *
  have HN := Lib.hid hn
  have HBX := Lib.hid hbx
  clear hn h hbx
  unfold maxLen at hm
  rcases hop with ⟨ad, cap, rfl, hz⟩ | ⟨bl, off, cap, rfl, hb, hlc, hcm, hc⟩
  all_goals
    go_enter Tryz.func81, Tryz.ntmps81
    go_wp2
    go_loopw [5, 10] (fun u i wr => ∃ k : Nat, k ≤ n ∧ i = .int .i64 k ∧ Hid (OwnsF elRow wr w.heap.size 56 u ((rows.take k).filter (fun r => !(isH a b r)))) ∧ Hid (Below w.heap.size w wr)) (fun _ i _ => n - (intOf i).toNat)
    case atStart => exact ⟨0, by omega, rfl, OwnsF.nil _ _ _ _, Below.refl _ _⟩
    case round =>
      obtain ⟨k, hk, rfl, hO, hB⟩ := hrel
      by_cases hlt : k < n
      · first
          | omega
          | (have hcr : ∀ jj, jj < 11 → wr.cell? ⟨bl, off + k * 11 + jj, none⟩ = (elRow.enc (rows.getD k rowZ))[jj]? := fun jj hjj => by rw [hB.out.cell (p := ⟨bl, _, none⟩) hb]; exact hc k hlt jj hjj
             have HTK : Hid (rows.take (k + 1) = rows.take k ++ [rows.getD k rowZ]) := Lib.hid (by
               have hkl : k < rows.length := by rw [HN.out]; exact hlt
               rw [List.take_add_one, List.getElem?_eq_getElem hkl, List.getD_eq_getElem?_getD, List.getElem?_eq_getElem hkl]; rfl)
             have HLN : Hid (((rows.take k).filter (fun r => !(isH a b r))).length ≤ k) := Lib.hid (by
               have h1 := List.length_filter_le (fun r => !(isH a b r)) (rows.take k)
               rw [List.length_take] at h1
               have := Nat.min_le_left k rows.length
               omega)
             clear hc
             generalize rows.getD k rowZ = r at *
             have hbw : bl < wr.heap.size := Nat.lt_of_lt_of_le hb hB.out.size
             obtain ⟨c0, c1, c2, c3, c4, c5, c6, c7, c8, c9, c10⟩ := lRow (O := off + k * 11) (r := r) hcr
             clear hcr
             have HAR : Hid ((wr.alloc (.cells #[.int .i64 r.s, .int .i64 r.g, .int .i64 r.m, .int .i64 (r.f 0), .int .i64 (r.f 1), .int .i64 (r.f 2), .int .i64 (r.f 3), .int .i64 (r.f 4), .int .i64 (r.f 5), .int .i64 (r.f 6), .int .i64 (r.f 7)] 56)).heap[wr.heap.size]? = some (.cells #[.int .i64 r.s, .int .i64 r.g, .int .i64 r.m, .int .i64 (r.f 0), .int .i64 (r.f 1), .int .i64 (r.f 2), .int .i64 (r.f 3), .int .i64 (r.f 4), .int .i64 (r.f 5), .int .i64 (r.f 6), .int .i64 (r.f 7)] 56)) := Lib.hid (heap_alloc_new _ _)
             have HBA := Lib.hid (nb_alloc hB.out (.cells #[.int .i64 r.s, .int .i64 r.g, .int .i64 r.m, .int .i64 (r.f 0), .int .i64 (r.f 1), .int .i64 (r.f 2), .int .i64 (r.f 3), .int .i64 (r.f 4), .int .i64 (r.f 5), .int .i64 (r.f 6), .int .i64 (r.f 7)] 56))
             have HOA : Hid (OwnsF elRow (wr.alloc (.cells #[.int .i64 r.s, .int .i64 r.g, .int .i64 r.m, .int .i64 (r.f 0), .int .i64 (r.f 1), .int .i64 (r.f 2), .int .i64 (r.f 3), .int .i64 (r.f 4), .int .i64 (r.f 5), .int .i64 (r.f 6), .int .i64 (r.f 7)] 56)) w.heap.size 56 u5 ((rows.take k).filter (fun r => !(isH a b r)))) := Lib.hid (hO.out.later (nb_alloc (Below.refl _ _) _))
             obtain ⟨L, hL⟩ : ∃ L, (rows.take k).filter (fun r => !(isH a b r)) = L := ⟨_, rfl⟩
             rw [hL] at HLN HOA
             have HL := Lib.hid hL
             clear hL hO
             have hAl := (Array.getElem?_eq_some_iff.1 HAR.out).1
             go_wp2_with fail
             generalize wr.alloc (.cells #[.int .i64 r.s, .int .i64 r.g, .int .i64 r.m, .int .i64 (r.f 0), .int .i64 (r.f 1), .int .i64 (r.f 2), .int .i64 (r.f 3), .int .i64 (r.f 4), .int .i64 (r.f 5), .int .i64 (r.f 6), .int .i64 (r.f 7)] 56) = A at *
             clear c0 c1 c2 c3 c4 c5 c6 c7 c8 c9 c10
             refine (zkillLit_any r bx a b _ (by rw [HBA.out.block _ (Array.getElem?_eq_some_iff.1 HBX.out).1]; exact HBX.out)).mono ?_
             rintro e w6 ⟨rfl, hb6⟩
             have hr6 : w6.heap[wr.heap.size]? = some (.cells #[.int .i64 r.s, .int .i64 r.g, .int .i64 r.m, .int .i64 (r.f 0), .int .i64 (r.f 1), .int .i64 (r.f 2), .int .i64 (r.f 3), .int .i64 (r.f 4), .int .i64 (r.f 5), .int .i64 (r.f 6), .int .i64 (r.f 7)] 56) := by rw [hb6.block _ hAl]; exact HAR.out
             have HO6 := Lib.hid (HOA.out.later hb6)
             have HB6 := Lib.hid (nb_trans HBA.out hb6)
             have hr6l := (Array.getElem?_eq_some_iff.1 hr6).1
             have hs6 := HB6.out.size
             obtain ⟨k0, k1, k2, k3, k4, k5, k6, k7, k8, k9, k10⟩ := rCells (r := r) hr6
             clear hb6 hr6
             cases hp : (isH a b r)
             · have HNX : Hid ((rows.take (k + 1)).filter (fun r => !(isH a b r)) = L ++ [r]) := Lib.hid (by rw [HTK.out, filter_snoc_t (show (!(isH a b r)) = true by rw [hp]; rfl), HL.out])
               clear hp
               go_wp2_with (first | (at_builtin; refine wpList_append_own _ rfl _ _ 30 rfl w.heap.size 56 i0 _ 11 88 Tryz.underlying30 hi hz0 hz1 hz2 rfl (by decide) _ L.length (L.flatMap elRow.enc) rfl (World.ownsRow.alloc HO6.out _) ⟨w6.heap.size, 0, none⟩ 1 1 [.int .i64 r.s, .int .i64 r.g, .int .i64 r.m, .int .i64 (r.f 0), .int .i64 (r.f 1), .int .i64 (r.f 2), .int .i64 (r.f 3), .int .i64 (r.f 4), .int .i64 (r.f 5), .int .i64 (r.f 6), .int .i64 (r.f 7)] rfl rfl ?d1 ?d2 ?d3 ?d4 ?d5 ?_))
               case d1 => exact World.news_of_block (heap_alloc_new _ _)
               case d2 => exact elRow.one r
               case d3 => have := HLN.out; unfold maxLen; omega
               case d4 => have := HLN.out; omega
               case d5 => simp; omega
               intro v' w2 hown hgr _
               have HO2 : Hid (OwnsF elRow w2 w.heap.size 56 v' (L ++ [r])) := Lib.hid (OwnsF.snoc (x := r) hown)
               have HB2 : Hid (Below w.heap.size w w2) := Lib.hid ((nb_alloc HB6.out _).grown hgr (by simp; omega) (fun j hj => HO6.out.ge hj))
               clear hown hgr k0 k1 k2 k3 k4 k5 k6 k7 k8 k9 k10
               go_wp2
               go_roundw
               case rel => exact ⟨k + 1, by omega, by go_num, by rw [HNX.out]; exact HO2, HB2⟩
               case measure => simp [intOf]; omega
             · have HNX : Hid ((rows.take (k + 1)).filter (fun r => !(isH a b r)) = L) := Lib.hid (by rw [HTK.out, filter_snoc_f (show (!(isH a b r)) = false by rw [hp]; rfl), HL.out])
               clear hp k0 k1 k2 k3 k4 k5 k6 k7 k8 k9 k10
               go_wp2
               go_roundw
               case rel => exact ⟨k + 1, by omega, by go_num, by rw [HNX.out]; exact HO6, HB6⟩
               case measure => simp [intOf]; omega)
      · obtain rfl : k = n := by omega
        have HALL : Hid (rows.take k = rows) := Lib.hid (by rw [List.take_of_length_le (by rw [HN.out]; exact Nat.le_refl _)])
        rw [HALL.out] at hO
        go_wp2
        go_ret
        exact ⟨_, rfl, hO.out, hB.out⟩
end Go.Proofs.YtlaahlphfkadjaaGreat

/- The contract of Get of the reference's zoo. -/
namespace Go.Proofs.YtlaahlphfkadjaaGreat
open Go.RowKit

end Go.Proofs.YtlaahlphfkadjaaGreat

/- The contracts of Put and Drop of the reference's zoo. -/
namespace Go.Proofs.YtlaahlphfkadjaaGreat
set_option maxRecDepth 8000
open Go.RowKit

def ZPutPost (w : World) (q : Nat) (G : Nat → Prop) (l : List (Int × Bool)) (rows : List Rw) (vB : Value) (a b k n : Int) (e : Ending) (w' : World) : Prop :=
  e = .returned (.int .i64 (putWE rows a b k n)) ∧ ∃ G', ZooAt w' q G' l (putWR rows a b k n) vB ∧ Kept G w w' ∧ Moves w G G'
theorem ZPutPost.no {w w' : World} {q : Nat} {G : Nat → Prop} {l : List (Int × Bool)} {rows : List Rw} {vB : Value} {a b k n : Int} {x : Int} (h : ZooAt w q G l rows vB) (hx : putWE rows a b k n = x) (h0 : x ≠ 0) (hb : Below w.heap.size w w') : ZPutPost w q G l rows vB a b k n (.returned (.int .i64 x)) w' :=
  ⟨by rw [hx], G, by rw [putWR, hx, if_neg h0]; exact h.later hb, Kept.ofBelow hb, Moves.refl _ _⟩

set_option maxHeartbeats 4000000 in
theorem refPut_any (q : Nat) (G : Nat → Prop) (l : List (Int × Bool)) (rows : List Rw) (vB : Value) (a b k n : Int) (w : World) (h : ZooAt w q G l rows vB) (ok : WOk l rows) :
    Calls Tryz.prog 41 #[.pointer (some ⟨q, 0, none⟩), .agg #[.int .i64 a, .int .i64 b], .int .i64 k, .int .i64 n] w (ZPutPost w q G l rows vB a b k n) := by
  have hX : Below w.heap.size w (w.alloc (.cells #[.int .i64 a, .int .i64 b] 43)) := nb_alloc (Below.refl _ _) _
  have HX := Lib.hid hX
  have H0 := Lib.hid h
  have HZ := Lib.hid (h.later hX)
  have HOK := Lib.hid ok
  clear h hX ok
  go_enter Tryz.func41, Tryz.ntmps41
  go_wp2_with fail
  generalize (w.alloc (.cells #[.int .i64 a, .int .i64 b] 43)) = X at *
  refine (refAtI_any q G l rows vB a b _ HZ.out).mono ?_
  rintro e w1 ⟨rfl, hb1⟩
  have HBW := Lib.hid (nb_trans HX.out hb1)
  have HZ1 := Lib.hid (HZ.out.later hb1)
  clear hb1
  cases hh : hasH rows a b
  · have HE : Hid (putWE rows a b k n = 7) := Lib.hid (by rw [putWE, hh]; rfl)
    rw [atI_no hh]
    clear hh
    go_wp2
    go_ret
    exact ZPutPost.no H0.out HE.out (by decide) HBW.out
  · rw [atI_yes hh]
    have ht : atN rows a b < rows.length := of_decide_eq_true hh
    have HAT : Hid (atN rows a b = atN rows a b) := Lib.hid rfl
    have HHH := Lib.hid hh
    obtain ⟨t, htt⟩ : ∃ t, atN rows a b = t := ⟨_, rfl⟩
    rw [htt] at ht ⊢
    have HTT := Lib.hid htt
    have h60 := HOK.out.len60
    have ht0 : (0 : Int) ≤ (t : Int) := by omega
    have htn : ¬ (t : Int) < 0 := by omega
    clear hh htt HAT
    cases hk : inB k 0 7
    · have HE : Hid (putWE rows a b k n = 1) := Lib.hid (by rw [putWE, HHH.out, hk]; rfl)
      have HK := Lib.hid hk
      clear hk
      go_wp2_with fail
      refine (outside_any _ _ _ _).mono ?_
      rintro e w' ⟨rfl, rfl⟩
      rw [HK.out]
      go_wp2
      go_ret
      exact ZPutPost.no H0.out HE.out (by decide) HBW.out
    obtain ⟨j, hj, rfl⟩ : ∃ j : Nat, j < 8 ∧ k = (j : Int) := by have := inB_t hk; exact ⟨k.toNat, by omega, by omega⟩
    have HK := Lib.hid hk
    clear hk
    obtain ⟨r, hr⟩ : ∃ r, rows.getD t rowZ = r := ⟨_, rfl⟩
    have HR := Lib.hid hr
    have hrm := (bErr_zero (HOK.out.rowIs ht hr).ok).1
    obtain ⟨s, hs⟩ : ∃ s : Int, 2 ^ j = s := ⟨_, rfl⟩
    have hs01 := pow_le7 j hj
    rw [hs] at hs01
    have HS := Lib.hid hs
    obtain ⟨hrm0, hrm1⟩ := hrm
    obtain ⟨hs1, hs0⟩ := hs01
    have hj0 : (0 : Int) ≤ (j : Int) := by omega
    have hj8 : (j : Int) < 8 := by omega
    clear hr hs
    cases hn : inB n (-1000000000) 1000000000
    · have HE : Hid (putWE rows a b j n = 1) := Lib.hid (by rw [putWE, HHH.out, HK.out, hn]; rfl)
      have HN := Lib.hid hn
      clear hn
      go_wp2_with fail
      refine (outside_any _ _ _ _).mono ?_
      rintro e w' ⟨rfl, rfl⟩
      rw [HK.out]
      go_wp2_with fail
      refine (outside_any _ _ _ _).mono ?_
      rintro e w' ⟨rfl, rfl⟩
      rw [HN.out]
      go_wp2
      go_ret
      exact ZPutPost.no H0.out HE.out (by decide) HBW.out
    have HE0 : Hid (putWE rows a b j n = 0) := Lib.hid (by rw [putWE, HHH.out, HK.out, hn]; rfl)
    have HN := Lib.hid hn
    clear hn
    go_wp2_with fail
    refine (outside_any _ _ _ _).mono ?_
    rintro e w' ⟨rfl, rfl⟩
    rw [HK.out]
    go_wp2_with fail
    refine (outside_any _ _ _ _).mono ?_
    rintro e w' ⟨rfl, rfl⟩
    rw [HN.out]
    have hz1 := HZ1.out
    obtain ⟨c, vL, hz⟩ := hz1
    have HZI := Lib.hid hz
    have hq2 := hz.slots.cell2.1
    have hqf := hz.slots.cell2.2.2 2
    have hql := hz.lt q hz.at_.1
    clear hz
    go_wp2_with fail
    refine (copyRow_any vL rows _ (show OwnsF elRow w1 0 56 vL rows from HZI.out.own) (by omega)).mono ?_
    rintro e w2 ⟨v2, rfl, ho2, hb2⟩
    have hz2 := HZI.out.later hb2
    have HZ2 := Lib.hid hz2
    have cq2 := hz2.slots.cell2.1
    have fq2 := hz2.slots.cell2.2.2 2
    have hql2 := hz2.lt q hz2.at_.1
    have HB2 := Lib.hid hb2
    obtain ⟨g, cap, rfl, hgB, hgl, hlc, hcm, hfz, hcc⟩ := ho2.at11 (by omega)
    have HO2 := Lib.hid ho2
    have hgq : ¬ g = q := by omega
    have hqg : ¬ q = g := by omega
    have hcr := hcc t ht
    rw [HR.out] at hcr
    have cr : w2.cell? ⟨g, t * 11 + 2, none⟩ = some (.int .i64 r.m) := hcr 2 (by decide)
    have HCV : Hid (w2.cell? ⟨g, t * 11 + 2 + 1 + j, none⟩ = some (.int .i64 (r.f j))) := Lib.hid (by
      have := hcr (3 + j) (by omega)
      rw [show t * 11 + 2 + 1 + j = t * 11 + (3 + j) by omega, this]
      obtain rfl | rfl | rfl | rfl | rfl | rfl | rfl | rfl : j = 0 ∨ j = 1 ∨ j = 2 ∨ j = 3 ∨ j = 4 ∨ j = 5 ∨ j = 6 ∨ j = 7 := by omega
      all_goals rfl)
    have HFZ := Lib.hid hfz
    unfold maxLen at hcm
    have ht1 : (t : Int) < (rows.length : Int) := by omega
    -- the row set in its place
    have HSETM : Hid (∀ (W : World) (m' : Int), OwnsF elRow W w1.heap.size 56 (.slice (some ⟨g, 0, none⟩) rows.length cap) rows → OwnsF elRow ((W.setCell ⟨g, t * 11 + 2, none⟩ (.int .i64 m')).setCell ⟨g, t * 11 + 2 + 1 + j, none⟩ (.int .i64 (n))) w1.heap.size 56 (.slice (some ⟨g, 0, none⟩) rows.length cap) (rows.set t ⟨r.s, r.g, m', upd r.f j (n)⟩)) := Lib.hid (fun W m' hW => by
      have h1 := hW.stored t 2 ⟨r.s, r.g, m', r.f⟩ (.int .i64 m') ht (by decide) (by rw [show elRow.zero = rowZ from rfl, HR.out]; rfl)
      have h2 := h1.stored t (3 + j) ⟨r.s, r.g, m', upd r.f j (n)⟩ (.int .i64 (n)) (by simpa using ht) (show 3 + j < 11 by omega) (by
        rw [show elRow.zero = rowZ from rfl, getD_set_eq _ _ _ _ ht]
        obtain rfl | rfl | rfl | rfl | rfl | rfl | rfl | rfl : j = 0 ∨ j = 1 ∨ j = 2 ∨ j = 3 ∨ j = 4 ∨ j = 5 ∨ j = 6 ∨ j = 7 := by omega
        all_goals rfl)
      rw [List.set_set] at h2
      rw [show t * 11 + 2 + 1 + j = t * elRow.size + (3 + j) by rw [show elRow.size = 11 from rfl]; omega]; exact h2)
    have HSETV : Hid (∀ (W : World), OwnsF elRow W w1.heap.size 56 (.slice (some ⟨g, 0, none⟩) rows.length cap) rows → OwnsF elRow (W.setCell ⟨g, t * 11 + 2 + 1 + j, none⟩ (.int .i64 (n))) w1.heap.size 56 (.slice (some ⟨g, 0, none⟩) rows.length cap) (rows.set t ⟨r.s, r.g, r.m, upd r.f j (n)⟩)) := Lib.hid (fun W hW => by
      have h2 := hW.stored t (3 + j) ⟨r.s, r.g, r.m, upd r.f j (n)⟩ (.int .i64 (n)) ht (show 3 + j < 11 by omega) (by
        rw [show elRow.zero = rowZ from rfl, HR.out]
        obtain rfl | rfl | rfl | rfl | rfl | rfl | rfl | rfl : j = 0 ∨ j = 1 ∨ j = 2 ∨ j = 3 ∨ j = 4 ∨ j = 5 ∨ j = 6 ∨ j = 7 := by omega
        all_goals rfl)
      rw [show t * 11 + 2 + 1 + j = t * elRow.size + (3 + j) by rw [show elRow.size = 11 from rfl]; omega]; exact h2)
    have hks : Kept (fun b => b = q) w2 (w2.setCell ⟨q, 2, none⟩ (.slice (some ⟨g, 0, none⟩) rows.length cap)) := Kept.setCell (F := fun b => b = q) _ (p := ⟨q, 2, none⟩) rfl _
    have HKS := Lib.hid hks
    have HO3 : Hid (OwnsF elRow (w2.setCell ⟨q, 2, none⟩ (.slice (some ⟨g, 0, none⟩) rows.length cap)) w1.heap.size 56 (.slice (some ⟨g, 0, none⟩) rows.length cap) rows) := Lib.hid (ho2.kept hks (fun b e => by simp [Value.ownBlock] at e; omega))
    have HEND : Hid (∀ W rows', Kept (fun b => b = g) (w2.setCell ⟨q, 2, none⟩ (.slice (some ⟨g, 0, none⟩) rows.length cap)) W → OwnsF elRow W w1.heap.size 56 (.slice (some ⟨g, 0, none⟩) rows.length cap) rows' → putWR rows a b j n = rows' → ZPutPost w q G l rows vB a b j n (.returned (.int .i64 0)) W) := Lib.hid (fun W rows' hkW hoW he => by
      have hk1 : Kept (fun b => b = q) w1 W := ((Kept.ofBelow hb2).trans hks (fun _ h => .inl h)).trans hkW (fun b e => .inr (by omega))
      obtain ⟨G', hR, hK, hM⟩ := HZI.out.setL hk1 (fun vg vl hq => by
        rw [hkW.block q (by simp [World.setCell]; exact hql2) hqg, heap_setCell_same _ _ _ _ _ _ ((hb2.block q hql).trans hq)]; rfl) hoW
      exact ⟨by rw [HE0.out], G', by rw [he]; exact hR, (Kept.ofBelow HBW.out).trans hK (fun _ h => .inl h), fun b hb => (hM b hb).imp id (fun h => Nat.le_trans HBW.out.size h)⟩)
    have HQ3 : Hid ((w2.setCell ⟨q, 2, none⟩ (.slice (some ⟨g, 0, none⟩) rows.length cap)).cell? ⟨q, 2, none⟩ = some (.slice (some ⟨g, 0, none⟩) rows.length cap)) := Lib.hid (by
      obtain ⟨vg, vl, hqh, -⟩ := hz2.slots
      rw [cell_of_row _ _ _ _ _ _ (heap_setCell_same _ _ _ _ _ _ hqh)]; rfl)
    clear hz2 ho2 hb2 hcc hcr hks hq2 hqf hfz
    go_wp2_with fail
    refine (refHasKind_any _ _ _ (by omega) (by omega)).mono ?_
    rintro e w' ⟨rfl, rfl⟩
    rw [Int.toNat_natCast]
    have hq3 : (w2.setCell ⟨q, 2, none⟩ (.slice (some ⟨g, 0, none⟩) rows.length cap)).cell? ⟨q, 2, none⟩ = some (.slice (some ⟨g, 0, none⟩) rows.length cap) := HQ3.out
    have cr3 : (w2.setCell ⟨q, 2, none⟩ (.slice (some ⟨g, 0, none⟩) rows.length cap)).cell? ⟨g, t * 11 + 2, none⟩ = some (.int .i64 r.m) := HKS.out.cellS cr hgq
    have cv3 : (w2.setCell ⟨q, 2, none⟩ (.slice (some ⟨g, 0, none⟩) rows.length cap)).cell? ⟨g, t * 11 + 2 + 1 + j, none⟩ = some (.int .i64 (r.f j)) := HKS.out.cellS HCV.out hgq
    have fz3 : ∀ i, (w2.setCell ⟨q, 2, none⟩ (.slice (some ⟨g, 0, none⟩) rows.length cap)).frozen? ⟨g, i, none⟩ = false := fun i => by rw [World.frozen?_of_block (w := w2) (HKS.out.block g hgl hgq)]; exact HFZ.out i
    have hl3 : g < (w2.setCell ⟨q, 2, none⟩ (.slice (some ⟨g, 0, none⟩) rows.length cap)).heap.size := Nat.lt_of_lt_of_le hgl HKS.out.size
    have hlq3 : q < (w2.setCell ⟨q, 2, none⟩ (.slice (some ⟨g, 0, none⟩) rows.length cap)).heap.size := Nat.lt_of_lt_of_le hql2 HKS.out.size
    generalize w2.setCell ⟨q, 2, none⟩ (.slice (some ⟨g, 0, none⟩) rows.length cap) = W at *
    clear cr cq2 fq2 hgl hql2
    cases htb : tb r.m j
    · have HPE : Hid (putWR rows a b j n = rows.set t ⟨r.s, r.g, r.m + s, upd r.f j n⟩) := Lib.hid (by rw [putWR, if_pos HE0.out, HTT.out, HR.out, Int.toNat_natCast, putK, htb, HS.out]; rfl)
      have hfz2 := fz3 (t * 11 + 2)
      have hfzv := fz3 (t * 11 + 2 + 1 + j)
      have HF1 : Hid (ZPutPost w q G l rows vB a b j n (.returned (.int .i64 0)) ((W.drew.setCell ⟨g, t * 11 + 2, none⟩ (.int .i64 (r.m + s))).setCell ⟨g, t * 11 + 2 + 1 + j, none⟩ (.int .i64 (n)))) := Lib.hid (HEND.out _ _ ((((Kept.ofBelow (F := fun b => b = g) (Below.refl _ _).drew).trans (Kept.setCell (F := fun b => b = g) _ (p := ⟨g, t * 11 + 2, none⟩) rfl _) (fun _ h => .inl h))).trans (Kept.setCell (F := fun b => b = g) _ (p := ⟨g, t * 11 + 2 + 1 + j, none⟩) rfl _) (fun _ h => .inl h)) (HSETM.out _ _ (HO3.out.later (Below.refl _ _).drew)) HPE.out)
      have hno : ¬ t * 11 + 2 + 1 + j = t * 11 + 2 := by omega
      have hno2 : ¬ t * 11 + 2 = t * 11 + 2 + 1 + j := by omega
      clear htb
      go_wp2_with fail
      go_region_law (first | (go_simp; go_at_call 73; refine (power_any _ _ (by omega) (by omega)).mono ?_; rintro e w' ⟨rfl, rfl⟩; rw [Int.toNat_natCast, HS.out]))
      all_goals
        go_wp2
        go_ret
        exact HF1.out
    · have HPE : Hid (putWR rows a b j n = rows.set t ⟨r.s, r.g, r.m, upd r.f j n⟩) := Lib.hid (by rw [putWR, if_pos HE0.out, HTT.out, HR.out, Int.toNat_natCast, putK, htb]; rfl)
      have HF1 : Hid (ZPutPost w q G l rows vB a b j n (.returned (.int .i64 0)) (W.setCell ⟨g, t * 11 + 2 + 1 + j, none⟩ (.int .i64 n))) := Lib.hid (HEND.out _ _ (Kept.setCell (F := fun b => b = g) _ (p := ⟨g, t * 11 + 2 + 1 + j, none⟩) rfl _) (HSETV.out _ HO3.out) HPE.out)
      clear htb
      go_wp2
      go_ret
      exact HF1.out

def ZDropPost (w : World) (q : Nat) (G : Nat → Prop) (l : List (Int × Bool)) (rows : List Rw) (vB : Value) (a b k : Int) (e : Ending) (w' : World) : Prop :=
  e = .returned (.int .i64 (dropE rows a b k)) ∧ ∃ G', ZooAt w' q G' l (dropR rows a b k) vB ∧ Kept G w w' ∧ Moves w G G'
theorem ZDropPost.no {w w' : World} {q : Nat} {G : Nat → Prop} {l : List (Int × Bool)} {rows : List Rw} {vB : Value} {a b k : Int} {x : Int} (h : ZooAt w q G l rows vB) (hx : dropE rows a b k = x) (h0 : x ≠ 0) (hb : Below w.heap.size w w') : ZDropPost w q G l rows vB a b k (.returned (.int .i64 x)) w' :=
  ⟨by rw [hx], G, by rw [dropR, hx, if_neg h0]; exact h.later hb, Kept.ofBelow hb, Moves.refl _ _⟩

set_option maxHeartbeats 4000000 in
theorem refDrop_any (q : Nat) (G : Nat → Prop) (l : List (Int × Bool)) (rows : List Rw) (vB : Value) (a b k : Int) (w : World) (h : ZooAt w q G l rows vB) (ok : WOk l rows) :
    Calls Tryz.prog 42 #[.pointer (some ⟨q, 0, none⟩), .agg #[.int .i64 a, .int .i64 b], .int .i64 k] w (ZDropPost w q G l rows vB a b k) := by
  have hX : Below w.heap.size w (w.alloc (.cells #[.int .i64 a, .int .i64 b] 43)) := nb_alloc (Below.refl _ _) _
  have HX := Lib.hid hX
  have H0 := Lib.hid h
  have HZ := Lib.hid (h.later hX)
  have HOK := Lib.hid ok
  clear h hX ok
  go_enter Tryz.func42, Tryz.ntmps42
  go_wp2_with fail
  generalize (w.alloc (.cells #[.int .i64 a, .int .i64 b] 43)) = X at *
  refine (refAtI_any q G l rows vB a b _ HZ.out).mono ?_
  rintro e w1 ⟨rfl, hb1⟩
  have HBW := Lib.hid (nb_trans HX.out hb1)
  have HZ1 := Lib.hid (HZ.out.later hb1)
  clear hb1
  cases hh : hasH rows a b
  · have HE : Hid (dropE rows a b k = 7) := Lib.hid (by rw [dropE, hh]; rfl)
    rw [atI_no hh]
    clear hh
    go_wp2
    go_ret
    exact ZDropPost.no H0.out HE.out (by decide) HBW.out
  · rw [atI_yes hh]
    have ht : atN rows a b < rows.length := of_decide_eq_true hh
    have HAT : Hid (atN rows a b = atN rows a b) := Lib.hid rfl
    have HHH := Lib.hid hh
    obtain ⟨t, htt⟩ : ∃ t, atN rows a b = t := ⟨_, rfl⟩
    rw [htt] at ht ⊢
    have HTT := Lib.hid htt
    have h60 := HOK.out.len60
    have ht0 : (0 : Int) ≤ (t : Int) := by omega
    have htn : ¬ (t : Int) < 0 := by omega
    clear hh htt HAT
    cases hk : inB k 0 7
    · have HE : Hid (dropE rows a b k = 1) := Lib.hid (by rw [dropE, HHH.out, hk]; rfl)
      have HK := Lib.hid hk
      clear hk
      go_wp2_with fail
      refine (outside_any _ _ _ _).mono ?_
      rintro e w' ⟨rfl, rfl⟩
      rw [HK.out]
      go_wp2
      go_ret
      exact ZDropPost.no H0.out HE.out (by decide) HBW.out
    obtain ⟨j, hj, rfl⟩ : ∃ j : Nat, j < 8 ∧ k = (j : Int) := by have := inB_t hk; exact ⟨k.toNat, by omega, by omega⟩
    have HK := Lib.hid hk
    clear hk
    obtain ⟨r, hr⟩ : ∃ r, rows.getD t rowZ = r := ⟨_, rfl⟩
    have HR := Lib.hid hr
    have hrm := (bErr_zero (HOK.out.rowIs ht hr).ok).1
    obtain ⟨s, hs⟩ : ∃ s : Int, 2 ^ j = s := ⟨_, rfl⟩
    have hs01 := pow_le7 j hj
    rw [hs] at hs01
    have HS := Lib.hid hs
    obtain ⟨hrm0, hrm1⟩ := hrm
    obtain ⟨hs1, hs0⟩ := hs01
    have hj0 : (0 : Int) ≤ (j : Int) := by omega
    have hj8 : (j : Int) < 8 := by omega
    clear hr hs
    go_wp2_with fail
    refine (outside_any _ _ _ _).mono ?_
    rintro e w' ⟨rfl, rfl⟩
    rw [HK.out]
    have hz0 := HZ1.out
    obtain ⟨c0, vL0, hz0⟩ := hz0
    have hq20 := hz0.slots.cell2.1
    have hql0 := hz0.lt q hz0.at_.1
    obtain ⟨g0, cap0, rfl, -, hgl0, hlc0, hcm0, -, hcc0⟩ := OwnsF.at11 (B := 0) hz0.own (by omega)
    have cr0 : w1.cell? ⟨g0, t * 11 + 2, none⟩ = some (.int .i64 r.m) := by rw [hcc0 t ht 2 (by decide), HR.out]; rfl
    have ht1 : (t : Int) < (rows.length : Int) := by omega
    unfold maxLen at hcm0
    clear hz0 hcc0
    go_wp2_with fail
    refine (refHasKind_any _ _ _ (by omega) (by omega)).mono ?_
    rintro e w' ⟨rfl, rfl⟩
    rw [Int.toNat_natCast]
    clear cr0 hq20 hlc0 hcm0 ht1 hql0 hgl0
    cases htb : tb r.m j
    · have HE : Hid (dropE rows a b j = 5) := Lib.hid (by rw [dropE, HHH.out, HK.out, HTT.out, HR.out, Int.toNat_natCast, htb]; rfl)
      clear htb
      go_wp2
      go_ret
      exact ZDropPost.no H0.out HE.out (by decide) HBW.out
    have HE0 : Hid (dropE rows a b j = 0) := Lib.hid (by rw [dropE, HHH.out, HK.out, HTT.out, HR.out, Int.toNat_natCast, htb]; rfl)
    have HTB := Lib.hid htb
    have hsr : s ≤ r.m := by
      have := (bit_out r.m j hrm0 hrm1 hj htb).1.1
      rw [HS.out] at this; omega
    clear htb
    have hz1 := HZ1.out
    obtain ⟨c, vL, hz⟩ := hz1
    have HZI := Lib.hid hz
    have hq2 := hz.slots.cell2.1
    have hqf := hz.slots.cell2.2.2 2
    have hql := hz.lt q hz.at_.1
    clear hz
    go_wp2_with fail
    refine (copyRow_any vL rows _ (show OwnsF elRow w1 0 56 vL rows from HZI.out.own) (by omega)).mono ?_
    rintro e w2 ⟨v2, rfl, ho2, hb2⟩
    have hz2 := HZI.out.later hb2
    have HZ2 := Lib.hid hz2
    have cq2 := hz2.slots.cell2.1
    have fq2 := hz2.slots.cell2.2.2 2
    have hql2 := hz2.lt q hz2.at_.1
    have HB2 := Lib.hid hb2
    obtain ⟨g, cap, rfl, hgB, hgl, hlc, hcm, hfz, hcc⟩ := ho2.at11 (by omega)
    have HO2 := Lib.hid ho2
    have hgq : ¬ g = q := by omega
    have hqg : ¬ q = g := by omega
    have hcr := hcc t ht
    rw [HR.out] at hcr
    have cr : w2.cell? ⟨g, t * 11 + 2, none⟩ = some (.int .i64 r.m) := hcr 2 (by decide)
    have HCV : Hid (w2.cell? ⟨g, t * 11 + 2 + 1 + j, none⟩ = some (.int .i64 (r.f j))) := Lib.hid (by
      have := hcr (3 + j) (by omega)
      rw [show t * 11 + 2 + 1 + j = t * 11 + (3 + j) by omega, this]
      obtain rfl | rfl | rfl | rfl | rfl | rfl | rfl | rfl : j = 0 ∨ j = 1 ∨ j = 2 ∨ j = 3 ∨ j = 4 ∨ j = 5 ∨ j = 6 ∨ j = 7 := by omega
      all_goals rfl)
    have HFZ := Lib.hid hfz
    unfold maxLen at hcm
    have ht1 : (t : Int) < (rows.length : Int) := by omega
    -- the row set in its place
    have HSETM : Hid (∀ (W : World) (m' : Int), OwnsF elRow W w1.heap.size 56 (.slice (some ⟨g, 0, none⟩) rows.length cap) rows → OwnsF elRow ((W.setCell ⟨g, t * 11 + 2, none⟩ (.int .i64 m')).setCell ⟨g, t * 11 + 2 + 1 + j, none⟩ (.int .i64 (0))) w1.heap.size 56 (.slice (some ⟨g, 0, none⟩) rows.length cap) (rows.set t ⟨r.s, r.g, m', upd r.f j (0)⟩)) := Lib.hid (fun W m' hW => by
      have h1 := hW.stored t 2 ⟨r.s, r.g, m', r.f⟩ (.int .i64 m') ht (by decide) (by rw [show elRow.zero = rowZ from rfl, HR.out]; rfl)
      have h2 := h1.stored t (3 + j) ⟨r.s, r.g, m', upd r.f j (0)⟩ (.int .i64 (0)) (by simpa using ht) (show 3 + j < 11 by omega) (by
        rw [show elRow.zero = rowZ from rfl, getD_set_eq _ _ _ _ ht]
        obtain rfl | rfl | rfl | rfl | rfl | rfl | rfl | rfl : j = 0 ∨ j = 1 ∨ j = 2 ∨ j = 3 ∨ j = 4 ∨ j = 5 ∨ j = 6 ∨ j = 7 := by omega
        all_goals rfl)
      rw [List.set_set] at h2
      rw [show t * 11 + 2 + 1 + j = t * elRow.size + (3 + j) by rw [show elRow.size = 11 from rfl]; omega]; exact h2)
    have HSETV : Hid (∀ (W : World), OwnsF elRow W w1.heap.size 56 (.slice (some ⟨g, 0, none⟩) rows.length cap) rows → OwnsF elRow (W.setCell ⟨g, t * 11 + 2 + 1 + j, none⟩ (.int .i64 (0))) w1.heap.size 56 (.slice (some ⟨g, 0, none⟩) rows.length cap) (rows.set t ⟨r.s, r.g, r.m, upd r.f j (0)⟩)) := Lib.hid (fun W hW => by
      have h2 := hW.stored t (3 + j) ⟨r.s, r.g, r.m, upd r.f j (0)⟩ (.int .i64 (0)) ht (show 3 + j < 11 by omega) (by
        rw [show elRow.zero = rowZ from rfl, HR.out]
        obtain rfl | rfl | rfl | rfl | rfl | rfl | rfl | rfl : j = 0 ∨ j = 1 ∨ j = 2 ∨ j = 3 ∨ j = 4 ∨ j = 5 ∨ j = 6 ∨ j = 7 := by omega
        all_goals rfl)
      rw [show t * 11 + 2 + 1 + j = t * elRow.size + (3 + j) by rw [show elRow.size = 11 from rfl]; omega]; exact h2)
    have hks : Kept (fun b => b = q) w2 (w2.setCell ⟨q, 2, none⟩ (.slice (some ⟨g, 0, none⟩) rows.length cap)) := Kept.setCell (F := fun b => b = q) _ (p := ⟨q, 2, none⟩) rfl _
    have HKS := Lib.hid hks
    have HO3 : Hid (OwnsF elRow (w2.setCell ⟨q, 2, none⟩ (.slice (some ⟨g, 0, none⟩) rows.length cap)) w1.heap.size 56 (.slice (some ⟨g, 0, none⟩) rows.length cap) rows) := Lib.hid (ho2.kept hks (fun b e => by simp [Value.ownBlock] at e; omega))
    have HEND : Hid (∀ W rows', Kept (fun b => b = g) (w2.setCell ⟨q, 2, none⟩ (.slice (some ⟨g, 0, none⟩) rows.length cap)) W → OwnsF elRow W w1.heap.size 56 (.slice (some ⟨g, 0, none⟩) rows.length cap) rows' → dropR rows a b j = rows' → ZDropPost w q G l rows vB a b j (.returned (.int .i64 0)) W) := Lib.hid (fun W rows' hkW hoW he => by
      have hk1 : Kept (fun b => b = q) w1 W := ((Kept.ofBelow hb2).trans hks (fun _ h => .inl h)).trans hkW (fun b e => .inr (by omega))
      obtain ⟨G', hR, hK, hM⟩ := HZI.out.setL hk1 (fun vg vl hq => by
        rw [hkW.block q (by simp [World.setCell]; exact hql2) hqg, heap_setCell_same _ _ _ _ _ _ ((hb2.block q hql).trans hq)]; rfl) hoW
      exact ⟨by rw [HE0.out], G', by rw [he]; exact hR, (Kept.ofBelow HBW.out).trans hK (fun _ h => .inl h), fun b hb => (hM b hb).imp id (fun h => Nat.le_trans HBW.out.size h)⟩)
    have HQ3 : Hid ((w2.setCell ⟨q, 2, none⟩ (.slice (some ⟨g, 0, none⟩) rows.length cap)).cell? ⟨q, 2, none⟩ = some (.slice (some ⟨g, 0, none⟩) rows.length cap)) := Lib.hid (by
      obtain ⟨vg, vl, hqh, -⟩ := hz2.slots
      rw [cell_of_row _ _ _ _ _ _ (heap_setCell_same _ _ _ _ _ _ hqh)]; rfl)
    clear hz2 ho2 hb2 hcc hcr hks hq2 hqf hfz
    have hq3 : (w2.setCell ⟨q, 2, none⟩ (.slice (some ⟨g, 0, none⟩) rows.length cap)).cell? ⟨q, 2, none⟩ = some (.slice (some ⟨g, 0, none⟩) rows.length cap) := HQ3.out
    have cr3 : (w2.setCell ⟨q, 2, none⟩ (.slice (some ⟨g, 0, none⟩) rows.length cap)).cell? ⟨g, t * 11 + 2, none⟩ = some (.int .i64 r.m) := HKS.out.cellS cr hgq
    have cv3 : (w2.setCell ⟨q, 2, none⟩ (.slice (some ⟨g, 0, none⟩) rows.length cap)).cell? ⟨g, t * 11 + 2 + 1 + j, none⟩ = some (.int .i64 (r.f j)) := HKS.out.cellS HCV.out hgq
    have fz3 : ∀ i, (w2.setCell ⟨q, 2, none⟩ (.slice (some ⟨g, 0, none⟩) rows.length cap)).frozen? ⟨g, i, none⟩ = false := fun i => by rw [World.frozen?_of_block (w := w2) (HKS.out.block g hgl hgq)]; exact HFZ.out i
    have hl3 : g < (w2.setCell ⟨q, 2, none⟩ (.slice (some ⟨g, 0, none⟩) rows.length cap)).heap.size := Nat.lt_of_lt_of_le hgl HKS.out.size
    have hlq3 : q < (w2.setCell ⟨q, 2, none⟩ (.slice (some ⟨g, 0, none⟩) rows.length cap)).heap.size := Nat.lt_of_lt_of_le hql2 HKS.out.size
    go_wp2_with fail
    generalize w2.setCell ⟨q, 2, none⟩ (.slice (some ⟨g, 0, none⟩) rows.length cap) = W at *
    clear cr cq2 fq2 hgl hql2
    have HPE : Hid (dropR rows a b j = rows.set t ⟨r.s, r.g, r.m - s, upd r.f j 0⟩) := Lib.hid (by rw [dropR, if_pos HE0.out, HTT.out, HR.out, Int.toNat_natCast, dropK, HS.out])
    have hfz2 := fz3 (t * 11 + 2)
    have hfzv := fz3 (t * 11 + 2 + 1 + j)
    have HF1 : Hid (ZDropPost w q G l rows vB a b j (.returned (.int .i64 0)) ((W.drew.setCell ⟨g, t * 11 + 2, none⟩ (.int .i64 (r.m - s))).setCell ⟨g, t * 11 + 2 + 1 + j, none⟩ (.int .i64 (0)))) := Lib.hid (HEND.out _ _ ((((Kept.ofBelow (F := fun b => b = g) (Below.refl _ _).drew).trans (Kept.setCell (F := fun b => b = g) _ (p := ⟨g, t * 11 + 2, none⟩) rfl _) (fun _ h => .inl h))).trans (Kept.setCell (F := fun b => b = g) _ (p := ⟨g, t * 11 + 2 + 1 + j, none⟩) rfl _) (fun _ h => .inl h)) (HSETM.out _ _ (HO3.out.later (Below.refl _ _).drew)) HPE.out)
    have hno : ¬ t * 11 + 2 + 1 + j = t * 11 + 2 := by omega
    have hno2 : ¬ t * 11 + 2 = t * 11 + 2 + 1 + j := by omega
    go_region_law (first | (go_simp; go_at_call 73; refine (power_any _ _ (by omega) (by omega)).mono ?_; rintro e w' ⟨rfl, rfl⟩; rw [Int.toNat_natCast, HS.out]))
    all_goals
      go_wp2
      go_ret
      exact HF1.out
end Go.Proofs.YtlaahlphfkadjaaGreat

/- The contracts of Rows and Kill of the reference's zoo. -/
namespace Go.Proofs.YtlaahlphfkadjaaGreat
set_option maxRecDepth 8000
open Go.RowKit

def ZKillPost (w : World) (q : Nat) (G : Nat → Prop) (l : List (Int × Bool)) (rows : List Rw) (vB : Value) (a b : Int) (e : Ending) (w' : World) : Prop :=
  e = .returned (.int .i64 (killE rows a b)) ∧ ∃ G', ZooAt w' q G' (freeL l a b) (killR rows a b) vB ∧ Kept G w w' ∧ Moves w G G'
set_option maxHeartbeats 4000000 in
theorem refKill_any (q : Nat) (G : Nat → Prop) (l : List (Int × Bool)) (rows : List Rw) (vB : Value) (a b : Int) (w : World) (h : ZooAt w q G l rows vB) (ok : WOk l rows) :
    Calls Tryz.prog 47 #[.pointer (some ⟨q, 0, none⟩), .agg #[.int .i64 a, .int .i64 b]] w (ZKillPost w q G l rows vB a b) := by
  have hX : Below w.heap.size w (w.alloc (.cells #[.int .i64 a, .int .i64 b] 43)) := nb_alloc (Below.refl _ _) _
  have HX := Lib.hid hX
  have HXB : Hid ((w.alloc (.cells #[.int .i64 a, .int .i64 b] 43)).heap[w.heap.size]? = some (.cells #[.int .i64 a, .int .i64 b] 43)) := Lib.hid (heap_alloc_new _ _)
  have H0 := Lib.hid h
  have HZ := Lib.hid (h.later hX)
  have HOK := Lib.hid ok
  have HLT := Lib.hid h.lt
  clear h hX ok
  go_enter Tryz.func47, Tryz.ntmps47
  go_wp2_with fail
  generalize (w.alloc (.cells #[.int .i64 a, .int .i64 b] 43)) = X at *
  refine (refAtI_any q G l rows vB a b _ HZ.out).mono ?_
  rintro e w1 ⟨rfl, hb1⟩
  have HBW := Lib.hid (nb_trans HX.out hb1)
  have HXB1 : Hid (w1.heap[w.heap.size]? = some (.cells #[.int .i64 a, .int .i64 b] 43)) := Lib.hid (by rw [hb1.block _ (Array.getElem?_eq_some_iff.1 HXB.out).1]; exact HXB.out)
  obtain ⟨c, vL, hz1⟩ := HZ.out.later hb1
  have HZ1 := Lib.hid hz1
  have hq2 := hz1.slots.cell2.1
  have hql := hz1.lt q hz1.at_.1
  clear hb1 hz1
  cases hh : hasH rows a b
  · have HE : Hid (killE rows a b = 7 ∧ freeL l a b = l ∧ killR rows a b = rows) := Lib.hid ⟨by rw [killE, hh]; rfl, by rw [freeL, ← HOK.out.has, hh]; rfl, by
      rw [killR, List.filter_eq_self]
      intro r hr
      cases hi : isH a b r
      · rfl
      · have := hasH_iff.2 ⟨r, hr, isH_iff.1 hi⟩
        rw [hh] at this; cases this⟩
    rw [atI_no hh]
    clear hh hq2
    go_wp2
    go_ret
    exact ⟨by rw [HE.out.1]; rfl, G, by rw [HE.out.2.1, HE.out.2.2]; exact H0.out.later HBW.out, Kept.ofBelow HBW.out, Moves.refl _ _⟩
  · have HE : Hid (killE rows a b = 0 ∧ freeE l a b = 0) := Lib.hid ⟨by rw [killE, hh]; rfl, by rw [freeE, ← HOK.out.has, hh]; rfl⟩
    rw [atI_yes hh]
    have htn : ¬ ((atN rows a b : Nat) : Int) < 0 := by omega
    generalize atN rows a b = t at *
    clear hh
    go_wp2_with fail
    refine (withoutKill_any vL rows w.heap.size a b _ HZ1.out.own.reads HOK.out.len60 HXB1.out).mono ?_
    rintro e w2 ⟨v2, rfl, ho2, hb2⟩
    obtain ⟨av, n2, cv, rfl⟩ : ∃ av n2 cv, v2 = .slice av n2 cv := by
      obtain ⟨a1, c1, e1, -⟩ := ho2.reads
      exact ⟨_, _, _, e1⟩
    have hz2 := HZ1.out.later hb2
    have cq2 := hz2.slots.cell2.1
    have fq2 := hz2.slots.cell2.2.2 2
    have hql2 := hz2.lt q hz2.at_.1
    have hnq : ¬ w.heap.size = q := by have := HLT.out q H0.out.at_; omega
    have hks : Kept (fun b => b = q) w2 (w2.setCell ⟨q, 2, none⟩ (.slice av n2 cv)) := Kept.setCell (F := fun b => b = q) _ (p := ⟨q, 2, none⟩) rfl _
    have hk1 : Kept (fun b => b = q) w1 (w2.setCell ⟨q, 2, none⟩ (.slice av n2 cv)) := (Kept.ofBelow hb2).trans hks (fun _ h => .inl h)
    obtain ⟨G3, hz3, hK3, hM3⟩ := HZ1.out.setL (v' := .slice av n2 cv) (rows' := killR rows a b) hk1 (fun vg vl hq => by rw [heap_setCell_same _ _ _ _ _ _ ((hb2.block q hql).trans hq)]; rfl) (ho2.kept hks (fun k e e2 => by have := ho2.ge e; have := HZ1.out.lt q HZ1.out.at_.1; omega))
    have HZ3 := Lib.hid hz3
    have HK3 := Lib.hid hK3
    have HM3 := Lib.hid hM3
    have hx3 : (w2.setCell ⟨q, 2, none⟩ (.slice av n2 cv)).heap[w.heap.size]? = some (.cells #[.int .i64 a, .int .i64 b] 43) := by
      rw [hk1.block _ (Array.getElem?_eq_some_iff.1 HXB1.out).1 hnq]; exact HXB1.out
    have hx3l := (Array.getElem?_eq_some_iff.1 hx3).1
    have kx0 : (w2.setCell ⟨q, 2, none⟩ (.slice av n2 cv)).cell? ⟨w.heap.size, 0, none⟩ = some (.int .i64 a) := by rw [cell_of_row _ _ _ _ _ _ hx3]; rfl
    have kx1 : (w2.setCell ⟨q, 2, none⟩ (.slice av n2 cv)).cell? ⟨w.heap.size, 1, none⟩ = some (.int .i64 b) := by rw [cell_of_row _ _ _ _ _ _ hx3]; rfl
    have hql3 : q < (w2.setCell ⟨q, 2, none⟩ (.slice av n2 cv)).heap.size := hz3.lt q hz3.at_
    clear ho2 hb2 hz2 hks hk1 hz3 hK3 hM3 hq2 hx3
    go_wp2_with fail
    generalize w2.setCell ⟨q, 2, none⟩ (.slice av n2 cv) = W at *
    clear cq2 fq2
    go_still_tail 4, (by kernel_rfl)
    change wpList _ _ _ _ _ W.drew
    obtain ⟨c4, vL4, hz4⟩ := HZ3.out.later (Below.refl _ _).drew
    have HZ4 := Lib.hid hz4
    clear hz4
    go_wp2_with fail
    refine (refFree_any q _ _ _ l a b _ HZ4.out.slots HOK.out.slots).mono ?_
    rintro e w5 ⟨rfl, hr5, hk5⟩
    rw [HE.out.2]
    have HEND : Hid (ZKillPost w q G l rows vB a b (.returned (.int .i64 0)) w5) := Lib.hid (by
      obtain ⟨G5, hz5, hK5, hM5⟩ := HZ4.out.slotStep hr5 hk5 (Moves.refl _ _)
      have hs1 := HBW.out.size
      have hs3 := HK3.out.size
      refine ⟨by rw [HE.out.1], G5, hz5, ((Kept.ofBelow HBW.out).trans HK3.out (fun _ h => .inl h)).trans ((Kept.ofBelow (F := G3) (Below.refl _ _).drew).trans hK5 (fun _ h => .inl h)) (fun b hb => ?_), fun b hb => ?_⟩
      · exact (HM3.out b hb).imp id (fun h => by omega)
      · rcases hM5 b hb with h | h
        · exact (HM3.out b h).imp id (fun h => by omega)
        · exact .inr (by have : W.drew.heap.size = W.heap.size := rfl; omega))
    clear hr5 hk5
    go_wp2
    go_ret
    exact HEND.out
end Go.Proofs.YtlaahlphfkadjaaGreat

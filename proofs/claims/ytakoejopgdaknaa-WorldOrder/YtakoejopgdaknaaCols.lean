/- Columns of a table in memory: add, remove, list, for ints and for handles. -/
import Derived.Test.YtakoejopgdaknaaEls
import Derived.Test.YtakoejopgdaknaaLater
import Derived.StillTailTactics
import Derived.IntWalk
import Derived.Deep.RegionLaw
import Derived.Deep.OwnRows
namespace Go.Proofs.Ytakoejopgdaknaa
set_option maxRecDepth 8000
open Go.RowKit

/-- Cell off of block b holds a slice of the call's own, which reads as xs. -/
structure ColIs {α : Type} (E : El α) (T : TypeId) (w : World) (b off : Nat) (cur : Array Value) (TT : TypeId) (v : Value) (xs : List α) : Prop where
  heap : w.heap[b]? = some (.cells cur TT (0, 0))
  at_ : cur[off]? = some v
  own : OwnsF E w 0 T v xs
  ne : ∀ k, v.ownBlock = some k → k ≠ b
theorem ColIs.lt {α : Type} {E : El α} {T TT : TypeId} {w : World} {b off : Nat} {cur : Array Value} {v : Value} {xs : List α} (h : ColIs E T w b off cur TT v xs) : b < w.heap.size := (Array.getElem?_eq_some_iff.1 h.heap).1
theorem ColIs.cell {α : Type} {E : El α} {T TT : TypeId} {w : World} {b off : Nat} {cur : Array Value} {v : Value} {xs : List α} (h : ColIs E T w b off cur TT v xs) : w.cell? ⟨b, off, none⟩ = some v := by rw [cell_of_row _ _ _ _ _ _ h.heap]; exact h.at_
theorem ColIs.frz {α : Type} {E : El α} {T TT : TypeId} {w : World} {b off : Nat} {cur : Array Value} {v : Value} {xs : List α} (h : ColIs E T w b off cur TT v xs) (j : Nat) : w.frozen? ⟨b, j, none⟩ = false := frozen_of_row _ _ _ _ _ h.heap
theorem ColIs.kept {α : Type} {E : El α} {T TT : TypeId} {w w' : World} {b off : Nat} {cur : Array Value} {v : Value} {xs : List α} {F : Nat → Prop} (h : ColIs E T w b off cur TT v xs) (hk : Kept F w w') (hb : ¬ F b) (hv : ∀ k, v.ownBlock = some k → ¬ F k) : ColIs E T w' b off cur TT v xs :=
  ⟨by rw [hk.block b h.lt hb]; exact h.heap, h.at_, h.own.kept hk hv, h.ne⟩
theorem ColIs.later {α : Type} {E : El α} {T TT : TypeId} {w w' : World} {b off : Nat} {cur : Array Value} {v : Value} {xs : List α} (h : ColIs E T w b off cur TT v xs) (hb : Below w.heap.size w w') : ColIs E T w' b off cur TT v xs :=
  h.kept (F := fun _ => False) (Kept.ofBelow hb) id (fun _ _ => id)

/-- What a call that turns a column leaves. -/
def ColPost {α : Type} (E : El α) (T : TypeId) (w : World) (b off : Nat) (cur : Array Value) (TT : TypeId) (v : Value) (ys : List α) (w' : World) : Prop :=
  ∃ v', ColIs E T w' b off (cur.setIfInBounds off v') TT v' ys ∧ Kept (fun k => k = b ∨ v.ownBlock = some k) w w' ∧ ∀ k, v'.ownBlock = some k → v.ownBlock = some k ∨ w.heap.size ≤ k

/-- An append has been written back. -/
theorem col_grown {α : Type} {E : El α} {T TT : TypeId} {w w2 : World} {b off g cap n : Nat} {cur : Array Value} {v : Value} {xs : List α} {x : α} (h : ColIs E T w b off cur TT v xs) (hn : xs.length = n) (hg : Grew w w2 v g) (ho : w2.ownsRow 0 T E.size (.slice (some ⟨g, 0, none⟩) (n + 1) cap) (n + 1) (xs.flatMap E.enc ++ E.enc x)) :
    ColPost E T w b off cur TT v (xs ++ [x]) (w2.setCell ⟨b, off, none⟩ (.slice (some ⟨g, 0, none⟩) (n + 1) cap)) := by
  subst hn
  have hgb : g ≠ b := by
    rcases hg.at_ with e | e
    · exact h.ne g e
    · have := h.lt; omega
  have hoff : off < cur.size := (Array.getElem?_eq_some_iff.1 h.at_).1
  have hb2 : w2.heap[b]? = some (.cells cur TT (0, 0)) := by rw [hg.far b h.lt (fun e => h.ne b e rfl)]; exact h.heap
  refine ⟨.slice (some ⟨g, 0, none⟩) (xs.length + 1) cap, ⟨heap_setCell_same _ _ _ _ _ _ hb2, by simp [hoff], ?_, fun k hk => by simp [Value.ownBlock] at hk; omega⟩, ?_, fun k hk => ?_⟩
  · exact (OwnsF.snoc ho).kept (F := fun k => k = b) (Kept.setCell (F := fun k => k = b) _ (p := ⟨b, off, none⟩) rfl _) (fun k hk => by simp [Value.ownBlock] at hk; omega)
  · exact (hg.kept (F := fun k => k = b ∨ v.ownBlock = some k) (fun k hk => .inr hk)).trans (Kept.setCell (F := fun k => k = b) _ (p := ⟨b, off, none⟩) rfl _) (fun k hk => .inl (.inl hk))
  · simp [Value.ownBlock] at hk; subst hk; exact hg.at_

theorem getLast_getD {α : Type} (xs : List α) (d : α) (h : xs ≠ []) : xs.getD (xs.length - 1) d = xs.getLast h := by
  rw [List.getD_eq_getElem?_getD, List.getElem?_eq_getElem (by have := List.length_pos_iff.2 h; omega), List.getLast_eq_getElem]; rfl
/-- what is left when element i is removed: the last one takes its place -/
def rmL {α : Type} (xs : List α) (i : Nat) (d : α) : List α := (xs.set i (xs.getD (xs.length - 1) d)).dropLast
theorem rmL_len {α : Type} (xs : List α) (i : Nat) (d : α) : (rmL xs i d).length = xs.length - 1 := by simp [rmL]
theorem rmL_map {α β : Type} (f : α → β) (xs : List α) (i : Nat) (d : α) (d' : β) (h : xs ≠ []) : rmL (xs.map f) i d' = (rmL xs i d).map f := by
  unfold rmL
  rw [List.map_dropLast, List.map_set, List.length_map]
  congr 2
  rw [List.getD_eq_getElem?_getD, List.getElem?_map, List.getD_eq_getElem?_getD, List.getElem?_eq_getElem (by have := List.length_pos_iff.2 h; omega)]
  rfl

/-- The last element is cut off. -/
theorem OwnsF.cut {α : Type} {E : El α} {w : World} {B : Nat} {T : TypeId} {g n cap : Nat} {xs : List α} (h : OwnsF E w B T (.slice (some ⟨g, 0, none⟩) n cap) xs) : OwnsF E w B T (.slice (some ⟨g, 0, none⟩) (n - 1) cap) xs.dropLast := by
  refine ⟨by rw [length_enc], ?_⟩
  rcases h.2 with ⟨e, _⟩ | ⟨g', cap', cur, e, hb, hh, hn, hc, hs, ht⟩
  · cases e
  · simp only [Value.slice.injEq, Option.some.injEq, Addr.mk.injEq, and_true] at e
    obtain ⟨rfl, rfl, rfl⟩ := e
    refine .inr ⟨g, cap, cur, by simp, hb, hh, by simp; omega, hc, hs, ?_⟩
    have e1 : cur.toList.take (xs.dropLast.length * E.size) = (cur.toList.take (xs.length * E.size)).take (xs.dropLast.length * E.size) := by
      rw [List.take_take, Nat.min_eq_left (Nat.mul_le_mul_right _ (by simp))]
    rw [e1, ht]
    rcases List.eq_nil_or_concat xs with rfl | ⟨ys, y, rfl⟩
    · simp
    · rw [List.concat_eq_append, List.dropLast_concat, List.flatMap_append, List.take_append_of_le_length (by rw [length_enc]; exact Nat.le_refl _), List.take_of_length_le (by rw [length_enc]; exact Nat.le_refl _)]

/-- An element has been overwritten by the last one, and the slice cut. -/
theorem col_cut {α : Type} {E : El α} {T TT : TypeId} {w w2 : World} {b off g cap n : Nat} {cur : Array Value} {xs ys : List α} (h : ColIs E T w b off cur TT (.slice (some ⟨g, 0, none⟩) n cap) xs) (hk : Kept (fun k => k = g) w w2) (ho : OwnsF E w2 0 T (.slice (some ⟨g, 0, none⟩) n cap) ys) :
    ColPost E T w b off cur TT (.slice (some ⟨g, 0, none⟩) n cap) ys.dropLast (w2.setCell ⟨b, off, none⟩ (.slice (some ⟨g, 0, none⟩) (n - 1) cap)) := by
  have hgb : g ≠ b := h.ne g rfl
  have hoff : off < cur.size := (Array.getElem?_eq_some_iff.1 h.at_).1
  have hb2 : w2.heap[b]? = some (.cells cur TT (0, 0)) := by rw [hk.block b h.lt (Ne.symm hgb)]; exact h.heap
  refine ⟨.slice (some ⟨g, 0, none⟩) (n - 1) cap, ⟨heap_setCell_same _ _ _ _ _ _ hb2, by simp [hoff], ?_, fun k hk => by simp [Value.ownBlock] at hk; omega⟩, ?_, fun k hk => .inl hk⟩
  · exact ho.cut.kept (F := fun k => k = b) (Kept.setCell (F := fun k => k = b) _ (p := ⟨b, off, none⟩) rfl _) (fun k hk => by simp [Value.ownBlock] at hk; omega)
  · exact (hk.mono (G := fun k => k = b ∨ (Value.slice (some ⟨g, 0, none⟩) n cap).ownBlock = some k) (fun k e => .inl (.inr (by rw [e]; rfl)))).trans (Kept.setCell (F := fun k => k = b) _ (p := ⟨b, off, none⟩) rfl _) (fun k hk => .inl (.inl hk))

set_option maxHeartbeats 1000000 in
theorem colAdd_any {b : Nat} {cur : Array Value} {TT : TypeId} {v : Value} {xs : List Int} (off : Nat) (z : Int) (w : World) (h : ColIs elInt 3 w b off cur TT v xs) (hl : (xs.length + 1) * 8 ≤ 140737488355328) :
    Calls Try.prog 101 #[.pointer (some ⟨b, off, none⟩), .int .i64 z] w fun e w' => e = .returned (.tuple #[]) ∧ ColPost elInt 3 w b off cur TT v (xs ++ [z]) w' := by
  obtain ⟨i0, hi, hz0, hz1, hz2⟩ := info_parts infoInt
  have H := Lib.hid h
  have cp := h.cell
  have fp := h.frz off
  have HO := Lib.hid h.own
  obtain ⟨a, cap, rfl, _, _, _⟩ := h.own.reads
  have hne := h.ne
  have hlt := h.lt
  clear h
  have HL := Lib.hid hl
  go_enter Try.func101, Try.ntmps101
  go_wp2_with (first | (at_builtin; refine wpList_append_lies _ rfl _ _ 26 rfl 0 3 i0 (.int .i64 0) 1 8 Try.underlying26 hi hz0 hz1 hz2 rfl (by decide) _ _ _ rfl (World.ownsRow.alloc HO.out _) ⟨w.heap.size, 0, none⟩ 1 1 [.int .i64 z] rfl rfl ?c1 ?c2 (by decide) ?c3 ?c4 (Nat.zero_le _) _ rfl ?_))
  case c1 => exact World.news_of_block (heap_alloc_new w _)
  case c2 => intro u hu; simp at hu; subst hu; rfl
  case c3 => have := HL.out; unfold maxLen; omega
  case c4 => exact HL.out
  intro g cap' w2 hown hgr hat hg2
  have hG : Grew w w2 (.slice a xs.length cap) g := Grew.of (nb_alloc (Below.refl _ _) _) hgr (by simpa using hat) hg2
  have HD := Lib.hid (col_grown (E := elInt) (x := z) H.out rfl hG hown)
  have cp2 : w2.cell? ⟨b, off, none⟩ = some (.slice a xs.length cap) := by rw [World.cell?_of_block (a := ⟨b, off, none⟩) (hG.far b hlt (fun e => hne b e rfl))]; exact cp
  have fp2 : w2.frozen? ⟨b, off, none⟩ = false := by rw [World.frozen?_of_block (a := ⟨b, off, none⟩) (hG.far b hlt (fun e => hne b e rfl))]; exact fp
  have hb2 : b < w2.heap.size := Nat.lt_of_lt_of_le hlt hG.size
  clear hown hgr hat hG hne
  go_wp2
  go_end0
  exact ⟨rfl, HD.out⟩

set_option maxHeartbeats 2000000 in
theorem hcolAdd_any {b : Nat} {cur : Array Value} {TT : TypeId} {v : Value} {xs : List (Int × Int)} (off : Nat) (x y : Int) (w : World) (h : ColIs elHand 38 w b off cur TT v xs) (hl : (xs.length + 1) * 16 ≤ 140737488355328) :
    Calls Try.prog 100 #[.pointer (some ⟨b, off, none⟩), .agg #[.int .i64 x, .int .i64 y]] w fun e w' => e = .returned (.tuple #[]) ∧ ColPost elHand 38 w b off cur TT v (xs ++ [(x, y)]) w' := by
  obtain ⟨i0, hi, hz0, hz1, hz2⟩ := info_parts infoHand
  have H := Lib.hid h
  have cp := h.cell
  have fp := h.frz off
  have HO := Lib.hid h.own
  obtain ⟨a, cap, rfl, _, _, _⟩ := h.own.reads
  have HNE := Lib.hid h.ne
  have hlt := h.lt
  clear h
  have HL := Lib.hid hl
  have HL2 : Hid (xs.length + 1 ≤ maxLen) := Lib.hid (by unfold maxLen; omega)
  go_enter Try.func100, Try.ntmps100
  go_wp2_with fail
  have HB0 : Hid (Below w.heap.size w (w.alloc (.cells #[.int .i64 x, .int .i64 y] 38))) := Lib.hid (nb_alloc (Below.refl _ _) _)
  have HOA : Hid (∀ X, Below w.heap.size w X → X.ownsRow 0 38 2 (.slice a xs.length cap) xs.length (xs.flatMap elHand.enc)) := Lib.hid (fun X hX => HO.out.later hX)
  go_region_law (first
    | ((refine step_append_lies _ (by rfl) _ _ 113 (by rfl) 0 38 i0 (.agg #[.int .i64 0, .int .i64 0]) 2 16 Try.underlying113 hi hz0 hz1 hz2 rfl (by decide) (.slice a xs.length cap) xs.length (xs.flatMap elHand.enc) (by rfl) (HOA.out _ (nb_alloc (nb_alloc (Below.refl _ _) _).drew _)) _ 1 1 [.int .i64 x, .int .i64 y] (by rfl) rfl (World.news_of_block (by first | exact heap_alloc_new _ _ | exact heap_alloc2_new _ _ _)) (by intro u hu; simp at hu; rcases hu with rfl | rfl <;> rfl) (by decide) HL2.out HL.out (Nat.zero_le _) _ rfl ?_; intro g cap' w2 hown hgr hat hg2
        have hG : Grew w w2 (.slice a xs.length cap) g := Grew.of (nb_alloc (nb_alloc (Below.refl _ _) _).drew _) hgr hat hg2
        have HD := Lib.hid (col_grown (E := elHand) (x := (x, y)) H.out rfl hG hown)
        have cp2 : w2.cell? ⟨b, off, none⟩ = some (.slice a xs.length cap) := by rw [World.cell?_of_block (a := ⟨b, off, none⟩) (hG.far b hlt (fun e => HNE.out b e rfl))]; exact cp
        have fp2 : w2.frozen? ⟨b, off, none⟩ = false := by rw [World.frozen?_of_block (a := ⟨b, off, none⟩) (hG.far b hlt (fun e => HNE.out b e rfl))]; exact fp
        have hb2 : b < w2.heap.size := Nat.lt_of_lt_of_le hlt hG.size
        clear hown hgr hat hG)))
  all_goals
    go_wp2
    go_end0
    exact ⟨rfl, HD.out⟩

/-- An own slice of elements of one cell, opened. -/
theorem OwnsF.at1 {α : Type} {E : El α} (hE : E.size = 1) {w : World} {B : Nat} {T : TypeId} {v : Value} {xs : List α} (h : OwnsF E w B T v xs) (h0 : 0 < xs.length) :
    ∃ g cap, v = .slice (some ⟨g, 0, none⟩) xs.length cap ∧ g < w.heap.size ∧ xs.length ≤ cap ∧ cap ≤ maxLen ∧ ∀ k, k < xs.length → w.cell? ⟨g, k, none⟩ = (E.enc (xs.getD k E.zero))[0]? ∧ w.frozen? ⟨g, k, none⟩ = false := by
  rcases h.owns.form with ⟨rfl, rfl⟩ | ⟨g, cap, cur, rfl, hh, hg, hn, hcap, hsz⟩
  · simp at h0
  · exact ⟨g, cap, rfl, hg, hn, hcap, fun k hk => ⟨(h.open1 hE hk).1, (h.open1 hE hk).2.1⟩⟩
theorem OwnsF.at2 {α : Type} {E : El α} (hE : E.size = 2) {w : World} {B : Nat} {T : TypeId} {v : Value} {xs : List α} (h : OwnsF E w B T v xs) (h0 : 0 < xs.length) :
    ∃ g cap, v = .slice (some ⟨g, 0, none⟩) xs.length cap ∧ g < w.heap.size ∧ xs.length ≤ cap ∧ cap ≤ maxLen ∧ ∀ k, k < xs.length → w.cell? ⟨g, k * 2, none⟩ = (E.enc (xs.getD k E.zero))[0]? ∧ w.cell? ⟨g, k * 2 + 1, none⟩ = (E.enc (xs.getD k E.zero))[1]? ∧ ∀ j, w.frozen? ⟨g, j, none⟩ = false := by
  rcases h.owns.form with ⟨rfl, rfl⟩ | ⟨g, cap, cur, rfl, hh, hg, hn, hcap, hsz⟩
  · simp at h0
  · refine ⟨g, cap, rfl, hg, hn, hcap, fun k hk => ?_⟩
    obtain ⟨g', cap', e, _, _, c0, c1, hf⟩ := h.owns.open2 hE hk
    simp only [Value.slice.injEq, Option.some.injEq, Addr.mk.injEq, and_true, true_and] at e
    obtain ⟨rfl, rfl⟩ := e
    exact ⟨c0, c1, hf⟩

set_option maxHeartbeats 1000000 in
theorem colRemove_any {b : Nat} {cur : Array Value} {TT : TypeId} {v : Value} {xs : List Int} (off i : Nat) (w : World) (h : ColIs elInt 3 w b off cur TT v xs) (hi : i < xs.length) :
    Calls Try.prog 86 #[.pointer (some ⟨b, off, none⟩), .int .i64 i] w fun e w' => e = .returned (.tuple #[]) ∧ ColPost elInt 3 w b off cur TT v (rmL xs i 0) w' := by
  have H := Lib.hid h
  have cp := h.cell
  have fp := h.frz off
  have HO := Lib.hid h.own
  have HNE := Lib.hid h.ne
  have hlt := h.lt
  obtain ⟨g, cap, rfl, hg, hlc, hcm, hc⟩ := h.own.at1 rfl (by omega)
  obtain ⟨c0, f0⟩ := hc i hi
  obtain ⟨c1, -⟩ := hc (xs.length - 1) (by omega)
  have c0' : w.cell? ⟨g, i, none⟩ = some (.int .i64 (xs.getD i 0)) := c0
  have c1' : w.cell? ⟨g, xs.length - 1, none⟩ = some (.int .i64 (xs.getD (xs.length - 1) 0)) := c1
  have hgb : g ≠ b := h.ne g rfl
  have HK : Hid (Kept (fun k => k = g) w (w.drew.setCell ⟨g, i, none⟩ (.int .i64 (xs.getD (xs.length - 1) 0)))) := Lib.hid ((Kept.drew _ _).trans (Kept.setCell (F := fun k => k = g) _ (p := ⟨g, i, none⟩) rfl _) (fun _ h => .inl h))
  have HS : Hid (OwnsF elInt (w.drew.setCell ⟨g, i, none⟩ (.int .i64 (xs.getD (xs.length - 1) 0))) 0 3 (.slice (some ⟨g, 0, none⟩) xs.length cap) (xs.set i (xs.getD (xs.length - 1) 0))) := Lib.hid (OwnsF.stored1 (w := w.drew) (E := elInt) rfl HO.out i (xs.getD (xs.length - 1) 0) (.int .i64 (xs.getD (xs.length - 1) 0)) hi rfl)
  have HD := Lib.hid (col_cut H.out HK.out HS.out)
  rw [show (xs.set i (xs.getD (xs.length - 1) 0)).dropLast = rmL xs i 0 from rfl] at HD
  clear h c0 c1 hc HK HS
  unfold maxLen at hcm
  have hbg : ¬ b = g := Ne.symm hgb
  generalize hlast : xs.getD (xs.length - 1) 0 = last at *
  generalize xs.getD i 0 = old at *
  generalize hn : xs.length = n at *
  obtain ⟨m, rfl⟩ : ∃ m, n = m + 1 := ⟨n - 1, by omega⟩
  rw [show m + 1 - 1 = m by omega] at c1' HD
  go_enter Try.func86, Try.ntmps86
  go_wp2_with fail
  have hmm : (m : Int) < (m : Int) + 1 := by omega
  have him : (i : Int) < (m : Int) + 1 := by omega
  go_still_tail 13, (by kernel_rfl)
  change wpList _ _ _ _ _ w.drew
  go_wp2
  go_end0
  exact ⟨rfl, HD.out⟩

set_option maxHeartbeats 1000000 in
theorem hcolRemove_any {b : Nat} {cur : Array Value} {TT : TypeId} {v : Value} {xs : List (Int × Int)} (off i : Nat) (w : World) (h : ColIs elHand 38 w b off cur TT v xs) (hi : i < xs.length) :
    Calls Try.prog 85 #[.pointer (some ⟨b, off, none⟩), .int .i64 i] w fun e w' => e = .returned (.tuple #[]) ∧ ColPost elHand 38 w b off cur TT v (rmL xs i (0, 0)) w' := by
  have H := Lib.hid h
  have cp := h.cell
  have fp := h.frz off
  have HO := Lib.hid h.own
  have HNE := Lib.hid h.ne
  have hlt := h.lt
  obtain ⟨g, cap, rfl, hg, hlc, hcm, hc⟩ := h.own.at2 rfl (by omega)
  obtain ⟨c0, c0b, hf⟩ := hc i hi
  have f0 := hf (i * 2)
  have f1 := hf (i * 2 + 1)
  obtain ⟨c1, c1b, -⟩ := hc (xs.length - 1) (by omega)
  have c0' : w.cell? ⟨g, i * 2, none⟩ = some (.int .i64 (xs.getD i (0, 0)).1) := c0
  have c0b' : w.cell? ⟨g, i * 2 + 1, none⟩ = some (.int .i64 (xs.getD i (0, 0)).2) := c0b
  have c1' : w.cell? ⟨g, (xs.length - 1) * 2, none⟩ = some (.int .i64 (xs.getD (xs.length - 1) (0, 0)).1) := c1
  have c1b' : w.cell? ⟨g, (xs.length - 1) * 2 + 1, none⟩ = some (.int .i64 (xs.getD (xs.length - 1) (0, 0)).2) := c1b
  have hgb : g ≠ b := h.ne g rfl
  generalize hlast : xs.getD (xs.length - 1) (0, 0) = last at *
  obtain ⟨l1, l2⟩ := last
  have HK : Hid (Kept (fun k => k = g) w ((w.drew.setCell ⟨g, i * 2, none⟩ (.int .i64 l1)).setCell ⟨g, i * 2 + 1, none⟩ (.int .i64 l2))) := Lib.hid (((Kept.drew _ _).trans (Kept.setCell (F := fun k => k = g) _ (p := ⟨g, i * 2, none⟩) rfl _) (fun _ h => .inl h)).trans (Kept.setCell (F := fun k => k = g) _ (p := ⟨g, i * 2 + 1, none⟩) rfl _) (fun _ h => .inl h))
  have HS : Hid (OwnsF elHand ((w.drew.setCell ⟨g, i * 2, none⟩ (.int .i64 l1)).setCell ⟨g, i * 2 + 1, none⟩ (.int .i64 l2)) 0 38 (.slice (some ⟨g, 0, none⟩) xs.length cap) (xs.set i (l1, l2))) := Lib.hid (by
    have o1 := OwnsF.stored (w := w.drew) (E := elHand) HO.out i 0 (l1, (xs.getD i (0, 0)).2) (.int .i64 l1) hi (by decide) rfl
    have o2 := o1.stored i 1 (l1, l2) (.int .i64 l2) (by simpa using hi) (by decide) (by rw [show elHand.zero = (0, 0) from rfl, getD_set_eq _ _ _ _ hi]; rfl)
    rw [List.set_set] at o2
    exact o2)
  have HD := Lib.hid (col_cut H.out HK.out HS.out)
  rw [show (xs.set i (l1, l2)).dropLast = rmL xs i (0, 0) by unfold rmL; rw [hlast]] at HD
  clear h c0 c1 hc HK HS hlast c0b c1b hf
  unfold maxLen at hcm
  have hbg : ¬ b = g := Ne.symm hgb
  generalize xs.getD i (0, 0) = old at *
  generalize hn : xs.length = n at *
  obtain ⟨m, rfl⟩ : ∃ m, n = m + 1 := ⟨n - 1, by omega⟩
  rw [show m + 1 - 1 = m by omega] at c1' c1b' HD
  go_enter Try.func85, Try.ntmps85
  go_wp2_with fail
  have hmm : (m : Int) < (m : Int) + 1 := by omega
  have him : (i : Int) < (m : Int) + 1 := by omega
  go_still_tail 13, (by kernel_rfl)
  change wpList _ _ _ _ _ w.drew
  go_wp2
  go_end0
  exact ⟨rfl, HD.out⟩

theorem cloneInt_new (w : World) (B : Nat) (h : B ≤ w.heap.size) : (w.alloc (.cells #[] 3)).ownsRow B 3 1 (.slice (some ⟨w.heap.size, 0, none⟩) 0 0) 0 [] :=
  ⟨rfl, .inr ⟨w.heap.size, 0, #[], rfl, h, heap_alloc_new w _, Nat.le_refl _, by unfold maxLen; omega, rfl, rfl⟩⟩
theorem cloneHand_new (w : World) (B : Nat) (h : B ≤ w.heap.size) : (w.alloc (.cells #[] 38)).ownsRow B 38 2 (.slice (some ⟨w.heap.size, 0, none⟩) 0 0) 0 [] :=
  ⟨rfl, .inr ⟨w.heap.size, 0, #[], rfl, h, heap_alloc_new w _, Nat.le_refl _, by unfold maxLen; omega, rfl, rfl⟩⟩
set_option maxHeartbeats 1000000 in
theorem cloneHand_any (v : Value) (xs : List (Int × Int)) (w : World) (h : OwnsF elHand w 0 38 v xs) (hl : xs.length * 16 ≤ 140737488355328) :
    Calls Try.prog 105 #[v] w fun e w' => ∃ v', e = .returned v' ∧ OwnsF elHand w' w.heap.size 38 v' xs ∧ Below w.heap.size w w' := by
  obtain ⟨i0, hi, hz0, hz1, hz2⟩ := info_parts infoHand
  have HR := Lib.hid h.reads
  rcases h.owns.form with ⟨rfl, rfl⟩ | ⟨g, cap, cur, rfl, hh, hg, hn, hcap, hsz⟩
  · have heq : ∀ x : World, (binOp .eql 113 (.slice none 0 0) (.slice none 0 0)).run Try.prog x = .ok (.bool true) x := fun x => Lib.run_eql_slice_nil x 113 _ none 0 0 0 0 Try.underlying113
    go_enter Try.func105, Try.ntmps105
    go_wp2
    go_ret
    exact ⟨_, rfl, OwnsF.nil _ _ _ _, Below.refl _ _⟩
  · have HH := Lib.hid h
    have HC : Hid (∀ X, Below w.heap.size w X → ∀ j u, (xs.flatMap elHand.enc)[j]? = some u → X.cell? ((⟨g, 0, none⟩ : Addr).add j) = some u) := Lib.hid (fun X hX j u hu => by
      rw [addr_add', Nat.zero_add, hX.cell (p := ⟨g, j, none⟩) hg, World.ownsRow.cellAt h.owns j (by have := (List.getElem?_eq_some_iff.1 hu).1; rwa [length_enc] at this)]
      exact hu)
    have HL := Lib.hid hl
    have HL2 : Hid (xs.length ≤ maxLen) := Lib.hid (Nat.le_trans hn hcap)
    have heq : ∀ x : World, (binOp .eql 113 (.slice (some ⟨g, 0, none⟩) xs.length cap) (.slice none 0 0)).run Try.prog x = .ok (.bool false) x := fun x => Lib.run_eql_slice_nil x 113 _ (some ⟨g, 0, none⟩) xs.length cap 0 0 Try.underlying113
    clear h hh
    go_enter Try.func105, Try.ntmps105
    go_wp2_with (first | (at_builtin; refine wpList_append_own _ rfl _ _ 113 rfl w.heap.size 38 i0 (.agg #[.int .i64 0, .int .i64 0]) 2 16 Try.underlying113 hi hz0 hz1 hz2 rfl (by decide) _ 0 [] rfl (cloneHand_new w w.heap.size (Nat.le_refl _)) ⟨g, 0, none⟩ xs.length cap (xs.flatMap elHand.enc) rfl (length_enc elHand xs) (HC.out _ (nb_alloc (Below.refl _ _) _)) (by intro u hu; obtain ⟨x, _, hx⟩ := List.mem_flatMap.1 hu; exact elHand.one x u hx) (by rw [Nat.zero_add]; exact HL2.out) (by rw [Nat.zero_add]; exact HL.out) (by simp) ?_))
    intro v' w2 hown hgr _
    have HB2 : Hid (Below w.heap.size w w2) := Lib.hid ((nb_alloc (Below.refl _ _) _).grown hgr (by simp) (fun j hj => by simp [Value.ownBlock] at hj; omega))
    have HO2 : Hid (OwnsF elHand w2 w.heap.size 38 v' xs) := Lib.hid (hown)
    clear hown hgr
    go_wp2
    go_ret
    exact ⟨_, rfl, HO2.out, HB2.out⟩

set_option maxHeartbeats 400000 in
theorem hcolList_any {b : Nat} {cur : Array Value} {TT : TypeId} {v : Value} {xs : List (Int × Int)} (off : Nat) (w : World) (h : ColIs elHand 38 w b off cur TT v xs) (hl : xs.length * 16 ≤ 140737488355328) :
    Calls Try.prog 87 #[.pointer (some ⟨b, off, none⟩)] w fun e w' => ∃ v', e = .returned v' ∧ OwnsF elHand w' w.heap.size 38 v' xs ∧ Below w.heap.size w w' := by
  have HO := Lib.hid h.own
  have cp := h.cell
  obtain ⟨a, cap, rfl, _, _, _⟩ := h.own.reads
  clear h
  go_enter Try.func87, Try.ntmps87
  go_wp2_with fail
  refine (cloneHand_any _ xs _ HO.out hl).mono ?_
  rintro e w' ⟨v', rfl, ho, hb⟩
  have HO' := Lib.hid ho
  have HB := Lib.hid hb
  clear ho hb
  go_wp2
  go_ret
  exact ⟨_, rfl, HO'.out, HB.out⟩
end Go.Proofs.Ytakoejopgdaknaa

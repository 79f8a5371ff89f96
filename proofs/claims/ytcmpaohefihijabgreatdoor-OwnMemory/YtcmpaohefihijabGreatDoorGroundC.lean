/- Contracts and plain facts, several texts in one. -/
import Derived.StillTailTactics
import Derived.IntWalk
import Derived.Deep.RegionLaw
import Derived.Deep.OwnRows
import Derived.BigQuiet
import Derived.Maps.RangeWalk
import Derived.Test.YtcmpaohefihijabGreatDoorGroundA
import Derived.Test.YtcmpaohefihijabGreatDoorGroundB
/- Columns of a table in memory: add, remove, list, for ints and for handles. -/
namespace Go.Proofs.YtcmpaohefihijabGreatDoor
set_option maxRecDepth 8000
open Go.RowKit

/-- Cell off of block b holds a slice of the call's own, which reads as xs. -/
structure ColIs {α : Type} (E : El α) (T : TypeId) (w : World) (b off : Nat) (cur : Array Value) (TT : TypeId) (v : Value) (xs : List α) : Prop where
  heap : w.heap[b]? = some (.cells cur TT (0, 0))
  at_ : cur[off]? = some v
  own : OwnsF E w 0 T v xs
  ne : ∀ k, v.ownBlock = some k → k ≠ b
theorem ColIs.lt {α : Type} {E : El α} {T TT : TypeId} {w : World} {b off : Nat} {cur : Array Value} {v : Value} {xs : List α} (h : ColIs E T w b off cur TT v xs) : b < w.heap.size := (Array.getElem?_eq_some_iff.1 h.heap).1
theorem ColIs.cell {α : Type} {E : El α} {T TT : TypeId} {w : World} {b off : Nat} {cur : Array Value} {v : Value} {xs : List α} (h : ColIs E T w b off cur TT v xs) : w.cell? ⟨b, off, none⟩ = some v := by rw [cell_of_row _ _ _ _ _ _ h.heap]; exact h.at_
theorem ColIs.frz {α : Type} {E : El α} {T TT : TypeId} {w : World} {b off : Nat} {cur : Array Value} {v : Value} {xs : List α} (h : ColIs E T w b off cur TT v xs) (j : Nat) : w.frozen? ⟨b, j, none⟩ = false := frozen_of_row _ _ _ _ _ h.heap
theorem ColIs.kept {α : Type} {E : El α} {T TT : TypeId} {w w' : World} {b off : Nat} {cur : Array Value} {v : Value} {xs : List α} {F : Nat → Prop} (h : ColIs E T w b off cur TT v xs) (hk : Kept F w w') (hb : ¬ F b) (hv : ∀ k, v.ownBlock = some k → ¬ F k) : ColIs E T w' b off cur TT v xs :=
  ⟨by rw [hk.block b h.lt hb]; exact h.heap, h.at_, h.own.kept hk hv, h.ne⟩
theorem ColIs.later {α : Type} {E : El α} {T TT : TypeId} {w w' : World} {b off : Nat} {cur : Array Value} {v : Value} {xs : List α} (h : ColIs E T w b off cur TT v xs) (hb : Below w.heap.size w w') : ColIs E T w' b off cur TT v xs :=
  h.kept (F := fun _ => False) (Kept.ofBelow hb) id (fun _ _ => id)

/-- What a call that turns a column leaves. -/
def ColPost {α : Type} (E : El α) (T : TypeId) (w : World) (b off : Nat) (cur : Array Value) (TT : TypeId) (v : Value) (ys : List α) (w' : World) : Prop :=
  ∃ v', ColIs E T w' b off (cur.setIfInBounds off v') TT v' ys ∧ Kept (fun k => k = b ∨ v.ownBlock = some k) w w' ∧ ∀ k, v'.ownBlock = some k → v.ownBlock = some k ∨ w.heap.size ≤ k

/-- An append has been written back. -/
theorem col_grown {α : Type} {E : El α} {T TT : TypeId} {w w2 : World} {b off g cap n : Nat} {cur : Array Value} {v : Value} {xs : List α} {x : α} (h : ColIs E T w b off cur TT v xs) (hn : xs.length = n) (hg : Grew w w2 v g) (ho : w2.ownsRow 0 T E.size (.slice (some ⟨g, 0, none⟩) (n + 1) cap) (n + 1) (xs.flatMap E.enc ++ E.enc x)) :
    ColPost E T w b off cur TT v (xs ++ [x]) (w2.setCell ⟨b, off, none⟩ (.slice (some ⟨g, 0, none⟩) (n + 1) cap)) := by
  subst hn
  have hgb : g ≠ b := by
    rcases hg.at_ with e | e
    · exact h.ne g e
    · have := h.lt; omega
  have hoff : off < cur.size := (Array.getElem?_eq_some_iff.1 h.at_).1
  have hb2 : w2.heap[b]? = some (.cells cur TT (0, 0)) := by rw [hg.far b h.lt (fun e => h.ne b e rfl)]; exact h.heap
  refine ⟨.slice (some ⟨g, 0, none⟩) (xs.length + 1) cap, ⟨heap_setCell_same _ _ _ _ _ _ hb2, by simp [hoff], ?_, fun k hk => by simp [Value.ownBlock] at hk; omega⟩, ?_, fun k hk => ?_⟩
  · exact (OwnsF.snoc ho).kept (F := fun k => k = b) (Kept.setCell (F := fun k => k = b) _ (p := ⟨b, off, none⟩) rfl _) (fun k hk => by simp [Value.ownBlock] at hk; omega)
  · exact (hg.kept (F := fun k => k = b ∨ v.ownBlock = some k) (fun k hk => .inr hk)).trans (Kept.setCell (F := fun k => k = b) _ (p := ⟨b, off, none⟩) rfl _) (fun k hk => .inl (.inl hk))
  · simp [Value.ownBlock] at hk; subst hk; exact hg.at_

theorem getLast_getD {α : Type} (xs : List α) (d : α) (h : xs ≠ []) : xs.getD (xs.length - 1) d = xs.getLast h := by
  rw [List.getD_eq_getElem?_getD, List.getElem?_eq_getElem (by have := List.length_pos_iff.2 h; omega), List.getLast_eq_getElem]; rfl
/-- what is left when element i is removed: the last one takes its place -/
def rmL {α : Type} (xs : List α) (i : Nat) (d : α) : List α := (xs.set i (xs.getD (xs.length - 1) d)).dropLast
theorem rmL_len {α : Type} (xs : List α) (i : Nat) (d : α) : (rmL xs i d).length = xs.length - 1 := by simp [rmL]
theorem rmL_map {α β : Type} (f : α → β) (xs : List α) (i : Nat) (d : α) (d' : β) (h : xs ≠ []) : rmL (xs.map f) i d' = (rmL xs i d).map f := by
  unfold rmL
  rw [List.map_dropLast, List.map_set, List.length_map]
  congr 2
  rw [List.getD_eq_getElem?_getD, List.getElem?_map, List.getD_eq_getElem?_getD, List.getElem?_eq_getElem (by have := List.length_pos_iff.2 h; omega)]
  rfl

/-- The last element is cut off. -/
theorem OwnsF.cut {α : Type} {E : El α} {w : World} {B : Nat} {T : TypeId} {g n cap : Nat} {xs : List α} (h : OwnsF E w B T (.slice (some ⟨g, 0, none⟩) n cap) xs) : OwnsF E w B T (.slice (some ⟨g, 0, none⟩) (n - 1) cap) xs.dropLast := by
  refine ⟨by rw [length_enc], ?_⟩
  rcases h.2 with ⟨e, _⟩ | ⟨g', cap', cur, e, hb, hh, hn, hc, hs, ht⟩
  · cases e
  · simp only [Value.slice.injEq, Option.some.injEq, Addr.mk.injEq, and_true] at e
    obtain ⟨rfl, rfl, rfl⟩ := e
    refine .inr ⟨g, cap, cur, by simp, hb, hh, by simp; omega, hc, hs, ?_⟩
    have e1 : cur.toList.take (xs.dropLast.length * E.size) = (cur.toList.take (xs.length * E.size)).take (xs.dropLast.length * E.size) := by
      rw [List.take_take, Nat.min_eq_left (Nat.mul_le_mul_right _ (by simp))]
    rw [e1, ht]
    rcases List.eq_nil_or_concat xs with rfl | ⟨ys, y, rfl⟩
    · simp
    · rw [List.concat_eq_append, List.dropLast_concat, List.flatMap_append, List.take_append_of_le_length (by rw [length_enc]; exact Nat.le_refl _), List.take_of_length_le (by rw [length_enc]; exact Nat.le_refl _)]

/-- An element has been overwritten by the last one, and the slice cut. -/
theorem col_cut {α : Type} {E : El α} {T TT : TypeId} {w w2 : World} {b off g cap n : Nat} {cur : Array Value} {xs ys : List α} (h : ColIs E T w b off cur TT (.slice (some ⟨g, 0, none⟩) n cap) xs) (hk : Kept (fun k => k = g) w w2) (ho : OwnsF E w2 0 T (.slice (some ⟨g, 0, none⟩) n cap) ys) :
    ColPost E T w b off cur TT (.slice (some ⟨g, 0, none⟩) n cap) ys.dropLast (w2.setCell ⟨b, off, none⟩ (.slice (some ⟨g, 0, none⟩) (n - 1) cap)) := by
  have hgb : g ≠ b := h.ne g rfl
  have hoff : off < cur.size := (Array.getElem?_eq_some_iff.1 h.at_).1
  have hb2 : w2.heap[b]? = some (.cells cur TT (0, 0)) := by rw [hk.block b h.lt (Ne.symm hgb)]; exact h.heap
  refine ⟨.slice (some ⟨g, 0, none⟩) (n - 1) cap, ⟨heap_setCell_same _ _ _ _ _ _ hb2, by simp [hoff], ?_, fun k hk => by simp [Value.ownBlock] at hk; omega⟩, ?_, fun k hk => .inl hk⟩
  · exact ho.cut.kept (F := fun k => k = b) (Kept.setCell (F := fun k => k = b) _ (p := ⟨b, off, none⟩) rfl _) (fun k hk => by simp [Value.ownBlock] at hk; omega)
  · exact (hk.mono (G := fun k => k = b ∨ (Value.slice (some ⟨g, 0, none⟩) n cap).ownBlock = some k) (fun k e => .inl (.inr (by rw [e]; rfl)))).trans (Kept.setCell (F := fun k => k = b) _ (p := ⟨b, off, none⟩) rfl _) (fun k hk => .inl (.inl hk))

set_option maxHeartbeats 1000000 in
theorem colAdd_any {b : Nat} {cur : Array Value} {TT : TypeId} {v : Value} {xs : List Int} (off : Nat) (z : Int) (w : World) (h : ColIs elInt 3 w b off cur TT v xs) (hl : (xs.length + 1) * 8 ≤ 140737488355328) :
    Calls Tryz.prog 119 #[.pointer (some ⟨b, off, none⟩), .int .i64 z] w fun e w' => e = .returned (.tuple #[]) ∧ ColPost elInt 3 w b off cur TT v (xs ++ [z]) w' := by
  obtain ⟨i0, hi, hz0, hz1, hz2⟩ := info_parts infoInt
  have H := Lib.hid h
  have cp := h.cell
  have fp := h.frz off
  have HO := Lib.hid h.own
  obtain ⟨a, cap, rfl, _, _, _⟩ := h.own.reads
  have hne := h.ne
  have hlt := h.lt
  clear h
  have HL := Lib.hid hl
  go_enter Tryz.func119, Tryz.ntmps119
  go_wp2_with (first | (at_builtin; refine wpList_append_lies _ rfl _ _ 27 rfl 0 3 i0 (.int .i64 0) 1 8 Tryz.underlying27 hi hz0 hz1 hz2 rfl (by decide) _ _ _ rfl (World.ownsRow.alloc HO.out _) ⟨w.heap.size, 0, none⟩ 1 1 [.int .i64 z] rfl rfl ?c1 ?c2 (by decide) ?c3 ?c4 (Nat.zero_le _) _ rfl ?_))
  case c1 => exact World.news_of_block (heap_alloc_new w _)
  case c2 => intro u hu; simp at hu; subst hu; rfl
  case c3 => have := HL.out; unfold maxLen; omega
  case c4 => exact HL.out
  intro g cap' w2 hown hgr hat hg2
  have hG : Grew w w2 (.slice a xs.length cap) g := Grew.of (nb_alloc (Below.refl _ _) _) hgr (by simpa using hat) hg2
  have HD := Lib.hid (col_grown (E := elInt) (x := z) H.out rfl hG hown)
  have cp2 : w2.cell? ⟨b, off, none⟩ = some (.slice a xs.length cap) := by rw [World.cell?_of_block (a := ⟨b, off, none⟩) (hG.far b hlt (fun e => hne b e rfl))]; exact cp
  have fp2 : w2.frozen? ⟨b, off, none⟩ = false := by rw [World.frozen?_of_block (a := ⟨b, off, none⟩) (hG.far b hlt (fun e => hne b e rfl))]; exact fp
  have hb2 : b < w2.heap.size := Nat.lt_of_lt_of_le hlt hG.size
  clear hown hgr hat hG hne
  go_wp2
  go_end0
  exact ⟨rfl, HD.out⟩

set_option maxHeartbeats 2000000 in
theorem hcolAdd_any {b : Nat} {cur : Array Value} {TT : TypeId} {v : Value} {xs : List (Int × Int)} (off : Nat) (x y : Int) (w : World) (h : ColIs elHand 34 w b off cur TT v xs) (hl : (xs.length + 1) * 16 ≤ 140737488355328) :
    Calls Tryz.prog 118 #[.pointer (some ⟨b, off, none⟩), .agg #[.int .i64 x, .int .i64 y]] w fun e w' => e = .returned (.tuple #[]) ∧ ColPost elHand 34 w b off cur TT v (xs ++ [(x, y)]) w' := by
  obtain ⟨i0, hi, hz0, hz1, hz2⟩ := info_parts infoHand
  have H := Lib.hid h
  have cp := h.cell
  have fp := h.frz off
  have HO := Lib.hid h.own
  obtain ⟨a, cap, rfl, _, _, _⟩ := h.own.reads
  have HNE := Lib.hid h.ne
  have hlt := h.lt
  clear h
  have HL := Lib.hid hl
  have HL2 : Hid (xs.length + 1 ≤ maxLen) := Lib.hid (by unfold maxLen; omega)
  go_enter Tryz.func118, Tryz.ntmps118
  go_wp2_with fail
  have HB0 : Hid (Below w.heap.size w (w.alloc (.cells #[.int .i64 x, .int .i64 y] 34))) := Lib.hid (nb_alloc (Below.refl _ _) _)
  have HOA : Hid (∀ X, Below w.heap.size w X → X.ownsRow 0 34 2 (.slice a xs.length cap) xs.length (xs.flatMap elHand.enc)) := Lib.hid (fun X hX => HO.out.later hX)
  go_region_law (first
    | ((refine step_append_lies _ (by rfl) _ _ 86 (by rfl) 0 34 i0 (.agg #[.int .i64 0, .int .i64 0]) 2 16 Tryz.underlying86 hi hz0 hz1 hz2 rfl (by decide) (.slice a xs.length cap) xs.length (xs.flatMap elHand.enc) (by rfl) (HOA.out _ (nb_alloc (nb_alloc (Below.refl _ _) _).drew _)) _ 1 1 [.int .i64 x, .int .i64 y] (by rfl) rfl (World.news_of_block (by first | exact heap_alloc_new _ _ | exact heap_alloc2_new _ _ _)) (by intro u hu; simp at hu; rcases hu with rfl | rfl <;> rfl) (by decide) HL2.out HL.out (Nat.zero_le _) _ rfl ?_; intro g cap' w2 hown hgr hat hg2
        have hG : Grew w w2 (.slice a xs.length cap) g := Grew.of (nb_alloc (nb_alloc (Below.refl _ _) _).drew _) hgr hat hg2
        have HD := Lib.hid (col_grown (E := elHand) (x := (x, y)) H.out rfl hG hown)
        have cp2 : w2.cell? ⟨b, off, none⟩ = some (.slice a xs.length cap) := by rw [World.cell?_of_block (a := ⟨b, off, none⟩) (hG.far b hlt (fun e => HNE.out b e rfl))]; exact cp
        have fp2 : w2.frozen? ⟨b, off, none⟩ = false := by rw [World.frozen?_of_block (a := ⟨b, off, none⟩) (hG.far b hlt (fun e => HNE.out b e rfl))]; exact fp
        have hb2 : b < w2.heap.size := Nat.lt_of_lt_of_le hlt hG.size
        clear hown hgr hat hG)))
  all_goals
    go_wp2
    go_end0
    exact ⟨rfl, HD.out⟩

/-- An own slice of elements of one cell, opened. -/
theorem OwnsF.at1 {α : Type} {E : El α} (hE : E.size = 1) {w : World} {B : Nat} {T : TypeId} {v : Value} {xs : List α} (h : OwnsF E w B T v xs) (h0 : 0 < xs.length) :
    ∃ g cap, v = .slice (some ⟨g, 0, none⟩) xs.length cap ∧ g < w.heap.size ∧ xs.length ≤ cap ∧ cap ≤ maxLen ∧ ∀ k, k < xs.length → w.cell? ⟨g, k, none⟩ = (E.enc (xs.getD k E.zero))[0]? ∧ w.frozen? ⟨g, k, none⟩ = false := by
  rcases h.owns.form with ⟨rfl, rfl⟩ | ⟨g, cap, cur, rfl, hh, hg, hn, hcap, hsz⟩
  · simp at h0
  · exact ⟨g, cap, rfl, hg, hn, hcap, fun k hk => ⟨(h.open1 hE hk).1, (h.open1 hE hk).2.1⟩⟩
theorem OwnsF.at2 {α : Type} {E : El α} (hE : E.size = 2) {w : World} {B : Nat} {T : TypeId} {v : Value} {xs : List α} (h : OwnsF E w B T v xs) (h0 : 0 < xs.length) :
    ∃ g cap, v = .slice (some ⟨g, 0, none⟩) xs.length cap ∧ g < w.heap.size ∧ xs.length ≤ cap ∧ cap ≤ maxLen ∧ ∀ k, k < xs.length → w.cell? ⟨g, k * 2, none⟩ = (E.enc (xs.getD k E.zero))[0]? ∧ w.cell? ⟨g, k * 2 + 1, none⟩ = (E.enc (xs.getD k E.zero))[1]? ∧ ∀ j, w.frozen? ⟨g, j, none⟩ = false := by
  rcases h.owns.form with ⟨rfl, rfl⟩ | ⟨g, cap, cur, rfl, hh, hg, hn, hcap, hsz⟩
  · simp at h0
  · refine ⟨g, cap, rfl, hg, hn, hcap, fun k hk => ?_⟩
    obtain ⟨g', cap', e, _, _, c0, c1, hf⟩ := h.owns.open2 hE hk
    simp only [Value.slice.injEq, Option.some.injEq, Addr.mk.injEq, and_true, true_and] at e
    obtain ⟨rfl, rfl⟩ := e
    exact ⟨c0, c1, hf⟩

set_option maxHeartbeats 1000000 in
theorem colRemove_any {b : Nat} {cur : Array Value} {TT : TypeId} {v : Value} {xs : List Int} (off i : Nat) (w : World) (h : ColIs elInt 3 w b off cur TT v xs) (hi : i < xs.length) :
    Calls Tryz.prog 148 #[.pointer (some ⟨b, off, none⟩), .int .i64 i] w fun e w' => e = .returned (.tuple #[]) ∧ ColPost elInt 3 w b off cur TT v (rmL xs i 0) w' := by
  have H := Lib.hid h
  have cp := h.cell
  have fp := h.frz off
  have HO := Lib.hid h.own
  have HNE := Lib.hid h.ne
  have hlt := h.lt
  obtain ⟨g, cap, rfl, hg, hlc, hcm, hc⟩ := h.own.at1 rfl (by omega)
  obtain ⟨c0, f0⟩ := hc i hi
  obtain ⟨c1, -⟩ := hc (xs.length - 1) (by omega)
  have c0' : w.cell? ⟨g, i, none⟩ = some (.int .i64 (xs.getD i 0)) := c0
  have c1' : w.cell? ⟨g, xs.length - 1, none⟩ = some (.int .i64 (xs.getD (xs.length - 1) 0)) := c1
  have hgb : g ≠ b := h.ne g rfl
  have HK : Hid (Kept (fun k => k = g) w (w.drew.setCell ⟨g, i, none⟩ (.int .i64 (xs.getD (xs.length - 1) 0)))) := Lib.hid ((Kept.drew _ _).trans (Kept.setCell (F := fun k => k = g) _ (p := ⟨g, i, none⟩) rfl _) (fun _ h => .inl h))
  have HS : Hid (OwnsF elInt (w.drew.setCell ⟨g, i, none⟩ (.int .i64 (xs.getD (xs.length - 1) 0))) 0 3 (.slice (some ⟨g, 0, none⟩) xs.length cap) (xs.set i (xs.getD (xs.length - 1) 0))) := Lib.hid (OwnsF.stored1 (w := w.drew) (E := elInt) rfl HO.out i (xs.getD (xs.length - 1) 0) (.int .i64 (xs.getD (xs.length - 1) 0)) hi rfl)
  have HD := Lib.hid (col_cut H.out HK.out HS.out)
  rw [show (xs.set i (xs.getD (xs.length - 1) 0)).dropLast = rmL xs i 0 from rfl] at HD
  clear h c0 c1 hc HK HS
  unfold maxLen at hcm
  have hbg : ¬ b = g := Ne.symm hgb
  generalize hlast : xs.getD (xs.length - 1) 0 = last at *
  generalize xs.getD i 0 = old at *
  generalize hn : xs.length = n at *
  obtain ⟨m, rfl⟩ : ∃ m, n = m + 1 := ⟨n - 1, by omega⟩
  rw [show m + 1 - 1 = m by omega] at c1' HD
  go_enter Tryz.func148, Tryz.ntmps148
  go_wp2_with fail
  have hmm : (m : Int) < (m : Int) + 1 := by omega
  have him : (i : Int) < (m : Int) + 1 := by omega
  go_still_tail 13, (by kernel_rfl)
  change wpList _ _ _ _ _ w.drew
  go_wp2
  go_end0
  exact ⟨rfl, HD.out⟩

set_option maxHeartbeats 1000000 in
theorem hcolRemove_any {b : Nat} {cur : Array Value} {TT : TypeId} {v : Value} {xs : List (Int × Int)} (off i : Nat) (w : World) (h : ColIs elHand 34 w b off cur TT v xs) (hi : i < xs.length) :
    Calls Tryz.prog 147 #[.pointer (some ⟨b, off, none⟩), .int .i64 i] w fun e w' => e = .returned (.tuple #[]) ∧ ColPost elHand 34 w b off cur TT v (rmL xs i (0, 0)) w' := by
  have H := Lib.hid h
  have cp := h.cell
  have fp := h.frz off
  have HO := Lib.hid h.own
  have HNE := Lib.hid h.ne
  have hlt := h.lt
  obtain ⟨g, cap, rfl, hg, hlc, hcm, hc⟩ := h.own.at2 rfl (by omega)
  obtain ⟨c0, c0b, hf⟩ := hc i hi
  have f0 := hf (i * 2)
  have f1 := hf (i * 2 + 1)
  obtain ⟨c1, c1b, -⟩ := hc (xs.length - 1) (by omega)
  have c0' : w.cell? ⟨g, i * 2, none⟩ = some (.int .i64 (xs.getD i (0, 0)).1) := c0
  have c0b' : w.cell? ⟨g, i * 2 + 1, none⟩ = some (.int .i64 (xs.getD i (0, 0)).2) := c0b
  have c1' : w.cell? ⟨g, (xs.length - 1) * 2, none⟩ = some (.int .i64 (xs.getD (xs.length - 1) (0, 0)).1) := c1
  have c1b' : w.cell? ⟨g, (xs.length - 1) * 2 + 1, none⟩ = some (.int .i64 (xs.getD (xs.length - 1) (0, 0)).2) := c1b
  have hgb : g ≠ b := h.ne g rfl
  generalize hlast : xs.getD (xs.length - 1) (0, 0) = last at *
  obtain ⟨l1, l2⟩ := last
  have HK : Hid (Kept (fun k => k = g) w ((w.drew.setCell ⟨g, i * 2, none⟩ (.int .i64 l1)).setCell ⟨g, i * 2 + 1, none⟩ (.int .i64 l2))) := Lib.hid (((Kept.drew _ _).trans (Kept.setCell (F := fun k => k = g) _ (p := ⟨g, i * 2, none⟩) rfl _) (fun _ h => .inl h)).trans (Kept.setCell (F := fun k => k = g) _ (p := ⟨g, i * 2 + 1, none⟩) rfl _) (fun _ h => .inl h))
  have HS : Hid (OwnsF elHand ((w.drew.setCell ⟨g, i * 2, none⟩ (.int .i64 l1)).setCell ⟨g, i * 2 + 1, none⟩ (.int .i64 l2)) 0 34 (.slice (some ⟨g, 0, none⟩) xs.length cap) (xs.set i (l1, l2))) := Lib.hid (by
    have o1 := OwnsF.stored (w := w.drew) (E := elHand) HO.out i 0 (l1, (xs.getD i (0, 0)).2) (.int .i64 l1) hi (by decide) rfl
    have o2 := o1.stored i 1 (l1, l2) (.int .i64 l2) (by simpa using hi) (by decide) (by rw [show elHand.zero = (0, 0) from rfl, getD_set_eq _ _ _ _ hi]; rfl)
    rw [List.set_set] at o2
    exact o2)
  have HD := Lib.hid (col_cut H.out HK.out HS.out)
  rw [show (xs.set i (l1, l2)).dropLast = rmL xs i (0, 0) by unfold rmL; rw [hlast]] at HD
  clear h c0 c1 hc HK HS hlast c0b c1b hf
  unfold maxLen at hcm
  have hbg : ¬ b = g := Ne.symm hgb
  generalize xs.getD i (0, 0) = old at *
  generalize hn : xs.length = n at *
  obtain ⟨m, rfl⟩ : ∃ m, n = m + 1 := ⟨n - 1, by omega⟩
  rw [show m + 1 - 1 = m by omega] at c1' c1b' HD
  go_enter Tryz.func147, Tryz.ntmps147
  go_wp2_with fail
  have hmm : (m : Int) < (m : Int) + 1 := by omega
  have him : (i : Int) < (m : Int) + 1 := by omega
  go_still_tail 13, (by kernel_rfl)
  change wpList _ _ _ _ _ w.drew
  go_wp2
  go_end0
  exact ⟨rfl, HD.out⟩

theorem cloneInt_new (w : World) (B : Nat) (h : B ≤ w.heap.size) : (w.alloc (.cells #[] 3)).ownsRow B 3 1 (.slice (some ⟨w.heap.size, 0, none⟩) 0 0) 0 [] :=
  ⟨rfl, .inr ⟨w.heap.size, 0, #[], rfl, h, heap_alloc_new w _, Nat.le_refl _, by unfold maxLen; omega, rfl, rfl⟩⟩
theorem cloneHand_new (w : World) (B : Nat) (h : B ≤ w.heap.size) : (w.alloc (.cells #[] 34)).ownsRow B 34 2 (.slice (some ⟨w.heap.size, 0, none⟩) 0 0) 0 [] :=
  ⟨rfl, .inr ⟨w.heap.size, 0, #[], rfl, h, heap_alloc_new w _, Nat.le_refl _, by unfold maxLen; omega, rfl, rfl⟩⟩
set_option maxHeartbeats 1000000 in
theorem cloneHand_any (v : Value) (xs : List (Int × Int)) (w : World) (h : OwnsF elHand w 0 34 v xs) (hl : xs.length * 16 ≤ 140737488355328) :
    Calls Tryz.prog 96 #[v] w fun e w' => ∃ v', e = .returned v' ∧ OwnsF elHand w' w.heap.size 34 v' xs ∧ Below w.heap.size w w' := by
  obtain ⟨i0, hi, hz0, hz1, hz2⟩ := info_parts infoHand
  have HR := Lib.hid h.reads
  rcases h.owns.form with ⟨rfl, rfl⟩ | ⟨g, cap, cur, rfl, hh, hg, hn, hcap, hsz⟩
  · have heq : ∀ x : World, (binOp .eql 86 (.slice none 0 0) (.slice none 0 0)).run Tryz.prog x = .ok (.bool true) x := fun x => Lib.run_eql_slice_nil x 86 _ none 0 0 0 0 Tryz.underlying86
    go_enter Tryz.func96, Tryz.ntmps96
    go_wp2
    go_ret
    exact ⟨_, rfl, OwnsF.nil _ _ _ _, Below.refl _ _⟩
  · have HH := Lib.hid h
    have HC : Hid (∀ X, Below w.heap.size w X → ∀ j u, (xs.flatMap elHand.enc)[j]? = some u → X.cell? ((⟨g, 0, none⟩ : Addr).add j) = some u) := Lib.hid (fun X hX j u hu => by
      rw [addr_add', Nat.zero_add, hX.cell (p := ⟨g, j, none⟩) hg, World.ownsRow.cellAt h.owns j (by have := (List.getElem?_eq_some_iff.1 hu).1; rwa [length_enc] at this)]
      exact hu)
    have HL := Lib.hid hl
    have HL2 : Hid (xs.length ≤ maxLen) := Lib.hid (Nat.le_trans hn hcap)
    have heq : ∀ x : World, (binOp .eql 86 (.slice (some ⟨g, 0, none⟩) xs.length cap) (.slice none 0 0)).run Tryz.prog x = .ok (.bool false) x := fun x => Lib.run_eql_slice_nil x 86 _ (some ⟨g, 0, none⟩) xs.length cap 0 0 Tryz.underlying86
    clear h hh
    go_enter Tryz.func96, Tryz.ntmps96
    go_wp2_with (first | (at_builtin; refine wpList_append_own _ rfl _ _ 86 rfl w.heap.size 34 i0 (.agg #[.int .i64 0, .int .i64 0]) 2 16 Tryz.underlying86 hi hz0 hz1 hz2 rfl (by decide) _ 0 [] rfl (cloneHand_new w w.heap.size (Nat.le_refl _)) ⟨g, 0, none⟩ xs.length cap (xs.flatMap elHand.enc) rfl (length_enc elHand xs) (HC.out _ (nb_alloc (Below.refl _ _) _)) (by intro u hu; obtain ⟨x, _, hx⟩ := List.mem_flatMap.1 hu; exact elHand.one x u hx) (by rw [Nat.zero_add]; exact HL2.out) (by rw [Nat.zero_add]; exact HL.out) (by simp) ?_))
    intro v' w2 hown hgr _
    have HB2 : Hid (Below w.heap.size w w2) := Lib.hid ((nb_alloc (Below.refl _ _) _).grown hgr (by simp) (fun j hj => by simp [Value.ownBlock] at hj; omega))
    have HO2 : Hid (OwnsF elHand w2 w.heap.size 34 v' xs) := Lib.hid (hown)
    clear hown hgr
    go_wp2
    go_ret
    exact ⟨_, rfl, HO2.out, HB2.out⟩

set_option maxHeartbeats 400000 in
theorem hcolList_any {b : Nat} {cur : Array Value} {TT : TypeId} {v : Value} {xs : List (Int × Int)} (off : Nat) (w : World) (h : ColIs elHand 34 w b off cur TT v xs) (hl : xs.length * 16 ≤ 140737488355328) :
    Calls Tryz.prog 126 #[.pointer (some ⟨b, off, none⟩)] w fun e w' => ∃ v', e = .returned v' ∧ OwnsF elHand w' w.heap.size 34 v' xs ∧ Below w.heap.size w w' := by
  have HO := Lib.hid h.own
  have cp := h.cell
  obtain ⟨a, cap, rfl, _, _, _⟩ := h.own.reads
  clear h
  go_enter Tryz.func126, Tryz.ntmps126
  go_wp2_with fail
  refine (cloneHand_any _ xs _ HO.out hl).mono ?_
  rintro e w' ⟨v', rfl, ho, hb⟩
  have HO' := Lib.hid ho
  have HB := Lib.hid hb
  clear ho hb
  go_wp2
  go_ret
  exact ⟨_, rfl, HO'.out, HB.out⟩
end Go.Proofs.YtcmpaohefihijabGreatDoor

/- What a table answers, as plain functions. -/
namespace Go.Proofs.YtcmpaohefihijabGreatDoor
open Go.RowKit

/-- The set of a table and its rows, as they can be. -/
structure TabOk (m : Int) (rows : List Rw) : Prop where
  m0 : 0 ≤ m
  m1 : m ≤ 255
  row : ∀ r ∈ rows, r.m = m ∧ ∀ k, k < 8 → tb m k = false → r.f k = 0

/-- the first error of Add -/
def addE (m : Int) (r : Rw) : Int := if bErr r.m [r.f 0, r.f 1, r.f 2, r.f 3, r.f 4, r.f 5, r.f 6, r.f 7] = 0 then (if r.m = m then 0 else 4) else bErr r.m [r.f 0, r.f 1, r.f 2, r.f 3, r.f 4, r.f 5, r.f 6, r.f 7]
def addL (m : Int) (rows : List Rw) (r : Rw) : List Rw := if addE m r = 0 then rows ++ [r] else rows
def addN (m : Int) (rows : List Rw) (r : Rw) : Int := if addE m r = 0 then rows.length else 0
def rowE (rows : List Rw) (i : Int) : Int := if inB i 0 (rows.length - 1) then 0 else 5
def rowR (rows : List Rw) (i : Int) : Rw := if inB i 0 (rows.length - 1) then rows.getD i.toNat rowZ else rowZ
def remL (rows : List Rw) (i : Int) : List Rw := if inB i 0 (rows.length - 1) then rmL rows i.toNat rowZ else rows
def colE (m k : Int) : Int := if inB k 0 7 then (if tb m k.toNat then 0 else 5) else 1
def colL (m : Int) (rows : List Rw) (k : Int) : List Int := if colE m k = 0 then colOf rows k.toNat else []
def setE (m : Int) (rows : List Rw) (i k n : Int) : Int := if inB i 0 (rows.length - 1) then (if colE m k = 0 then (if inB n (-1000000000) 1000000000 then 0 else 1) else colE m k) else 5
def setL (m : Int) (rows : List Rw) (i k n : Int) : List Rw := if setE m rows i k n = 0 then rows.set i.toNat (putV (rows.getD i.toNat rowZ) k.toNat n) else rows

theorem TabOk.nil {m : Int} (h0 : 0 ≤ m) (h1 : m ≤ 255) : TabOk m [] := ⟨h0, h1, fun r hr => by simp at hr⟩
theorem addE_zero {m : Int} {r : Rw} (h : addE m r = 0) : bErr r.m [r.f 0, r.f 1, r.f 2, r.f 3, r.f 4, r.f 5, r.f 6, r.f 7] = 0 ∧ r.m = m := by
  unfold addE at h
  by_cases e : bErr r.m [r.f 0, r.f 1, r.f 2, r.f 3, r.f 4, r.f 5, r.f 6, r.f 7] = 0
  · rw [if_pos e] at h
    by_cases e2 : r.m = m
    · exact ⟨e, e2⟩
    · rw [if_neg e2] at h; simp at h
  · rw [if_neg e] at h; exact absurd h e
theorem TabOk.add {m : Int} {rows : List Rw} (ok : TabOk m rows) (r : Rw) : TabOk m (addL m rows r) := by
  unfold addL
  split
  · rename_i h
    obtain ⟨h1, h2⟩ := addE_zero h
    refine ⟨ok.m0, ok.m1, fun x hx => ?_⟩
    rw [List.mem_append] at hx
    rcases hx with hx | hx
    · exact ok.row x hx
    · simp at hx; subst hx
      exact ⟨h2, fun k hk ht => ((bErr_zero h1).2 k hk).1 (by rw [h2]; exact ht)⟩
  · exact ok
theorem TabOk.rm {m : Int} {rows : List Rw} (ok : TabOk m rows) (i : Nat) : TabOk m (rmL rows i rowZ) := by
  refine ⟨ok.m0, ok.m1, fun x hx => ?_⟩
  have hx' := List.dropLast_subset _ hx
  rcases List.mem_or_eq_of_mem_set hx' with h | h
  · exact ok.row x h
  · by_cases e : rows = []
    · subst e; simp [rmL] at hx
    · exact ok.row x (by rw [h]; exact mem_getD (by have := List.length_pos_iff.2 e; omega))
theorem TabOk.rem {m : Int} {rows : List Rw} (ok : TabOk m rows) (i : Int) : TabOk m (remL rows i) := by
  unfold remL; split
  · exact ok.rm _
  · exact ok
theorem TabOk.set {m : Int} {rows : List Rw} (ok : TabOk m rows) (i k n : Int) : TabOk m (setL m rows i k n) := by
  unfold setL; split
  · rename_i h
    refine ⟨ok.m0, ok.m1, fun x hx => ?_⟩
    rcases List.mem_or_eq_of_mem_set hx with hx | hx
    · exact ok.row x hx
    · unfold setE at h
      cases hi : inB i 0 (rows.length - 1)
      · rw [hi] at h; simp at h
      · rw [hi, if_pos rfl] at h
        have hi' := inB_t hi
        obtain ⟨r1, r2⟩ := ok.row _ (mem_getD (d := rowZ) (show i.toNat < rows.length by omega))
        subst hx
        refine ⟨r1, fun j hj ht => ?_⟩
        unfold putV
        by_cases e : j = k.toNat
        · exfalso
          cases hb : tb m k.toNat
          · unfold colE at h; rw [hb] at h
            cases hk : inB k 0 7 <;> rw [hk] at h <;> simp at h
          · rw [← e, ht] at hb; cases hb
        · simp [e]; exact r2 j hj ht
  · exact ok
theorem addL_len (m : Int) (rows : List Rw) (r : Rw) : (addL m rows r).length ≤ rows.length + 1 := by unfold addL; split <;> simp
theorem remL_len (rows : List Rw) (i : Int) : (remL rows i).length ≤ rows.length := by unfold remL; split <;> simp [rmL_len]
theorem setL_len (m : Int) (rows : List Rw) (i k n : Int) : (setL m rows i k n).length = rows.length := by unfold setL; split <;> simp
end Go.Proofs.YtcmpaohefihijabGreatDoor

/- A table in memory: its object, its columns behind a map, and what stays true of them. -/
namespace Go.Proofs.YtcmpaohefihijabGreatDoor
open Go.RowKit

/-- A column of ints in block b, all in blocks of G. -/
def ColAt (w : World) (b : Nat) (G : Nat → Prop) (xs : List Int) : Prop :=
  ∃ v, ColIs elInt 3 w b 0 #[v] 179 v xs ∧ G b ∧ ∀ k, v.ownBlock = some k → G k
theorem ColAt.kept {w w' : World} {b : Nat} {G H : Nat → Prop} {xs : List Int} (h : ColAt w b G xs) (hk : Kept H w w') (hf : ∀ k, G k → ¬ H k) : ColAt w' b G xs := by
  obtain ⟨v, hc, hb, hv⟩ := h
  exact ⟨v, hc.kept hk (hf b hb) (fun k e => hf k (hv k e)), hb, hv⟩
theorem ColAt.mono {w : World} {b : Nat} {G H : Nat → Prop} {xs : List Int} (h : ColAt w b G xs) (hf : ∀ k, k < w.heap.size → G k → H k) : ColAt w b H xs := by
  obtain ⟨v, hc, hb, hv⟩ := h
  exact ⟨v, hc, hf b hc.lt hb, fun k e => hf k (hc.own.lt e) (hv k e)⟩

def ptrOf (cb : Int → Nat) (k : Int) : Value := .pointer (some ⟨cb k, 0, none⟩)

/-- A table at block p, in the blocks F; c: to which part each block belongs. -/
structure TabIs (w : World) (p : Nat) (F : Nat → Prop) (m : Int) (hs : List (Int × Int)) (xs : Int → List Int) (v : Value) (mb n : Nat) (cb : Int → Nat) (c : Nat → Int) : Prop where
  obj : w.heap[p]? = some (.cells #[.int .i64 m, v, .map (some mb)] 203 (0, 0))
  own : OwnsF elHand w 0 34 v hs
  map : MapIs kInt w mb n (kinds m) (ptrOf cb)
  cols : ∀ k ∈ kinds m, ColAt w (cb k) (fun b => F b ∧ c b = k) (xs k)
  fp : F p ∧ c p = -1
  fm : F mb ∧ c mb = -2
  fv : ∀ b, v.ownBlock = some b → F b ∧ c b = -3
  lt : ∀ b, F b → b < w.heap.size

theorem kinds_ge {m k : Int} (h : k ∈ kinds m) : 0 ≤ k ∧ k ≤ 7 := by
  obtain ⟨j, hj, rfl, _⟩ := mem_kindsTo.1 h
  omega
theorem kinds_iff {m : Int} {j : Nat} (h : j < 8) : (j : Int) ∈ kinds m ↔ tb m j = true := by
  constructor
  · intro hk
    obtain ⟨i, hi, e, ht⟩ := mem_kindsTo.1 hk
    obtain rfl : j = i := by omega
    exact ht
  · intro ht
    exact mem_kindsTo.2 ⟨j, h, rfl, ht⟩

section
variable {w w' : World} {p mb n : Nat} {F : Nat → Prop} {m : Int} {hs : List (Int × Int)} {xs : Int → List Int} {v : Value} {cb : Int → Nat} {c : Nat → Int}

theorem TabIs.kept {H : Nat → Prop} (h : TabIs w p F m hs xs v mb n cb c) (hk : Kept H w w') (hf : ∀ k, F k → ¬ H k) : TabIs w' p F m hs xs v mb n cb c :=
  ⟨by rw [hk.block p (h.lt p h.fp.1) (hf p h.fp.1)]; exact h.obj, h.own.kept hk (fun k e => hf k (h.fv k e).1), h.map.kept hk (hf mb h.fm.1), fun k hk' => (h.cols k hk').kept hk (fun b hb => hf b hb.1), h.fp, h.fm, h.fv, fun b hb => Nat.lt_of_lt_of_le (h.lt b hb) hk.size⟩
theorem TabIs.later (h : TabIs w p F m hs xs v mb n cb c) (hb : Below w.heap.size w w') : TabIs w' p F m hs xs v mb n cb c :=
  h.kept (H := fun _ => False) (Kept.ofBelow hb) (fun _ _ => id)
theorem TabIs.congr {ys : Int → List Int} (h : TabIs w p F m hs xs v mb n cb c) (e : ∀ k ∈ kinds m, xs k = ys k) : TabIs w p F m hs ys v mb n cb c :=
  ⟨h.obj, h.own, h.map, fun k hk => by rw [← e k hk]; exact h.cols k hk, h.fp, h.fm, h.fv, h.lt⟩
theorem TabIs.hcol (h : TabIs w p F m hs xs v mb n cb c) : ColIs elHand 34 w p 1 #[.int .i64 m, v, .map (some mb)] 203 v hs :=
  ⟨h.obj, rfl, h.own, fun k e => fun e2 => by have h1 := (h.fv k e).2; have h2 := h.fp.2; rw [e2] at h1; omega⟩
theorem TabIs.cell0 (h : TabIs w p F m hs xs v mb n cb c) : w.cell? ⟨p, 0, none⟩ = some (.int .i64 m) := by rw [cell_of_row _ _ _ _ _ _ h.obj]; rfl
theorem TabIs.cell1 (h : TabIs w p F m hs xs v mb n cb c) : w.cell? ⟨p, 1, none⟩ = some v := by rw [cell_of_row _ _ _ _ _ _ h.obj]; rfl
theorem TabIs.cell2 (h : TabIs w p F m hs xs v mb n cb c) : w.cell? ⟨p, 2, none⟩ = some (.map (some mb)) := by rw [cell_of_row _ _ _ _ _ _ h.obj]; rfl

/-- blocks that a call has made go to what it turned -/
def growF (F : Nat → Prop) (w w' : World) : Nat → Prop := fun b => F b ∨ (w.heap.size ≤ b ∧ b < w'.heap.size)
def growC (c : Nat → Int) (w : World) (k : Int) : Nat → Int := fun b => if w.heap.size ≤ b then k else c b
theorem growF_moves (F : Nat → Prop) (w w' : World) : Moves w F (growF F w w') := fun _ h => h.imp id And.left
theorem growC_old {c : Nat → Int} {w : World} {k : Int} {b : Nat} (h : b < w.heap.size) : growC c w k b = c b := if_neg (by omega)
theorem growC_new {c : Nat → Int} {w : World} {k : Int} {b : Nat} (h : w.heap.size ≤ b) : growC c w k b = k := if_pos h

/-- The handles have been turned. -/
theorem TabIs.hstep {hs' : List (Int × Int)} (h : TabIs w p F m hs xs v mb n cb c) (hp : ColPost elHand 34 w p 1 #[.int .i64 m, v, .map (some mb)] 203 v hs' w') :
    ∃ v', TabIs w' p (growF F w w') m hs' xs v' mb n cb (growC c w (-3)) ∧ Kept F w w' := by
  obtain ⟨v', hc, hk, hv⟩ := hp
  have hkF : Kept F w w' := hk.mono (fun b e => by
    rcases e with rfl | e
    · exact .inl h.fp.1
    · exact .inl (h.fv b e).1)
  have hne : ∀ b, F b → c b ≠ -1 → c b ≠ -3 → ¬ (b = p ∨ v.ownBlock = some b) := fun b hb h1 h3 e => by
    rcases e with rfl | e
    · exact h1 h.fp.2
    · exact h3 (h.fv b e).2
  refine ⟨v', ⟨by simpa using hc.heap, hc.own, h.map.kept hk (hne mb h.fm.1 (by rw [h.fm.2]; decide) (by rw [h.fm.2]; decide)), fun k hk' => ?_, ⟨.inl h.fp.1, by rw [growC_old (h.lt p h.fp.1)]; exact h.fp.2⟩, ⟨.inl h.fm.1, by rw [growC_old (h.lt mb h.fm.1)]; exact h.fm.2⟩, fun b e => ?_, fun b hb => ?_⟩, hkF⟩
  · have h0 := kinds_ge hk'
    have h1 := (h.cols k hk').mono (H := fun b => (F b ∧ c b = k) ∧ b < w.heap.size) (fun b hb hg => ⟨hg, hb⟩)
    exact (h1.kept hk (fun b hb => hne b hb.1.1 (by rw [hb.1.2]; omega) (by rw [hb.1.2]; omega))).mono (fun b _ hb => ⟨.inl hb.1.1, by rw [growC_old hb.2]; exact hb.1.2⟩)
  · rcases hv b e with e' | e'
    · exact ⟨.inl (h.fv b e').1, by rw [growC_old (h.lt b (h.fv b e').1)]; exact (h.fv b e').2⟩
    · exact ⟨.inr ⟨e', hc.own.lt e⟩, growC_new e'⟩
  · rcases hb with hb | hb
    · exact Nat.lt_of_lt_of_le (h.lt b hb) hk.size
    · exact hb.2

/-- Column k has been turned. -/
theorem TabIs.cstep {k : Int} {u : Value} {ys : List Int} (h : TabIs w p F m hs xs v mb n cb c) (hk : k ∈ kinds m) (hu : ∀ b, b = cb k ∨ u.ownBlock = some b → F b ∧ c b = k) (hp : ColPost elInt 3 w (cb k) 0 #[u] 179 u ys w') :
    TabIs w' p (growF F w w') m hs (fun j => if j = k then ys else xs j) v mb n cb (growC c w k) ∧ Kept F w w' := by
  obtain ⟨u', hc, hkp, hv⟩ := hp
  have hkF : Kept F w w' := hkp.mono (fun b e => .inl (hu b e).1)
  have h0 := kinds_ge hk
  have hne : ∀ b, F b → c b ≠ k → ¬ (b = cb k ∨ u.ownBlock = some b) := fun b _ h1 e => h1 (hu b e).2
  refine ⟨⟨?_, h.own.kept hkp (fun b e => hne b (h.fv b e).1 (by rw [(h.fv b e).2]; omega)), h.map.kept hkp (hne mb h.fm.1 (by rw [h.fm.2]; omega)), fun j hj => ?_, ⟨.inl h.fp.1, by rw [growC_old (h.lt p h.fp.1)]; exact h.fp.2⟩, ⟨.inl h.fm.1, by rw [growC_old (h.lt mb h.fm.1)]; exact h.fm.2⟩, fun b e => ⟨.inl (h.fv b e).1, by rw [growC_old (h.lt b (h.fv b e).1)]; exact (h.fv b e).2⟩, fun b hb => ?_⟩, hkF⟩
  · rw [hkp.block p (h.lt p h.fp.1) (hne p h.fp.1 (by rw [h.fp.2]; omega))]; exact h.obj
  · by_cases e : j = k
    · subst e
      rw [if_pos rfl]
      refine ⟨u', by simpa using hc, ⟨.inl (hu _ (.inl rfl)).1, by rw [growC_old (h.lt _ (hu _ (.inl rfl)).1)]; exact (hu _ (.inl rfl)).2⟩, fun b hb => ?_⟩
      rcases hv b hb with e' | e'
      · exact ⟨.inl (hu b (.inr e')).1, by rw [growC_old (h.lt b (hu b (.inr e')).1)]; exact (hu b (.inr e')).2⟩
      · exact ⟨.inr ⟨e', hc.own.lt hb⟩, growC_new e'⟩
    · rw [if_neg e]
      have h1 := (h.cols j hj).mono (H := fun b => (F b ∧ c b = j) ∧ b < w.heap.size) (fun b hb hg => ⟨hg, hb⟩)
      exact (h1.kept hkp (fun b hb => hne b hb.1.1 (by rw [hb.1.2]; exact e))).mono (fun b _ hb => ⟨.inl hb.1.1, by rw [growC_old hb.2]; exact hb.1.2⟩)
  · rcases hb with hb | hb
    · exact Nat.lt_of_lt_of_le (h.lt b hb) hkp.size
    · exact hb.2

/-- Column k, opened. -/
theorem TabIs.colIs {k : Int} (h : TabIs w p F m hs xs v mb n cb c) (hk : k ∈ kinds m) : ∃ u, ColIs elInt 3 w (cb k) 0 #[u] 179 u (xs k) ∧ ∀ b, b = cb k ∨ u.ownBlock = some b → F b ∧ c b = k := by
  obtain ⟨u, hc, hb, hu⟩ := h.cols k hk
  exact ⟨u, hc, fun b e => by
    rcases e with rfl | e
    · exact hb
    · exact hu b e⟩
/-- Of its new blocks a table wants only cells. -/
theorem TabIs.cellsOnly {n0 : Nat} (h : TabIs w p F m hs xs v mb n cb c) (hm : mb < n0) : TabIs w p (fun b => F b ∧ (b < n0 ∨ CellsAt w b)) m hs xs v mb n cb c := by
  refine ⟨h.obj, h.own, h.map, fun k hk => ?_, ⟨⟨h.fp.1, .inr ⟨_, _, _, h.obj⟩⟩, h.fp.2⟩, ⟨⟨h.fm.1, .inl hm⟩, h.fm.2⟩, fun b e => ⟨⟨(h.fv b e).1, .inr ?_⟩, (h.fv b e).2⟩, fun b hb => h.lt b hb.1⟩
  · obtain ⟨x, hc, hb, hv⟩ := h.cols k hk
    refine ⟨x, hc, ⟨⟨hb.1, .inr ⟨_, _, _, hc.heap⟩⟩, hb.2⟩, fun b e => ⟨⟨(hv b e).1, .inr ?_⟩, (hv b e).2⟩⟩
    obtain ⟨cs, h2⟩ := hc.own.owns.isC e
    exact ⟨_, _, _, h2⟩
  · obtain ⟨cs, h2⟩ := h.own.owns.isC e
    exact ⟨_, _, _, h2⟩
end

/-- A loop that turns the columns one by one, from xs to ys. -/
def ColLoop (w0 w : World) (p : Nat) (F : Nat → Prop) (m : Int) (hs : List (Int × Int)) (xs ys : Int → List Int) (v : Value) (mb n : Nat) (cb : Int → Nat) (r : Nat) (todo : List Int) (cnt : Nat) : Prop :=
  ∃ F' c', TabIs w p F' m hs (fun k => if k ∈ todo then xs k else ys k) v mb n cb c' ∧ RangeIs kInt w mb r n (kinds m) (ptrOf cb) todo cnt ∧ Kept F w0 w ∧ Moves w0 F F' ∧ ¬ F' r

section
variable {w0 w w' w'' : World} {p mb n r cnt cnt' : Nat} {F : Nat → Prop} {m : Int} {hs : List (Int × Int)} {xs ys : Int → List Int} {v : Value} {cb : Int → Nat} {c : Nat → Int} {todo : List Int}

theorem ColLoop.start (h : TabIs w0 p F m hs xs v mb n cb c) (hr : RangeIs kInt w mb w0.heap.size n (kinds m) (ptrOf cb) (kinds m) cnt) (hb : Below w0.heap.size w0 w) : ColLoop w0 w p F m hs xs ys v mb n cb w0.heap.size (kinds m) cnt :=
  ⟨F, c, (h.later hb).congr (fun k hk => by rw [if_pos hk]), hr, Kept.ofBelow hb, Moves.refl _ _, fun hf => by have := h.lt _ hf; omega⟩
theorem ColLoop.range (h : ColLoop w0 w p F m hs xs ys v mb n cb r todo cnt) : RangeIs kInt w mb r n (kinds m) (ptrOf cb) todo cnt := by
  obtain ⟨F', c', _, hr, _⟩ := h; exact hr
theorem ColLoop.done (h : ColLoop w0 w p F m hs xs ys v mb n cb r [] cnt) : ∃ F' c', TabIs w p F' m hs ys v mb n cb c' ∧ Kept F w0 w ∧ Moves w0 F F' := by
  obtain ⟨F', c', ht, _, hk, hm, _⟩ := h
  exact ⟨F', c', ht.congr (fun k _ => by simp), hk, hm⟩
/-- Column k comes up: what it is, and what is there when it has been turned. -/
theorem ColLoop.next {k : Int} (h : ColLoop w0 w p F m hs xs ys v mb n cb r todo cnt) (hk : k ∈ todo) (hr0 : w0.heap.size ≤ r) (hr : RangeIs kInt w' mb r n (kinds m) (ptrOf cb) (todo.filter (fun y => !decide (y = k))) cnt') (hw : Kept (fun q => q = r) w w') (hsz : w'.heap.size = w.heap.size) :
    ∃ u, ColIs elInt 3 w' (cb k) 0 #[u] 179 u (xs k) ∧ ∀ w'', ColPost elInt 3 w' (cb k) 0 #[u] 179 u (ys k) w'' → ColLoop w0 w'' p F m hs xs ys v mb n cb r (todo.filter (fun y => !decide (y = k))) cnt' := by
  obtain ⟨F', c', ht, hr', hkk, hm, hnr⟩ := h
  have hkm := hr'.sub k hk
  have ht' := ht.kept hw (fun b hb e => hnr (e ▸ hb))
  obtain ⟨u, hc, hu⟩ := ht'.colIs hkm
  rw [if_pos hk] at hc
  refine ⟨u, hc, fun w'' hp => ?_⟩
  obtain ⟨h1, h2⟩ := ht'.cstep hkm hu hp
  have hrl := hr.lt
  obtain ⟨_, _, hkp, _⟩ := hp
  have h0 := kinds_ge hkm
  refine ⟨growF F' w' w'', growC c' w' k, h1.congr (fun j hj => ?_), hr.kept hkp (fun e => by have := (hu mb e).2; rw [ht.fm.2] at this; omega) (fun e => hnr (hu r e).1), ?_, ?_, ?_⟩
  · by_cases e : j = k
    · subst e; simp
    · rw [if_neg e]; simp [e]
  · exact (hkk.trans hw (fun b e => .inr (by omega))).trans h2 hm
  · exact hm.trans (growF_moves F' w' w'') (by rw [hsz]; exact hkk.size)
  · rintro (hf | hf)
    · exact hnr hf
    · omega
end
end Go.Proofs.YtcmpaohefihijabGreatDoor

/- The contracts of package table: New, hasRow, column, Add, Row, Remove, Set, Column, Handles. -/
namespace Go.Proofs.YtcmpaohefihijabGreatDoor
set_option maxRecDepth 8000
open Go.RowKit

/-- At block p lies a table of the set m with these rows, in the blocks F. -/
def TableAt (w : World) (p : Nat) (F : Nat → Prop) (m : Int) (rows : List Rw) : Prop :=
  ∃ v mb n cb c, TabIs w p F m (hsOf rows) (fun k => colOf rows k.toNat) v mb n cb c
theorem TableAt.kept {w w' : World} {p : Nat} {F H : Nat → Prop} {m : Int} {rows : List Rw} (h : TableAt w p F m rows) (hk : Kept H w w') (hf : ∀ k, F k → ¬ H k) : TableAt w' p F m rows := by
  obtain ⟨v, mb, n, cb, c, h⟩ := h
  exact ⟨v, mb, n, cb, c, h.kept hk hf⟩
theorem TableAt.later {w w' : World} {p : Nat} {F : Nat → Prop} {m : Int} {rows : List Rw} (h : TableAt w p F m rows) (hb : Below w.heap.size w w') : TableAt w' p F m rows :=
  h.kept (H := fun _ => False) (Kept.ofBelow hb) (fun _ _ => id)
theorem TableAt.lt {w : World} {p : Nat} {F : Nat → Prop} {m : Int} {rows : List Rw} (h : TableAt w p F m rows) : ∀ b, F b → b < w.heap.size := by
  obtain ⟨v, mb, n, cb, c, h⟩ := h; exact h.lt

set_option maxHeartbeats 400000 in
theorem hasRow_any (p : Nat) (F : Nat → Prop) (m : Int) (rows : List Rw) (i : Int) (w : World) (h : TableAt w p F m rows) :
    Calls Tryz.prog 101 #[.pointer (some ⟨p, 0, none⟩), .int .i64 i] w fun e w' => e = .returned (.bool (inB i 0 (rows.length - 1))) ∧ w = w' := by
  obtain ⟨v, mb, n, cb, c, h⟩ := h
  have c1 := h.cell1
  obtain ⟨a, cap, rfl, _, _, _⟩ := h.own.reads
  rw [hsOf_len] at c1
  clear h
  go_enter Tryz.func101, Tryz.ntmps101
  go_wp2
  all_goals (go_ret; refine ⟨ret_bool (Bool.eq_iff_iff.2 ?_), rfl⟩; simp [inB]; try omega)

theorem zeroCol (w : World) : (zeroValue 175).run Tryz.prog w = .ok (.pointer none) w := by kernel_rfl
theorem look2_run {w : World} {b n : Nat} {ks : List Int} {f : Int → Value} (h : MapIs kInt w b n ks f) (a : Int) (ha : I64r a) :
    (Instr.lookup 198 (.map (some b)) (.int .i64 a) true).run Tryz.prog w = .ok (.tuple #[if a ∈ ks then f a else .pointer none, .bool (decide (a ∈ ks))]) w :=
  h.look2 Tryz.underlying198 (zeroCol w) a ha

def ColumnPost (w : World) (m k : Int) (cb : Int → Nat) (e : Ending) (w' : World) : Prop :=
  e = .returned (.tuple #[if colE m k = 0 then ptrOf cb k else .pointer none, .int .i64 (colE m k)]) ∧ w = w'

set_option maxHeartbeats 400000 in
theorem column_any {p mb n : Nat} {F : Nat → Prop} {m : Int} {hs : List (Int × Int)} {xs : Int → List Int} {v : Value} {cb : Int → Nat} {c : Nat → Int} (k : Int) (w : World) (h : TabIs w p F m hs xs v mb n cb c) :
    Calls Tryz.prog 102 #[.pointer (some ⟨p, 0, none⟩), .int .i64 k] w (ColumnPost w m k cb) := by
  have c2 := h.cell2
  cases hk : inB k 0 7
  · have HP : Hid (∀ x, ColumnPost x m k cb (.returned (.tuple #[.pointer none, .int .i64 1])) x) := Lib.hid (fun x => by
      have : colE m k = 1 := by rw [colE, hk]; rfl
      exact ⟨by rw [this]; rfl, rfl⟩)
    rcases inB_f hk with b1 | b1
    all_goals
      go_enter Tryz.func102, Tryz.ntmps102
      go_wp2
      go_ret2
      exact HP.out _
  · obtain ⟨b1, b2⟩ := inB_t hk
    obtain ⟨j, rfl⟩ := Int.eq_ofNat_of_zero_le b1
    have hlk := look2_run h.map (j : Int) ⟨by omega, by omega⟩
    have hmem := kinds_iff (m := m) (j := j) (by omega)
    cases ht : tb m j
    · have hn : ¬ (j : Int) ∈ kinds m := fun e => by have := hmem.1 e; rw [ht] at this; cases this
      rw [if_neg hn, decide_eq_false hn] at hlk
      have HP : Hid (∀ x, ColumnPost x m j cb (.returned (.tuple #[.pointer none, .int .i64 5])) x) := Lib.hid (fun x => by
        have : colE m j = 5 := by rw [colE, hk, Int.toNat_natCast, ht]; rfl
        exact ⟨by rw [this]; rfl, rfl⟩)
      clear h hk hmem hn ht
      go_enter Tryz.func102, Tryz.ntmps102
      go_wp2
      go_ret2
      exact HP.out _
    · have hn : (j : Int) ∈ kinds m := hmem.2 ht
      rw [if_pos hn, decide_eq_true hn] at hlk
      have HP : Hid (∀ x, ColumnPost x m j cb (.returned (.tuple #[ptrOf cb j, .int .i64 0])) x) := Lib.hid (fun x => by
        have : colE m j = 0 := by rw [colE, hk, Int.toNat_natCast, ht]; rfl
        exact ⟨by rw [this]; rfl, rfl⟩)
      clear h hk hmem hn ht
      go_enter Tryz.func102, Tryz.ntmps102
      go_wp2
      go_ret2
      exact HP.out _

theorem box2_block (w : World) (A C : Obj) (cs : Array Value) (T : TypeId) : (((w.alloc A).alloc (.cells cs T)).alloc C).heap[w.heap.size + 1]? = some (.cells cs T) := by
  rw [Below.heap_alloc _ _ _ (by simp)]; exact heap_alloc2_new w A _
theorem box2_cell (w : World) (A C : Obj) (cs : Array Value) (T : TypeId) (j : Nat) : (((w.alloc A).alloc (.cells cs T)).alloc C).cell? ⟨w.heap.size + 1, j, none⟩ = cs[j]? :=
  cell_of_row _ _ _ _ _ _ (box2_block w A C cs T)
theorem box1_block (w : World) (A B C : Obj) : (((w.alloc A).alloc B).alloc C).heap[w.heap.size]? = some A := by
  rw [Below.heap_alloc _ _ _ (by simp; omega)]; exact heap_alloc2_old w A _

theorem vals_at (x : Int) (f : Nat → Int) (j : Nat) (h : j < 8) : (#[.int .i64 x, .int .i64 (f 0), .int .i64 (f 1), .int .i64 (f 2), .int .i64 (f 3), .int .i64 (f 4), .int .i64 (f 5), .int .i64 (f 6), .int .i64 (f 7)] : Array Value)[1 + j]? = some (.int .i64 (f j)) := by
  obtain rfl | rfl | rfl | rfl | rfl | rfl | rfl | rfl : j = 0 ∨ j = 1 ∨ j = 2 ∨ j = 3 ∨ j = 4 ∨ j = 5 ∨ j = 6 ∨ j = 7 := by omega
  all_goals rfl

def AddPost (w : World) (p : Nat) (F : Nat → Prop) (m : Int) (rows : List Rw) (r : Rw) (e : Ending) (w' : World) : Prop :=
  e = .returned (.tuple #[.int .i64 (addN m rows r), .int .i64 (addE m r)]) ∧ ∃ F', TableAt w' p F' m (addL m rows r) ∧ Kept F w w' ∧ Moves w F F'
theorem AddPost.no {w w' : World} {p : Nat} {F : Nat → Prop} {m : Int} {rows : List Rw} {r : Rw} {x : Int} (h : TableAt w p F m rows) (hx : addE m r = x) (h0 : x ≠ 0) (hb : Below w.heap.size w w') : AddPost w p F m rows r (.returned (.tuple #[.int .i64 0, .int .i64 x])) w' := by
  subst hx
  refine ⟨by rw [addN, if_neg h0], F, ?_, Kept.ofBelow hb, Moves.refl _ _⟩
  rw [addL, if_neg h0]; exact h.later hb

set_option maxHeartbeats 2000000 in
theorem tabAdd_any (p : Nat) (F : Nat → Prop) (m : Int) (rows : List Rw) (r : Rw) (w : World) (h : TableAt w p F m rows) (hl : (rows.length + 1) * 16 ≤ 140737488355328) :
    Calls Tryz.prog 93 #[.pointer (some ⟨p, 0, none⟩), .agg #[.int .i64 r.s, .int .i64 r.g], .agg #[.int .i64 r.m, .int .i64 (r.f 0), .int .i64 (r.f 1), .int .i64 (r.f 2), .int .i64 (r.f 3), .int .i64 (r.f 4), .int .i64 (r.f 5), .int .i64 (r.f 6), .int .i64 (r.f 7)]] w (AddPost w p F m rows r) := by
  have HT := Lib.hid h
  by_cases he : bErr r.m [r.f 0, r.f 1, r.f 2, r.f 3, r.f 4, r.f 5, r.f 6, r.f 7] = 0
  · by_cases hm : r.m = m
    · subst hm
      have HL := Lib.hid hl
      obtain ⟨v, mb, n, cb, c, h⟩ := h
      have HB : Hid (Below w.heap.size w ((w.alloc (.cells #[.int .i64 r.s, .int .i64 r.g] 34)).alloc (.cells #[.int .i64 r.m, .int .i64 (r.f 0), .int .i64 (r.f 1), .int .i64 (r.f 2), .int .i64 (r.f 3), .int .i64 (r.f 4), .int .i64 (r.f 5), .int .i64 (r.f 6), .int .i64 (r.f 7)] 37))) := Lib.hid (nb_alloc (nb_alloc (Below.refl _ _) _) _)
      have HE := Lib.hid he
      have hne : (r.m != r.m) = false := by simp
      clear he
      go_enter Tryz.func93, Tryz.ntmps93
      go_wp2_with fail
      refine (checkBeast_any _ _ _ _ _ _ _ _ _ _).mono ?_
      rintro e w' ⟨rfl, hw'⟩
      rw [HE.out]
      have hb' : Below w.heap.size w w' := by rw [← hw']; exact nb_alloc HB.out _
      have c0 := (h.later hb').cell0
      have cb0 : w'.cell? ⟨w.heap.size + 1, 0, none⟩ = some (.int .i64 r.m) := by rw [← hw', box2_cell]; rfl
      have hbb : w'.heap[w.heap.size + 1]? = some (.cells #[.int .i64 r.m, .int .i64 (r.f 0), .int .i64 (r.f 1), .int .i64 (r.f 2), .int .i64 (r.f 3), .int .i64 (r.f 4), .int .i64 (r.f 5), .int .i64 (r.f 6), .int .i64 (r.f 7)] 37) := by rw [← hw']; exact box2_block _ _ _ _ _
      have hbh : w'.heap[w.heap.size]? = some (.cells #[.int .i64 r.s, .int .i64 r.g] 34) := by rw [← hw']; exact box1_block _ _ _ _
      have HB' := Lib.hid hb'
      have HTI := Lib.hid (h.later hb')
      have HBB := Lib.hid hbb
      have HBH := Lib.hid hbh
      clear hw' hb' h hbb hbh
      go_wp2_with fail
      go_quiet (fail)
      go_wp2_with fail
      clear cb0 c0
      have HBW : Hid (Below w.heap.size w (w'.drewN nq).drew) := Lib.hid (nb_drewN HB'.out).drew
      have HTW : Hid (TabIs (w'.drewN nq).drew p F r.m (hsOf rows) (fun k => colOf rows k.toNat) v mb n cb c) := Lib.hid (HTI.out.later (nb_drewN (Below.refl _ _)).drew)
      have HBBW : Hid ((w'.drewN nq).drew.heap[w.heap.size + 1]? = some (.cells #[.int .i64 r.m, .int .i64 (r.f 0), .int .i64 (r.f 1), .int .i64 (r.f 2), .int .i64 (r.f 3), .int .i64 (r.f 4), .int .i64 (r.f 5), .int .i64 (r.f 6), .int .i64 (r.f 7)] 37)) := HBB
      have kh0 : (w'.drewN nq).cell? ⟨w.heap.size, 0, none⟩ = some (.int .i64 r.s) := cell_of_row _ _ _ _ _ _ HBH.out
      have kh1 : (w'.drewN nq).cell? ⟨w.heap.size, 1, none⟩ = some (.int .i64 r.g) := cell_of_row _ _ _ _ _ _ HBH.out
      clear HB' HTI HBB HBH
      generalize w'.drewN nq = W at *
      go_still_tail 4, (by kernel_rfl)
      change wpList _ _ _ _ _ W.drew
      clear kh0 kh1
      generalize W.drew = X at *
      go_wp2_with fail
      refine (hcolAdd_any 1 r.s r.g _ HTW.out.hcol (by rw [hsOf_len]; exact HL.out)).mono ?_
      rintro e w2 ⟨rfl, hp⟩
      obtain ⟨v2, ht2, hk2⟩ := HTW.out.hstep hp
      have hx := HBW.out.size
      have hbbX := (Array.getElem?_eq_some_iff.1 HBBW.out).1
      have hnbb : ¬ growF F X w2 (w.heap.size + 1) := fun e => by
        rcases e with e | e
        · have := HT.out.lt _ e; omega
        · omega
      have hbb2 : w2.heap[w.heap.size + 1]? = some (.cells #[.int .i64 r.m, .int .i64 (r.f 0), .int .i64 (r.f 1), .int .i64 (r.f 2), .int .i64 (r.f 3), .int .i64 (r.f 4), .int .i64 (r.f 5), .int .i64 (r.f 6), .int .i64 (r.f 7)] 37) := by rw [hk2.block _ hbbX (fun e => by have := HT.out.lt _ e; omega)]; exact HBBW.out
      have HK2 : Hid (Kept F w w2) := Lib.hid ((Kept.ofBelow HBW.out).trans hk2 (fun _ h => .inl h))
      have HM2 : Hid (Moves w F (growF F X w2)) := Lib.hid (fun b e => e.imp id (fun h => by omega))
      have HSZ : Hid (w.heap.size ≤ w2.heap.size) := Lib.hid (by have := hk2.size; omega)
      have c2 := ht2.cell2
      have HT2 := Lib.hid ht2
      have HNB := Lib.hid hnbb
      have HBB2 := Lib.hid hbb2
      clear hp ht2 hk2 hx hbbX hnbb hbb2 HTW HBW HBBW
      go_wp2_with (first | (at_range; refine wpList_range_is (K := kInt) _ rfl _ 198 rfl _ Tryz.underlying198 rfl HT2.out.map ?_))
      intro w3 hrg hb3 hsz3
      have HCL := Lib.hid (ColLoop.start (ys := fun k => colOf (rows ++ [r]) k.toNat) HT2.out hrg hb3)
      clear hrg hb3 hsz3
      go_wp2
      go_loopw [9] (fun _ wr => ∃ todo cnt, Hid (ColLoop w2 wr p (growF F X w2) r.m (hsOf rows ++ [(r.s, r.g)]) (fun k => colOf rows k.toNat) (fun k => colOf (rows ++ [r]) k.toNat) v2 mb n cb w2.heap.size todo cnt)) (fun _ wr => wr.rangeLeft mb w2.heap.size)
      case atStart => exact ⟨_, _, HCL⟩
      case round =>
        obtain ⟨todo, cnt, hcl⟩ := hrel
        clear HCL
        go_wp2_with (first | (at_next; refine wpList_next_is (K := kInt) _ rfl _ rfl rfl hcl.out.range ?_ ?_))
        case refine_1 =>
          rintro rfl
          obtain ⟨F3, c3, ht3, hk3, hm3⟩ := hcl.out.done
          have c1 := ht3.cell1
          obtain ⟨a, cap, hv, -⟩ := ht3.own.reads
          rw [hv, List.length_append, hsOf_len] at c1
          have HEND : Hid (AddPost w p F r.m rows r (.returned (.tuple #[.int .i64 rows.length, .int .i64 0])) wr) := Lib.hid (by
            have h0 : addE r.m r = 0 := by rw [addE, if_pos HE.out, if_pos rfl]
            refine ⟨by rw [addN, if_pos h0, h0], F3, ⟨v2, mb, n, cb, c3, ?_⟩, HK2.out.trans hk3 HM2.out, HM2.out.trans hm3 HSZ.out⟩
            rw [addL, if_pos h0, hsOf_snoc]; exact ht3)
          clear ht3 hk3 hm3 hv hcl
          have hlb := HL.out
          go_wp2
          go_ret2
          exact HEND.out
        case refine_2 =>
          intro k w4 cnt' hk hkm hrg hlt hkp hsz hen
          obtain ⟨u, hc, hnext⟩ := hcl.out.next hk (Nat.le_refl _) hrg hkp hsz
          have hbb4 : w4.heap[w.heap.size + 1]? = some (.cells #[.int .i64 r.m, .int .i64 (r.f 0), .int .i64 (r.f 1), .int .i64 (r.f 2), .int .i64 (r.f 3), .int .i64 (r.f 4), .int .i64 (r.f 5), .int .i64 (r.f 6), .int .i64 (r.f 7)] 37) := by
            obtain ⟨_, _, _, _, hkc, _⟩ := hcl.out
            have hlt2 := (Array.getElem?_eq_some_iff.1 HBB2.out).1
            rw [hkp.block _ (Nat.lt_of_lt_of_le hlt2 hkc.size) (by omega), hkc.block _ hlt2 HNB.out]; exact HBB2.out
          obtain ⟨j, hj, rfl, -⟩ := mem_kindsTo.1 hkm
          have hcv : w4.cell? ⟨w.heap.size + 1, 1 + j, none⟩ = some (.int .i64 (r.f j)) := by rw [cell_of_row _ _ _ _ _ _ hbb4]; exact vals_at r.m r.f j hj
          have HC := Lib.hid hc
          have HNX := Lib.hid hnext
          have HLT := Lib.hid hlt
          have hcb := hc.lt
          have hbl := (Array.getElem?_eq_some_iff.1 hbb4).1
          replace hen : (Instr.entry (.pointer (some ⟨w2.heap.size, 0, none⟩))).run Tryz.prog w4 = .ok (.tuple #[.int .i64 j, .pointer (some ⟨cb j, 0, none⟩)]) w4 := hen
          simp only [ptrOf, show kInt.val (j : Int) = .int .i64 j from rfl]
          clear hc hnext hbb4 hkp hrg hlt hsz hk hkm
          go_wp2_with fail
          refine (colAdd_any 0 (r.f j) _ HC.out (by rw [colOf_len]; have := HL.out; omega)).mono ?_
          rintro e w5 ⟨rfl, hp⟩
          have HN := Lib.hid (HNX.out w5 (by rw [Int.toNat_natCast] at hp; rw [colOf_snoc, Int.toNat_natCast]; exact hp))
          clear hp
          go_wp2
          go_roundw
          case rel => exact ⟨_, _, HN⟩
          case measure => rw [HN.out.range.left_eq, hcl.out.range.left_eq]; exact HLT.out
    · have HP : Hid (∀ w', Below w.heap.size w w' → AddPost w p F m rows r (.returned (.tuple #[.int .i64 0, .int .i64 4])) w') := Lib.hid (fun w' hb => AddPost.no HT.out (by rw [addE, if_pos he, if_neg hm]) (by decide) hb)
      have hne : (r.m != m) = true := by simpa using hm
      obtain ⟨v, mb, n, cb, c, h⟩ := h
      have HB : Hid (Below w.heap.size w ((w.alloc (.cells #[.int .i64 r.s, .int .i64 r.g] 34)).alloc (.cells #[.int .i64 r.m, .int .i64 (r.f 0), .int .i64 (r.f 1), .int .i64 (r.f 2), .int .i64 (r.f 3), .int .i64 (r.f 4), .int .i64 (r.f 5), .int .i64 (r.f 6), .int .i64 (r.f 7)] 37))) := Lib.hid (nb_alloc (nb_alloc (Below.refl _ _) _) _)
      have HE := Lib.hid he
      clear he hm
      go_enter Tryz.func93, Tryz.ntmps93
      go_wp2_with fail
      refine (checkBeast_any _ _ _ _ _ _ _ _ _ _).mono ?_
      rintro e w' ⟨rfl, hw'⟩
      rw [HE.out]
      have hb' : Below w.heap.size w w' := by rw [← hw']; exact nb_alloc HB.out _
      have c0 := (h.later hb').cell0
      have cb0 : w'.cell? ⟨w.heap.size + 1, 0, none⟩ = some (.int .i64 r.m) := by rw [← hw', box2_cell]; rfl
      have HB' := Lib.hid hb'
      clear hw' hb' h
      go_wp2_with fail
      go_quiet (fail)
      go_wp2
      go_ret2
      exact HP.out _ (nb_drewN HB'.out)
  · have HP : Hid (∀ w', Below w.heap.size w w' → AddPost w p F m rows r (.returned (.tuple #[.int .i64 0, .int .i64 (bErr r.m [r.f 0, r.f 1, r.f 2, r.f 3, r.f 4, r.f 5, r.f 6, r.f 7])])) w') := Lib.hid (fun w' hb => AddPost.no HT.out (by rw [addE, if_neg he]) he hb)
    generalize hE : bErr r.m [r.f 0, r.f 1, r.f 2, r.f 3, r.f 4, r.f 5, r.f 6, r.f 7] = E at *
    have HE := Lib.hid hE
    clear hE
    have hne : (E != 0) = true := by simpa using he
    have HB : Hid (Below w.heap.size w ((w.alloc (.cells #[.int .i64 r.s, .int .i64 r.g] 34)).alloc (.cells #[.int .i64 r.m, .int .i64 (r.f 0), .int .i64 (r.f 1), .int .i64 (r.f 2), .int .i64 (r.f 3), .int .i64 (r.f 4), .int .i64 (r.f 5), .int .i64 (r.f 6), .int .i64 (r.f 7)] 37))) := Lib.hid (nb_alloc (nb_alloc (Below.refl _ _) _) _)
    clear he
    go_enter Tryz.func93, Tryz.ntmps93
    go_wp2_with fail
    refine (checkBeast_any _ _ _ _ _ _ _ _ _ _).mono ?_
    rintro e w' ⟨rfl, hw'⟩
    rw [HE.out]
    have HB' : Hid (Below w.heap.size w w') := Lib.hid (by rw [← hw']; exact nb_alloc HB.out _)
    clear hw'
    go_wp2
    go_ret2
    exact HP.out _ HB'.out
end Go.Proofs.YtcmpaohefihijabGreatDoor

/- The contract of New of package table. -/
namespace Go.Proofs.YtcmpaohefihijabGreatDoor
set_option maxRecDepth 8000
open Go.RowKit

/-- The loop of New: columns of the first j components have been made. -/
def NewLoop (wL wr : World) (mb : Nat) (l : List Int) (j : Nat) : Prop :=
  ∃ (cb : Int → Nat) (c : Nat → Int), MapIs kInt wr mb j (l.take j) (ptrOf cb) ∧ (∀ k ∈ l.take j, wr.heap[cb k]? = some (.cells #[.slice none 0 0] 179) ∧ c (cb k) = k ∧ mb < cb k) ∧ Kept (fun b => b = mb) wL wr

theorem NewLoop.start {w wL : World} {l : List Int} (hb : Below (w.heap.size + 1) (w.alloc (.map #[] 0)) wL) : NewLoop wL wL w.heap.size l 0 := by
  refine ⟨fun _ => 0, fun _ => 0, ?_, fun k hk => by simp at hk, Kept.refl _ _⟩
  rw [List.take_zero]
  exact (MapIs.new kInt w _).later (by simpa using hb)
theorem NewLoop.step {wL wr w4 : World} {mb j : Nat} {l : List Int} {cb : Int → Nat} {c : Nat → Int} {y : Int} (hc : ∀ k ∈ l.take j, wr.heap[cb k]? = some (.cells #[.slice none 0 0] 179) ∧ c (cb k) = k ∧ mb < cb k) (hk : Kept (fun b => b = mb) wL wr) (hj : j < l.length) (hmb : mb < wr.heap.size) (hy : l.getD j 0 = y) (hny : ¬ y ∈ l.take j)
    (hm : MapIs kInt w4 mb (j + 1) (l.take j ++ [y]) (fun x => if x = y then .pointer (some ⟨wr.heap.size, 0, none⟩) else ptrOf cb x)) (hgr : (wr.alloc (.cells #[.slice none 0 0] 179)).grownBy w4 (some mb)) : NewLoop wL w4 mb l (j + 1) := by
  have ht : l.take (j + 1) = l.take j ++ [y] := by rw [take_snoc hj, hy]
  have hk4 : Kept (fun b => b = mb) (wr.alloc (.cells #[.slice none 0 0] 179)) w4 := Kept.grown hgr (fun q e => by cases e; rfl)
  have ef : (fun x => if x = y then Value.pointer (some ⟨wr.heap.size, 0, none⟩) else ptrOf cb x) = ptrOf (fun x => if x = y then wr.heap.size else cb x) := by
    funext x; by_cases e : x = y <;> simp [ptrOf, e]
  refine ⟨fun x => if x = y then wr.heap.size else cb x, fun b => if b = wr.heap.size then y else c b, by rw [ht, ← ef]; exact hm, fun k hkk => ?_, (hk.trans (Kept.alloc (fun b => b = mb) wr _) (fun _ h => .inl h)).trans hk4 (fun _ h => .inl h)⟩
  rw [ht, List.mem_append] at hkk
  have hrest : ∀ k ∈ l.take j, cb k < wr.heap.size := fun k hk => (Array.getElem?_eq_some_iff.1 (hc k hk).1).1
  by_cases e : k = y
  · subst e
    simp only [if_pos]
    refine ⟨?_, trivial, hmb⟩
    rw [hk4.block _ (by simp) (by omega)]; exact heap_alloc_new wr _
  · have hk' : k ∈ l.take j := by
      rcases hkk with h | h
      · exact h
      · simp at h; exact absurd h e
    obtain ⟨h1, h2, h3⟩ := hc k hk'
    have h4 := hrest k hk'
    simp only [if_neg e]
    refine ⟨?_, ?_, h3⟩
    · rw [hk4.block _ (by simp; omega) (by omega), Below.heap_alloc _ _ _ h4]; exact h1
    · rw [if_neg (by omega)]; exact h2

theorem NewLoop.done {w wL wr : World} {m : Int} (h : NewLoop wL wr w.heap.size (kinds m) (kinds m).length) (hb : Below (w.heap.size + 1) (w.alloc (.map #[] 0)) wL) :
    ∃ F, TableAt (wr.alloc (.cells #[.int .i64 m, .slice none 0 0, .map (some w.heap.size)] 203)) wr.heap.size F m [] ∧ (∀ b, F b → w.heap.size ≤ b) ∧ Below w.heap.size w (wr.alloc (.cells #[.int .i64 m, .slice none 0 0, .map (some w.heap.size)] 203)) := by
  obtain ⟨cb, c, hm, hc, hk⟩ := h
  rw [List.take_length] at hm hc
  have hmb := hm.lt
  have hB : Below wr.heap.size wr (wr.alloc (.cells #[.int .i64 m, .slice none 0 0, .map (some w.heap.size)] 203)) := nb_alloc (Below.refl _ _) _
  have hwL : Below w.heap.size w wL := (nb_alloc (Below.refl _ _) _).trans (hb.mono (by omega))
  refine ⟨fun b => w.heap.size ≤ b ∧ b ≤ wr.heap.size, ⟨.slice none 0 0, w.heap.size, (kinds m).length, cb, fun b => if b = wr.heap.size then -1 else if b = w.heap.size then -2 else c b, heap_alloc_new wr _, OwnsF.nil _ _ _ _, hm.later hB, fun k hk' => ?_, ⟨⟨by omega, by omega⟩, by simp⟩, ⟨⟨by omega, by omega⟩, by rw [if_neg (by omega), if_pos rfl]⟩, fun b e => by simp [Value.ownBlock] at e, fun b e => by simp; omega⟩, fun b h => h.1, ?_⟩
  · obtain ⟨h1, h2, h3⟩ := hc k hk'
    have h4 := (Array.getElem?_eq_some_iff.1 h1).1
    refine ⟨.slice none 0 0, ⟨by rw [hB.block _ h4]; exact h1, rfl, OwnsF.nil _ _ _ _, fun b e => by simp [Value.ownBlock] at e⟩, ⟨⟨by omega, by omega⟩, ?_⟩, fun b e => by simp [Value.ownBlock] at e⟩
    rw [if_neg (by omega), if_neg (by omega)]; exact h2
  · exact nb_alloc (hwL.trans (hk.below hwL.size (fun k e => by omega))) _

def NewPost (w : World) (m : Int) (e : Ending) (w' : World) : Prop :=
  ∃ p F, e = .returned (.tuple #[.pointer (some ⟨p, 0, none⟩), .int .i64 0]) ∧ TableAt w' p F m [] ∧ (∀ b, F b → w.heap.size ≤ b) ∧ Below w.heap.size w w'

set_option maxHeartbeats 1000000 in
theorem tableNew_no (m : Int) (w : World) (h : inB m 0 255 = false) : Calls Tryz.prog 92 #[.int .i64 m] w fun e w' => e = .returned (.tuple #[.pointer none, .int .i64 1]) ∧ w = w' := by
  rcases inB_f h with b1 | b1
  all_goals
    clear h
    go_enter Tryz.func92, Tryz.ntmps92
    go_wp2
    go_ret2
    exact ⟨rfl, rfl⟩

set_option maxHeartbeats 2000000 in
theorem tableNew_yes (m : Int) (w : World) (h0 : 0 ≤ m) (h1 : m ≤ 255) : Calls Tryz.prog 92 #[.int .i64 m] w (NewPost w m) := by
  have hmk : ∀ x : World, (Instr.makeMap 198 none).run Tryz.prog x = .ok (.map (some x.heap.size)) (x.alloc (.map #[] 0)) := run_makeMap 198
  go_enter Tryz.func92, Tryz.ntmps92
  go_wp2_with fail
  refine (list_any m _).mono ?_
  rintro e wL ⟨v, rfl, hown, hbL⟩
  rw [show (w.alloc (.map #[] 0)).heap.size = w.heap.size + 1 by simp] at hbL
  have HBL := Lib.hid hbL
  have HST := Lib.hid (NewLoop.start (l := kinds m) hbL)
  have hlen : (kinds m).length ≤ 8 := kindsTo_len m 8
  have hge : ∀ j, j < (kinds m).length → 0 ≤ (kinds m).getD j 0 ∧ (kinds m).getD j 0 ≤ 7 := fun j hj => kinds_ge (getD_mem hj)
  have HGE := Lib.hid hge
  have HND : Hid (∀ j, j < (kinds m).length → ¬ (kinds m).getD j 0 ∈ (kinds m).take j) := Lib.hid (fun j hj hmem => by
    have hn : ((kinds m).take (j + 1)).Nodup := (nodup_kindsTo m 8).sublist (List.take_sublist _ _)
    rw [take_snoc hj, List.nodup_append] at hn
    exact hn.2.2 _ hmem _ (by simp) rfl)
  have HOB : Hid (∀ k, v.ownBlock = some k → w.heap.size + 1 ≤ k) := Lib.hid (fun k e => by have := (World.ownsRow.lt hown k e).1; simpa using this)
  have HIN : Hid (Ints wL v (kinds m)) := Lib.hid (Ints.owns hown)
  have HDONE : Hid (∀ wr, NewLoop wL wr w.heap.size (kinds m) (kinds m).length → NewPost w m (.returned (.tuple #[.pointer (some ⟨wr.heap.size, 0, none⟩), .int .i64 0])) (wr.alloc (.cells #[.int .i64 m, .slice none 0 0, .map (some w.heap.size)] 203))) := Lib.hid (fun wr hl => by
    obtain ⟨F, ht, hF, hB⟩ := hl.done HBL.out
    exact ⟨_, F, rfl, ht, hF, hB⟩)
  obtain ⟨hm, hop⟩ := HIN.out.open
  have hmbL : w.heap.size + 1 ≤ wL.heap.size := by have := hbL.size; simpa using this
  clear hown hbL hge hmk
  generalize hl : kinds m = l at *
  clear hl
  generalize hn : l.length = n at *
  have HN := Lib.hid hn
  clear hn
  unfold maxLen at hm
  have HW : Hid (w.heap.size + 1 ≤ wL.heap.size) := Lib.hid hmbL
  rcases hop with ⟨a, cap, rfl, hz⟩ | ⟨b, off, cap, rfl, hb, hlc, hcm, hc⟩
  all_goals
    go_wp2
    go_loopw [17] (fun i wr => ∃ j : Nat, j ≤ n ∧ i = .int .i64 j ∧ Hid (NewLoop wL wr w.heap.size l j)) (fun i _ => n - (intOf i).toNat)
    case atStart => exact ⟨0, by omega, rfl, HST⟩
    case round =>
      obtain ⟨j, hj, rfl, hL⟩ := hrel
      clear HST
      by_cases hlt : j < n
      · first
          | omega
          | (obtain ⟨cb, c, hmap, hcols, hkw⟩ := hL.out
             have hcj := hc j hlt
             have hbne : ¬ b = w.heap.size := by have := HOB.out b rfl; omega
             have c0 : wr.cell? ⟨b, off + j, none⟩ = some (.int .i64 (l.getD j 0)) := by rw [hkw.cell (p := ⟨b, off + j, none⟩) hb hbne]; exact hcj
             obtain ⟨y0, y7⟩ := HGE.out j hlt
             have hny := HND.out j hlt
             generalize hy : l.getD j 0 = y at *
             have HC := Lib.hid hcols
             have HKW := Lib.hid hkw
             have hmlt := hmap.lt
             have HY := Lib.hid hy
             have HNY := Lib.hid hny
             obtain ⟨D, hoD, hnd, hok, hkD, hatD, hsD⟩ := hmap.later (nb_alloc (Below.refl _ _) (.cells #[.slice none 0 0] 179))
             have HD := Lib.hid hoD
             have HR1 := Lib.hid hnd
             have HR2 := Lib.hid hok
             have HR3 := Lib.hid hkD
             have HR4 := Lib.hid hatD
             have HR5 := Lib.hid hsD
             have hkok : kInt.ok y := ⟨by omega, by omega⟩
             have HKOK := Lib.hid hkok
             clear hcols hkw hny hy hoD hnd hok hkD hatD hsD hcj hmap hkok
             have hbw : b < wr.heap.size := Nat.lt_of_lt_of_le hb HKW.out.size
             go_wp2_with (first | (at_mapUpdate; refine wpList_mapUpdate_own _ rfl _ _ _ 198 rfl 3 175 kInt.law Tryz.underlying198 heldR w.heap.size j D rfl HD.out (by unfold maxLen; omega) _ _ (kInt.lit y) rfl rfl (kInt.key y HKOK.out) (.held (.pointer (some ⟨wr.heap.size, 0, none⟩))) [] rfl ?_))
             intro w4 hown4 hgr4
             have HN4 : Hid (NewLoop wL w4 w.heap.size l (j + 1)) := Lib.hid (NewLoop.step HC.out HKW.out (by rw [HN.out]; exact hlt) hmlt HY.out HNY.out (by
               have := MapIs.put (K := kInt) HD.out HR1.out HR2.out HR3.out HR4.out HR5.out y HKOK.out (.pointer (some ⟨wr.heap.size, 0, none⟩)) hown4
               rw [if_neg HNY.out] at this
               exact this) hgr4)
             clear hown4 hgr4
             go_wp2
             go_roundw
             case rel => exact ⟨j + 1, by omega, by go_num, HN4⟩
             case measure => simp [intOf]; omega)
      · obtain rfl : j = n := by omega
        go_wp2
        go_ret2
        exact HDONE.out _ hL.out
end Go.Proofs.YtcmpaohefihijabGreatDoor

/- The contract of Row of package table. -/
namespace Go.Proofs.YtcmpaohefihijabGreatDoor
set_option maxRecDepth 8000
open Go.RowKit

theorem rowR_in {rows : List Rw} {i : Nat} (h : i < rows.length) : rowR rows i = rows.getD i rowZ ∧ rowE rows i = 0 := by
  have : inB (i : Int) 0 (rows.length - 1) = true := by simp [inB]; omega
  rw [rowR, rowE, this]; exact ⟨rfl, rfl⟩
theorem rowR_out {rows : List Rw} {i : Int} (h : inB i 0 (rows.length - 1) = false) : rowR rows i = rowZ ∧ rowE rows i = 5 := by
  rw [rowR, rowE, h]; exact ⟨rfl, rfl⟩

theorem nb_set {B : Nat} {a w : World} (h : Below B a w) (b j : Nat) (v : Value) (hb : B ≤ b) : Below B a (w.setCell ⟨b, j, none⟩ v) := h.setCell (p := ⟨b, j, none⟩) hb v

theorem vals_set (m : Int) (f : Nat → Int) (j : Nat) (x : Int) (h : j < 8) : (#[.int .i64 m, .int .i64 (f 0), .int .i64 (f 1), .int .i64 (f 2), .int .i64 (f 3), .int .i64 (f 4), .int .i64 (f 5), .int .i64 (f 6), .int .i64 (f 7)] : Array Value).setIfInBounds (1 + j) (.int .i64 x) = #[.int .i64 m, .int .i64 ((upd f j x) 0), .int .i64 ((upd f j x) 1), .int .i64 ((upd f j x) 2), .int .i64 ((upd f j x) 3), .int .i64 ((upd f j x) 4), .int .i64 ((upd f j x) 5), .int .i64 ((upd f j x) 6), .int .i64 ((upd f j x) 7)] := by
  obtain rfl | rfl | rfl | rfl | rfl | rfl | rfl | rfl : j = 0 ∨ j = 1 ∨ j = 2 ∨ j = 3 ∨ j = 4 ∨ j = 5 ∨ j = 6 ∨ j = 7 := by omega
  all_goals rfl
theorem vals_congr {f g : Nat → Int} (h : ∀ j, j < 8 → f j = g j) : ([.int .i64 (f 0), .int .i64 (f 1), .int .i64 (f 2), .int .i64 (f 3), .int .i64 (f 4), .int .i64 (f 5), .int .i64 (f 6), .int .i64 (f 7)] : List Value) = [.int .i64 (g 0), .int .i64 (g 1), .int .i64 (g 2), .int .i64 (g 3), .int .i64 (g 4), .int .i64 (g 5), .int .i64 (g 6), .int .i64 (g 7)] := by
  rw [h 0 (by decide), h 1 (by decide), h 2 (by decide), h 3 (by decide), h 4 (by decide), h 5 (by decide), h 6 (by decide), h 7 (by decide)]

set_option maxHeartbeats 2000000 in
theorem tabRow_no (p : Nat) (F : Nat → Prop) (m : Int) (rows : List Rw) (i : Int) (w : World) (h : TableAt w p F m rows) (hi : inB i 0 (rows.length - 1) = false) :
    Calls Tryz.prog 106 #[.pointer (some ⟨p, 0, none⟩), .int .i64 i] w fun e w' => e = .returned (.tuple #[.agg #[.int .i64 rowZ.s, .int .i64 rowZ.g, .int .i64 rowZ.m, .int .i64 (rowZ.f 0), .int .i64 (rowZ.f 1), .int .i64 (rowZ.f 2), .int .i64 (rowZ.f 3), .int .i64 (rowZ.f 4), .int .i64 (rowZ.f 5), .int .i64 (rowZ.f 6), .int .i64 (rowZ.f 7)], .int .i64 5]) ∧ Below w.heap.size w w' := by
  have HT := Lib.hid h
  have HI := Lib.hid hi
  clear h hi
  go_enter Tryz.func106, Tryz.ntmps106
  go_wp2_with fail
  refine (hasRow_any p F m rows i _ (HT.out.later (nb_alloc (Below.refl _ _) _))).mono ?_
  rintro e w' ⟨rfl, rfl⟩
  rw [HI.out]
  go_wp2
  refine bodyPost_ret (v := .tuple #[.agg #[.int .i64 rowZ.s, .int .i64 rowZ.g, .int .i64 rowZ.m, .int .i64 (rowZ.f 0), .int .i64 (rowZ.f 1), .int .i64 (rowZ.f 2), .int .i64 (rowZ.f 3), .int .i64 (rowZ.f 4), .int .i64 (rowZ.f 5), .int .i64 (rowZ.f 6), .int .i64 (rowZ.f 7)], .int .i64 5]) (by simp [results, Tryz.results106, go_sem, rowZ]) rfl ⟨rfl, nb_alloc (Below.refl _ _) _⟩

/-- The loop of Row: which values have come. -/
structure RowLoop (w wr : World) (rb bb R mb n : Nat) (m : Int) (cb : Int → Nat) (f : Nat → Int) (todo : List Int) (cnt : Nat) : Prop where
  rng : RangeIs kInt wr mb R n (kinds m) (ptrOf cb) todo cnt
  below : Below w.heap.size w wr
  rb : wr.heap[rb]? = some (.cells #[.int .i64 0, .int .i64 0, .int .i64 0, .int .i64 0, .int .i64 0, .int .i64 0, .int .i64 0, .int .i64 0, .int .i64 0, .int .i64 0, .int .i64 0] 39)
  bb : ∃ g : Nat → Int, wr.heap[bb]? = some (.cells #[.int .i64 m, .int .i64 (g 0), .int .i64 (g 1), .int .i64 (g 2), .int .i64 (g 3), .int .i64 (g 4), .int .i64 (g 5), .int .i64 (g 6), .int .i64 (g 7)] 37) ∧ ∀ j, j < 8 → g j = if (j : Int) ∈ kinds m ∧ ¬ (j : Int) ∈ todo then f j else 0

theorem RowLoop.start {w w' w3 : World} {mb n cnt : Nat} {m : Int} {cb : Int → Nat} (f : Nat → Int) (hb : Below w.heap.size w w') (hrb : w'.heap[w.heap.size]? = some (.cells #[.int .i64 0, .int .i64 0, .int .i64 0, .int .i64 0, .int .i64 0, .int .i64 0, .int .i64 0, .int .i64 0, .int .i64 0, .int .i64 0, .int .i64 0] 39))
    (hr : RangeIs kInt w3 mb (w'.heap.size + 1) n (kinds m) (ptrOf cb) (kinds m) cnt) (hb3 : Below (w'.heap.size + 1) (w'.alloc (.cells #[.int .i64 m, .int .i64 0, .int .i64 0, .int .i64 0, .int .i64 0, .int .i64 0, .int .i64 0, .int .i64 0, .int .i64 0] 37)) w3) : RowLoop w w3 w.heap.size w'.heap.size (w'.heap.size + 1) mb n m cb f (kinds m) cnt := by
  have hlt := (Array.getElem?_eq_some_iff.1 hrb).1
  have hs := hb.size
  refine ⟨hr, (nb_alloc hb _).trans (hb3.mono (by omega)), ?_, fun _ => 0, ?_, fun j _ => ?_⟩
  · rw [hb3.block _ (by omega), Below.heap_alloc _ _ _ hlt]; exact hrb
  · rw [hb3.block _ (by omega)]; exact heap_alloc_new w' _
  · rw [if_neg (fun h => h.2 h.1)]
theorem RowLoop.next {w wr w4 : World} {rb bb R mb n cnt cnt' j : Nat} {m : Int} {cb : Int → Nat} {f : Nat → Int} {todo : List Int} (h : RowLoop w wr rb bb R mb n m cb f todo cnt) (hr : RangeIs kInt w4 mb R n (kinds m) (ptrOf cb) (todo.filter (fun y => !decide (y = (j : Int)))) cnt') (hk : Kept (fun q => q = R) wr w4)
    (hj : j < 8) (hjt : (j : Int) ∈ todo) (hw : w.heap.size ≤ bb) (hwR : w.heap.size ≤ R) (h1 : rb ≠ bb) (h2 : R ≠ bb) (h3 : R ≠ rb) (h4 : mb ≠ bb) :
    w4.heap.size ≥ 0 ∧ Below w.heap.size w w4 ∧ (∃ g : Nat → Int, w4.heap[bb]? = some (.cells #[.int .i64 m, .int .i64 (g 0), .int .i64 (g 1), .int .i64 (g 2), .int .i64 (g 3), .int .i64 (g 4), .int .i64 (g 5), .int .i64 (g 6), .int .i64 (g 7)] 37)) ∧ RowLoop w (w4.setCell ⟨bb, 1 + j, none⟩ (.int .i64 (f j))) rb bb R mb n m cb f (todo.filter (fun y => !decide (y = (j : Int)))) cnt' := by
  obtain ⟨rng, below, hrb, g, hg, hgj⟩ := h
  have hb4 : Below w.heap.size w w4 := below.trans (hk.below below.size (fun k e => by omega))
  have hg4 : w4.heap[bb]? = some (.cells #[.int .i64 m, .int .i64 (g 0), .int .i64 (g 1), .int .i64 (g 2), .int .i64 (g 3), .int .i64 (g 4), .int .i64 (g 5), .int .i64 (g 6), .int .i64 (g 7)] 37) := by rw [hk.block bb (Array.getElem?_eq_some_iff.1 hg).1 (Ne.symm h2)]; exact hg
  have hr4 : w4.heap[rb]? = some (.cells #[.int .i64 0, .int .i64 0, .int .i64 0, .int .i64 0, .int .i64 0, .int .i64 0, .int .i64 0, .int .i64 0, .int .i64 0, .int .i64 0, .int .i64 0] 39) := by rw [hk.block rb (Array.getElem?_eq_some_iff.1 hrb).1 (Ne.symm h3)]; exact hrb
  have hks : Kept (fun q => q = bb) w4 (w4.setCell ⟨bb, 1 + j, none⟩ (.int .i64 (f j))) := Kept.setCell (F := fun q => q = bb) _ (p := ⟨bb, 1 + j, none⟩) rfl _
  refine ⟨Nat.zero_le _, hb4, ⟨g, hg4⟩, hr.kept hks h4 h2, hb4.trans (hks.below hb4.size (fun k e => by omega)), ?_, upd g j (f j), ?_, fun i hi => ?_⟩
  · rw [hks.block rb (Array.getElem?_eq_some_iff.1 hr4).1 h1]; exact hr4
  · rw [heap_setCell_same _ _ _ _ _ _ hg4, vals_set m g j (f j) hj]
  · unfold upd
    by_cases e : i = j
    · subst e
      rw [if_pos rfl, if_pos ⟨rng.sub _ hjt, by simp⟩]
    · have e' : ¬ (i : Int) = (j : Int) := by omega
      rw [if_neg e, hgj i hi]
      congr 1
      simp [e']
theorem RowLoop.done {w wr : World} {rb bb R mb n cnt : Nat} {m : Int} {cb : Int → Nat} {f : Nat → Int} (h : RowLoop w wr rb bb R mb n m cb f [] cnt) (hf : ∀ k, k < 8 → tb m k = false → f k = 0) : wr.heap[bb]? = some (.cells #[.int .i64 m, .int .i64 (f 0), .int .i64 (f 1), .int .i64 (f 2), .int .i64 (f 3), .int .i64 (f 4), .int .i64 (f 5), .int .i64 (f 6), .int .i64 (f 7)] 37) := by
  obtain ⟨rng, below, hrb, g, hg, hgj⟩ := h
  have e : ∀ j, j < 8 → g j = f j := fun j hj => by
    rw [hgj j hj]
    by_cases ht : (j : Int) ∈ kinds m
    · rw [if_pos ⟨ht, by simp⟩]
    · rw [if_neg (fun h => ht h.1)]
      cases hb : tb m j
      · exact (hf j hj hb).symm
      · exact absurd ((kinds_iff hj).2 hb) ht
  rw [hg, e 0 (by decide), e 1 (by decide), e 2 (by decide), e 3 (by decide), e 4 (by decide), e 5 (by decide), e 6 (by decide), e 7 (by decide)]

set_option maxHeartbeats 4000000 in
theorem tabRow_yes (p : Nat) (F : Nat → Prop) (m : Int) (rows : List Rw) (i : Nat) (r : Rw) (w : World) (h : TableAt w p F m rows) (ok : TabOk m rows) (hi : i < rows.length) (hr : rows.getD i rowZ = r) :
    Calls Tryz.prog 106 #[.pointer (some ⟨p, 0, none⟩), .int .i64 i] w fun e w' => e = .returned (.tuple #[.agg #[.int .i64 r.s, .int .i64 r.g, .int .i64 r.m, .int .i64 (r.f 0), .int .i64 (r.f 1), .int .i64 (r.f 2), .int .i64 (r.f 3), .int .i64 (r.f 4), .int .i64 (r.f 5), .int .i64 (r.f 6), .int .i64 (r.f 7)], .int .i64 0]) ∧ Below w.heap.size w w' := by
  have hin : inB (i : Int) 0 (rows.length - 1) = true := by simp [inB]; omega
  have hrm := ok.row r (by rw [← hr]; exact mem_getD hi)
  have HRM := Lib.hid hrm
  have HT := Lib.hid h
  have HI := Lib.hid hin
  have HR := Lib.hid hr
  have HIL := Lib.hid hi
  clear hin hrm ok hr
  obtain ⟨v, mb, n, cb, c, h⟩ := h
  have HTI := Lib.hid h
  go_enter Tryz.func106, Tryz.ntmps106
  go_wp2_with fail
  refine (hasRow_any p F m rows i _ (HT.out.later (nb_alloc (Below.refl _ _) _))).mono ?_
  rintro e w' ⟨rfl, hw'⟩
  rw [HI.out]
  have hb' : Below w.heap.size w w' := by rw [← hw']; exact nb_alloc (Below.refl _ _) _
  have hrb : w'.heap[w.heap.size]? = some (.cells #[.int .i64 0, .int .i64 0, .int .i64 0, .int .i64 0, .int .i64 0, .int .i64 0, .int .i64 0, .int .i64 0, .int .i64 0, .int .i64 0, .int .i64 0] 39) := by rw [← hw']; exact heap_alloc_new w _
  have c0 := (h.later hb').cell0
  have c2 := (h.later hb').cell2
  have hws : w'.heap.size = w.heap.size + 1 := by rw [← hw']; simp
  have hpl : p < w'.heap.size := by have := h.lt p h.fp.1; omega
  have HB' := Lib.hid hb'
  have HRB := Lib.hid hrb
  have HWS := Lib.hid hws
  clear hw' hb' hrb hws h
  have HMAP := Lib.hid (HTI.out.later (nb_alloc HB'.out (.cells #[.int .i64 m, .int .i64 0, .int .i64 0, .int .i64 0, .int .i64 0, .int .i64 0, .int .i64 0, .int .i64 0, .int .i64 0] 37))).map
  go_wp2_with (first | (at_range; refine wpList_range_is (K := kInt) _ rfl _ 198 rfl _ Tryz.underlying198 rfl HMAP.out ?_))
  intro w3 hrg hb3 hsz3
  have HRL := Lib.hid (RowLoop.start r.f HB'.out HRB.out hrg hb3)
  have HW : Hid (w.heap.size + 1 = w'.heap.size) := Lib.hid HWS.out.symm
  clear hrg hb3 hsz3 c0 c2 HMAP HRB HB'
  go_wp2
  go_loopw [7] (fun _ wr => ∃ todo cnt, Hid (RowLoop w wr w.heap.size w'.heap.size (w'.heap.size + 1) mb n m cb r.f todo cnt)) (fun _ wr => wr.rangeLeft mb (w'.heap.size + 1))
  case atStart => exact ⟨_, _, HRL⟩
  case round =>
    obtain ⟨todo, cnt, hrl⟩ := hrel
    clear HRL
    go_wp2_with (first | (at_next; refine wpList_next_is (K := kInt) _ rfl _ rfl rfl hrl.out.rng ?_ ?_))
    case refine_1 =>
      rintro rfl
      have hbb := hrl.out.done HRM.out.2
      have hrb := hrl.out.rb
      have hT := HTI.out.later hrl.out.below
      have c1 := hT.cell1
      obtain ⟨g, cap, hv, hgl, hlc, hcm, hc⟩ := hT.own.at2 rfl (by rw [hsOf_len]; omega)
      obtain ⟨d0, d1, -⟩ := hc i (by rw [hsOf_len]; exact hi)
      rw [show (hsOf rows).getD i elHand.zero = (r.s, r.g) by rw [hsOf, getD_map _ _ _ rowZ _ hi, HR.out]] at d0 d1
      rw [hv, hsOf_len] at c1
      replace d0 : wr.cell? ⟨g, i * 2, none⟩ = some (.int .i64 r.s) := d0
      replace d1 : wr.cell? ⟨g, i * 2 + 1, none⟩ = some (.int .i64 r.g) := d1
      have b0 : wr.cell? ⟨w'.heap.size, 0, none⟩ = some (.int .i64 m) := by rw [cell_of_row _ _ _ _ _ _ hbb]; rfl
      have b1 : wr.cell? ⟨w'.heap.size, 1, none⟩ = some (.int .i64 (r.f 0)) := by rw [cell_of_row _ _ _ _ _ _ hbb]; rfl
      have b2 : wr.cell? ⟨w'.heap.size, 2, none⟩ = some (.int .i64 (r.f 1)) := by rw [cell_of_row _ _ _ _ _ _ hbb]; rfl
      have b3 : wr.cell? ⟨w'.heap.size, 3, none⟩ = some (.int .i64 (r.f 2)) := by rw [cell_of_row _ _ _ _ _ _ hbb]; rfl
      have b4 : wr.cell? ⟨w'.heap.size, 4, none⟩ = some (.int .i64 (r.f 3)) := by rw [cell_of_row _ _ _ _ _ _ hbb]; rfl
      have b5 : wr.cell? ⟨w'.heap.size, 5, none⟩ = some (.int .i64 (r.f 4)) := by rw [cell_of_row _ _ _ _ _ _ hbb]; rfl
      have b6 : wr.cell? ⟨w'.heap.size, 6, none⟩ = some (.int .i64 (r.f 5)) := by rw [cell_of_row _ _ _ _ _ _ hbb]; rfl
      have b7 : wr.cell? ⟨w'.heap.size, 7, none⟩ = some (.int .i64 (r.f 6)) := by rw [cell_of_row _ _ _ _ _ _ hbb]; rfl
      have b8 : wr.cell? ⟨w'.heap.size, 8, none⟩ = some (.int .i64 (r.f 7)) := by rw [cell_of_row _ _ _ _ _ _ hbb]; rfl
      have k0 : wr.cell? ⟨w.heap.size, 0, none⟩ = some (.int .i64 0) := by rw [cell_of_row _ _ _ _ _ _ hrb]; rfl
      have k1 : wr.cell? ⟨w.heap.size, 1, none⟩ = some (.int .i64 0) := by rw [cell_of_row _ _ _ _ _ _ hrb]; rfl
      have k2 : wr.cell? ⟨w.heap.size, 2, none⟩ = some (.int .i64 0) := by rw [cell_of_row _ _ _ _ _ _ hrb]; rfl
      have k3 : wr.cell? ⟨w.heap.size, 3, none⟩ = some (.int .i64 0) := by rw [cell_of_row _ _ _ _ _ _ hrb]; rfl
      have k4 : wr.cell? ⟨w.heap.size, 4, none⟩ = some (.int .i64 0) := by rw [cell_of_row _ _ _ _ _ _ hrb]; rfl
      have k5 : wr.cell? ⟨w.heap.size, 5, none⟩ = some (.int .i64 0) := by rw [cell_of_row _ _ _ _ _ _ hrb]; rfl
      have k6 : wr.cell? ⟨w.heap.size, 6, none⟩ = some (.int .i64 0) := by rw [cell_of_row _ _ _ _ _ _ hrb]; rfl
      have k7 : wr.cell? ⟨w.heap.size, 7, none⟩ = some (.int .i64 0) := by rw [cell_of_row _ _ _ _ _ _ hrb]; rfl
      have k8 : wr.cell? ⟨w.heap.size, 8, none⟩ = some (.int .i64 0) := by rw [cell_of_row _ _ _ _ _ _ hrb]; rfl
      have k9 : wr.cell? ⟨w.heap.size, 9, none⟩ = some (.int .i64 0) := by rw [cell_of_row _ _ _ _ _ _ hrb]; rfl
      have k10 : wr.cell? ⟨w.heap.size, 10, none⟩ = some (.int .i64 0) := by rw [cell_of_row _ _ _ _ _ _ hrb]; rfl
      have fz : ∀ j, wr.frozen? ⟨w.heap.size, j, none⟩ = false := fun j => frozen_of_row _ _ _ _ _ hrb
      have hrl1 := (Array.getElem?_eq_some_iff.1 hrb).1
      have HBE := Lib.hid hrl.out.below
      have hrm := HRM.out.1
      clear hbb hrb hT hv hc hrl
      unfold maxLen at hcm
      go_wp2_with fail
      go_still_tail 10, (by kernel_rfl)
      change wpList _ _ _ _ _ wr.drew
      clear b0 b1 b2 b3 b4 b5 b6 b7 b8 c1 d0 d1
      go_wp2
      refine bodyPost_ret (v := .tuple #[.agg #[.int .i64 r.s, .int .i64 r.g, .int .i64 r.m, .int .i64 (r.f 0), .int .i64 (r.f 1), .int .i64 (r.f 2), .int .i64 (r.f 3), .int .i64 (r.f 4), .int .i64 (r.f 5), .int .i64 (r.f 6), .int .i64 (r.f 7)], .int .i64 0]) (by simp [results, Tryz.results106, go_sem, k0, k1, k2, k3, k4, k5, k6, k7, k8, k9, k10, hrm]) rfl ⟨rfl, ?_⟩
      refine Below.drew ?_
      iterate 11 (refine nb_set ?_ _ _ _ (Nat.le_refl _))
      exact HBE.out
    case refine_2 =>
      intro k w4 cnt' hk hkm hrg hlt hkp hsz hen
      obtain ⟨j, hj, rfl, -⟩ := mem_kindsTo.1 hkm
      have hmb := HTI.out.lt mb HTI.out.fm.1
      have hw := HW.out
      obtain ⟨-, hb4, ⟨g, hg⟩, hnx⟩ := hrl.out.next hrg hkp hj hk (by omega) (by omega) (by omega) (by omega) (by omega) (by omega)
      obtain ⟨u, hc, -⟩ := (HTI.out.later hb4).colIs hkm
      have cc := hc.cell
      have hcb := hc.lt
      rw [Int.toNat_natCast] at hc
      obtain ⟨gg, cap, rfl, hgl, hlc, hcm, hcc⟩ := hc.own.at1 rfl (by rw [colOf_len]; omega)
      obtain ⟨cv, -⟩ := hcc i (by rw [colOf_len]; exact hi)
      replace cv : w4.cell? ⟨gg, i, none⟩ = some (.int .i64 (r.f j)) := by
        rw [cv, show (colOf rows j).getD i elInt.zero = r.f j by rw [colOf, getD_map _ _ _ rowZ _ hi, HR.out]]; rfl
      have old := vals_at m g j hj
      rw [← cell_of_row _ _ _ _ _ _ hg] at old
      have fz : w4.frozen? ⟨w'.heap.size, 1 + j, none⟩ = false := frozen_of_row _ _ _ _ _ hg
      have hbl := (Array.getElem?_eq_some_iff.1 hg).1
      rw [colOf_len] at cc hlc
      have HNX := Lib.hid hnx
      have HLT := Lib.hid hlt
      replace hen : (Instr.entry (.pointer (some ⟨w'.heap.size + 1, 0, none⟩))).run Tryz.prog w4 = .ok (.tuple #[.int .i64 j, .pointer (some ⟨cb j, 0, none⟩)]) w4 := hen
      simp only [ptrOf, show kInt.val (j : Int) = .int .i64 j from rfl]
      unfold maxLen at hcm
      clear hc hnx hkp hrg hlt hsz hk hkm hg hcc hb4 hw
      go_wp2
      go_roundw
      case rel => exact ⟨_, _, HNX⟩
      case measure => rw [HNX.out.rng.left_eq, hrl.out.rng.left_eq]; exact HLT.out

theorem tabRow_any (p : Nat) (F : Nat → Prop) (m : Int) (rows : List Rw) (i : Int) (r : Rw) (x : Int) (w : World) (h : TableAt w p F m rows) (ok : TabOk m rows) (hr : rowR rows i = r) (hx : rowE rows i = x) :
    Calls Tryz.prog 106 #[.pointer (some ⟨p, 0, none⟩), .int .i64 i] w fun e w' => e = .returned (.tuple #[.agg #[.int .i64 r.s, .int .i64 r.g, .int .i64 r.m, .int .i64 (r.f 0), .int .i64 (r.f 1), .int .i64 (r.f 2), .int .i64 (r.f 3), .int .i64 (r.f 4), .int .i64 (r.f 5), .int .i64 (r.f 6), .int .i64 (r.f 7)], .int .i64 x]) ∧ Below w.heap.size w w' := by
  cases hi : inB i 0 (rows.length - 1)
  · obtain ⟨h1, h2⟩ := rowR_out hi
    rw [h1] at hr; rw [h2] at hx
    subst hr hx
    exact tabRow_no p F m rows i w h hi
  · obtain ⟨b1, b2⟩ := inB_t hi
    obtain ⟨j, rfl⟩ := Int.eq_ofNat_of_zero_le b1
    obtain ⟨h1, h2⟩ := rowR_in (rows := rows) (i := j) (by omega)
    rw [h2] at hx
    subst hx
    exact tabRow_yes p F m rows j r w h ok (by omega) (by rw [← h1]; exact hr)
end Go.Proofs.YtcmpaohefihijabGreatDoor

/- The contracts of Remove, Set, Column and Handles of package table. -/
namespace Go.Proofs.YtcmpaohefihijabGreatDoor
set_option maxRecDepth 8000
open Go.RowKit

theorem kept_set {F : Nat → Prop} {a w : World} (h : Kept F a w) (b j : Nat) (v : Value) (hb : F b ∨ a.heap.size ≤ b) : Kept F a (w.setCell ⟨b, j, none⟩ v) :=
  h.trans (Kept.setCell (F := fun k => k = b) w (p := ⟨b, j, none⟩) rfl v) (fun k e => by rw [e]; exact hb)

/-- An element has been written. -/
theorem col_store {α : Type} {E : El α} {T TT : TypeId} {w w2 : World} {b off g cap n : Nat} {cur : Array Value} {xs ys : List α} (h : ColIs E T w b off cur TT (.slice (some ⟨g, 0, none⟩) n cap) xs) (hk : Kept (fun k => k = g) w w2) (ho : OwnsF E w2 0 T (.slice (some ⟨g, 0, none⟩) n cap) ys) :
    ColPost E T w b off cur TT (.slice (some ⟨g, 0, none⟩) n cap) ys w2 := by
  have hgb : g ≠ b := h.ne g rfl
  have hb2 : w2.heap[b]? = some (.cells cur TT (0, 0)) := by rw [hk.block b h.lt (Ne.symm hgb)]; exact h.heap
  have hcur : cur.setIfInBounds off (.slice (some ⟨g, 0, none⟩) n cap) = cur := by
    have hoff : off < cur.size := (Array.getElem?_eq_some_iff.1 h.at_).1
    have hv := (Array.getElem?_eq_some_iff.1 h.at_).2
    rw [← hv, Array.setIfInBounds_def, dif_pos hoff, Array.set_getElem_self]
  refine ⟨_, ⟨by rw [hcur]; exact hb2, by rw [hcur]; exact h.at_, ho, h.ne⟩, hk.mono (fun k e => .inl (.inr (by rw [e]; rfl))), fun k e => .inl e⟩

theorem hsOf_rm (rows : List Rw) (i : Nat) (h : rows ≠ []) : rmL (hsOf rows) i (0, 0) = hsOf (rmL rows i rowZ) := rmL_map _ _ _ _ _ h
theorem colOf_rm (rows : List Rw) (i k : Nat) (h : rows ≠ []) : rmL (colOf rows k) i 0 = colOf (rmL rows i rowZ) k := rmL_map _ _ _ _ _ h

theorem NewC.later {n0 : Nat} {w w' : World} {F : Nat → Prop} (h : NewC n0 w F) (hl : ∀ b, F b → b < w.heap.size) (hb : Below w.heap.size w w') : NewC n0 w' F := fun b hF => (h b hF).imp id (fun hc => by
  obtain ⟨cs, T, z, e⟩ := hc
  exact ⟨cs, T, z, by rw [hb.block b (hl b hF)]; exact e⟩)
/-- A map's block is no block of cells. -/
theorem NewC.mapLt {n0 b n : Nat} {w : World} {F : Nat → Prop} {α : Type} {k : TypeId} {K : KeyEnc α k} {ks : List α} {f : α → Value} (h : NewC n0 w F) (hF : F b) (hm : MapIs K w b n ks f) : b < n0 := by
  rcases h b hF with e | ⟨cs, T, z, e⟩
  · exact e
  · obtain ⟨D, ⟨es, clock, hh, -⟩, -⟩ := hm
    rw [e] at hh; cases hh
/-- as RemPost, and from n0 on only cells -/
def RemPostN (n0 : Nat) (w : World) (p : Nat) (F : Nat → Prop) (m : Int) (rows : List Rw) (i : Int) (r : Rw) (x : Int) (e : Ending) (w' : World) : Prop :=
  e = .returned (.tuple #[.agg #[.int .i64 r.s, .int .i64 r.g, .int .i64 r.m, .int .i64 (r.f 0), .int .i64 (r.f 1), .int .i64 (r.f 2), .int .i64 (r.f 3), .int .i64 (r.f 4), .int .i64 (r.f 5), .int .i64 (r.f 6), .int .i64 (r.f 7)], .int .i64 x]) ∧ ∃ F', TableAt w' p F' m (remL rows i) ∧ Kept F w w' ∧ Moves w F F' ∧ NewC n0 w' F'
def RemPost (w : World) (p : Nat) (F : Nat → Prop) (m : Int) (rows : List Rw) (i : Int) (r : Rw) (x : Int) (e : Ending) (w' : World) : Prop :=
  e = .returned (.tuple #[.agg #[.int .i64 r.s, .int .i64 r.g, .int .i64 r.m, .int .i64 (r.f 0), .int .i64 (r.f 1), .int .i64 (r.f 2), .int .i64 (r.f 3), .int .i64 (r.f 4), .int .i64 (r.f 5), .int .i64 (r.f 6), .int .i64 (r.f 7)], .int .i64 x]) ∧ ∃ F', TableAt w' p F' m (remL rows i) ∧ Kept F w w' ∧ Moves w F F'

set_option maxHeartbeats 2000000 in
theorem tabRemove_noN (p : Nat) (F : Nat → Prop) (m : Int) (rows : List Rw) (i : Int) (n0 : Nat) (w : World) (hnc : NewC n0 w F) (h : TableAt w p F m rows) (ok : TabOk m rows) (hi : inB i 0 (rows.length - 1) = false) :
    Calls Tryz.prog 124 #[.pointer (some ⟨p, 0, none⟩), .int .i64 i] w (RemPostN n0 w p F m rows i rowZ 5) := by
  have HNC := Lib.hid hnc
  have HT := Lib.hid h
  clear hnc
  have HI := Lib.hid hi
  have HOK := Lib.hid ok
  have HRL : Hid (remL rows i = rows) := Lib.hid (by rw [remL, hi]; rfl)
  clear h hi ok
  go_enter Tryz.func124, Tryz.ntmps124
  go_wp2_with fail
  refine (tabRow_any p F m rows i rowZ 5 _ (HT.out.later (nb_alloc (Below.refl _ _) _)) HOK.out (rowR_out HI.out).1 (rowR_out HI.out).2).mono ?_
  rintro e w' ⟨rfl, hb'⟩
  have hrb : w'.heap[w.heap.size]? = some (.cells #[.int .i64 0, .int .i64 0, .int .i64 0, .int .i64 0, .int .i64 0, .int .i64 0, .int .i64 0, .int .i64 0, .int .i64 0, .int .i64 0, .int .i64 0] 39) := by rw [hb'.block _ (by simp)]; exact heap_alloc_new w _
  have k0 : w'.cell? ⟨w.heap.size, 0, none⟩ = some (.int .i64 0) := by rw [cell_of_row _ _ _ _ _ _ hrb]; rfl
  have k1 : w'.cell? ⟨w.heap.size, 1, none⟩ = some (.int .i64 0) := by rw [cell_of_row _ _ _ _ _ _ hrb]; rfl
  have k2 : w'.cell? ⟨w.heap.size, 2, none⟩ = some (.int .i64 0) := by rw [cell_of_row _ _ _ _ _ _ hrb]; rfl
  have k3 : w'.cell? ⟨w.heap.size, 3, none⟩ = some (.int .i64 0) := by rw [cell_of_row _ _ _ _ _ _ hrb]; rfl
  have k4 : w'.cell? ⟨w.heap.size, 4, none⟩ = some (.int .i64 0) := by rw [cell_of_row _ _ _ _ _ _ hrb]; rfl
  have k5 : w'.cell? ⟨w.heap.size, 5, none⟩ = some (.int .i64 0) := by rw [cell_of_row _ _ _ _ _ _ hrb]; rfl
  have k6 : w'.cell? ⟨w.heap.size, 6, none⟩ = some (.int .i64 0) := by rw [cell_of_row _ _ _ _ _ _ hrb]; rfl
  have k7 : w'.cell? ⟨w.heap.size, 7, none⟩ = some (.int .i64 0) := by rw [cell_of_row _ _ _ _ _ _ hrb]; rfl
  have k8 : w'.cell? ⟨w.heap.size, 8, none⟩ = some (.int .i64 0) := by rw [cell_of_row _ _ _ _ _ _ hrb]; rfl
  have k9 : w'.cell? ⟨w.heap.size, 9, none⟩ = some (.int .i64 0) := by rw [cell_of_row _ _ _ _ _ _ hrb]; rfl
  have k10 : w'.cell? ⟨w.heap.size, 10, none⟩ = some (.int .i64 0) := by rw [cell_of_row _ _ _ _ _ _ hrb]; rfl
  have fz : ∀ j, w'.frozen? ⟨w.heap.size, j, none⟩ = false := fun j => frozen_of_row _ _ _ _ _ hrb
  have hl1 := (Array.getElem?_eq_some_iff.1 hrb).1
  have HB := Lib.hid (nb_trans (nb_alloc (Below.refl _ _) _) hb')
  clear hrb hb'
  go_wp2
  refine bodyPost_ret (v := .tuple #[.agg #[.int .i64 rowZ.s, .int .i64 rowZ.g, .int .i64 rowZ.m, .int .i64 (rowZ.f 0), .int .i64 (rowZ.f 1), .int .i64 (rowZ.f 2), .int .i64 (rowZ.f 3), .int .i64 (rowZ.f 4), .int .i64 (rowZ.f 5), .int .i64 (rowZ.f 6), .int .i64 (rowZ.f 7)], .int .i64 5]) (by simp [results, Tryz.results124, go_sem, rowZ, hl1, k0, k1, k2, k3, k4, k5, k6, k7, k8, k9, k10]) rfl ⟨rfl, F, ?_, ?_, Moves.refl _ _, ?_⟩
  · rw [HRL.out]
    refine TableAt.later HT.out ?_
    refine nb_alloc ?_ _
    iterate 11 (refine nb_set ?_ _ _ _ (Nat.le_refl _))
    exact HB.out
  · refine Kept.ofBelow ?_
    refine nb_alloc ?_ _
    iterate 11 (refine nb_set ?_ _ _ _ (Nat.le_refl _))
    exact HB.out
  · refine HNC.out.later HT.out.lt ?_
    refine nb_alloc ?_ _
    iterate 11 (refine nb_set ?_ _ _ _ (Nat.le_refl _))
    exact HB.out

set_option maxHeartbeats 4000000 in
theorem tabRemove_yesN (p : Nat) (F : Nat → Prop) (m : Int) (rows : List Rw) (i : Nat) (r : Rw) (n0 : Nat) (w : World) (hnc : NewC n0 w F) (h : TableAt w p F m rows) (ok : TabOk m rows) (hi : i < rows.length) (hr : rows.getD i rowZ = r) :
    Calls Tryz.prog 124 #[.pointer (some ⟨p, 0, none⟩), .int .i64 i] w (RemPostN n0 w p F m rows i r 0) := by
  have HNC := Lib.hid hnc
  have HT := Lib.hid h
  clear hnc
  have HOK := Lib.hid ok
  have HR := Lib.hid hr
  have HI := Lib.hid hi
  have hne : rows ≠ [] := by rintro rfl; simp at hi
  have HRL : Hid (remL rows i = rmL rows i rowZ) := Lib.hid (by rw [remL, show inB (i : Int) 0 (rows.length - 1) = true by simp [inB]; omega, if_pos rfl, Int.toNat_natCast])
  have HNE := Lib.hid hne
  clear ok hr hne
  obtain ⟨v, mb, n, cb, c, h⟩ := h
  have HTI := Lib.hid h
  clear h
  go_enter Tryz.func124, Tryz.ntmps124
  go_wp2_with fail
  refine (tabRow_any p F m rows i r 0 _ (HT.out.later (nb_alloc (Below.refl _ _) _)) HOK.out ((rowR_in HI.out).1.trans HR.out) (rowR_in HI.out).2).mono ?_
  rintro e w' ⟨rfl, hb'⟩
  have hrb : w'.heap[w.heap.size]? = some (.cells #[.int .i64 0, .int .i64 0, .int .i64 0, .int .i64 0, .int .i64 0, .int .i64 0, .int .i64 0, .int .i64 0, .int .i64 0, .int .i64 0, .int .i64 0] 39) := by rw [hb'.block _ (by simp)]; exact heap_alloc_new w _
  have hl1 := (Array.getElem?_eq_some_iff.1 hrb).1
  have hb : Below w.heap.size w w' := nb_trans (nb_alloc (Below.refl _ _) _) hb'
  have hpl : p < w'.heap.size := Nat.lt_of_lt_of_le (HTI.out.lt p HTI.out.fp.1) hb.size
  have HB := Lib.hid hb
  have HRB := Lib.hid hrb
  have HTX := Lib.hid (HTI.out.later (nb_alloc hb (.cells #[.int .i64 r.s, .int .i64 r.g, .int .i64 r.m, .int .i64 (r.f 0), .int .i64 (r.f 1), .int .i64 (r.f 2), .int .i64 (r.f 3), .int .i64 (r.f 4), .int .i64 (r.f 5), .int .i64 (r.f 6), .int .i64 (r.f 7)] 39)))
  clear hrb hb' hb
  go_wp2_with fail
  refine (hcolRemove_any 1 i _ HTX.out.hcol (by rw [hsOf_len]; exact HI.out)).mono ?_
  rintro e w2 ⟨rfl, hp⟩
  obtain ⟨v2, ht2, hk2⟩ := HTX.out.hstep hp
  have hx := HB.out.size
  have hsx : (w'.alloc (.cells #[.int .i64 r.s, .int .i64 r.g, .int .i64 r.m, .int .i64 (r.f 0), .int .i64 (r.f 1), .int .i64 (r.f 2), .int .i64 (r.f 3), .int .i64 (r.f 4), .int .i64 (r.f 5), .int .i64 (r.f 6), .int .i64 (r.f 7)] 39)).heap.size = w'.heap.size + 1 := by simp
  have hn1 : ∀ b, w.heap.size ≤ b → b < w'.heap.size + 1 → ¬ growF F (w'.alloc (.cells #[.int .i64 r.s, .int .i64 r.g, .int .i64 r.m, .int .i64 (r.f 0), .int .i64 (r.f 1), .int .i64 (r.f 2), .int .i64 (r.f 3), .int .i64 (r.f 4), .int .i64 (r.f 5), .int .i64 (r.f 6), .int .i64 (r.f 7)] 39)) w2 b := fun b h1 h2 e => by
    rcases e with e | e
    · have := HT.out.lt _ e; omega
    · omega
  have hrb2 : w2.heap[w.heap.size]? = some (.cells #[.int .i64 0, .int .i64 0, .int .i64 0, .int .i64 0, .int .i64 0, .int .i64 0, .int .i64 0, .int .i64 0, .int .i64 0, .int .i64 0, .int .i64 0] 39) := by
    rw [hk2.block _ (by omega) (fun e => by have := HT.out.lt _ e; omega), Below.heap_alloc _ _ _ hl1]; exact HRB.out
  have hrr2 : w2.heap[w'.heap.size]? = some (.cells #[.int .i64 r.s, .int .i64 r.g, .int .i64 r.m, .int .i64 (r.f 0), .int .i64 (r.f 1), .int .i64 (r.f 2), .int .i64 (r.f 3), .int .i64 (r.f 4), .int .i64 (r.f 5), .int .i64 (r.f 6), .int .i64 (r.f 7)] 39) := by
    rw [hk2.block _ (by omega) (fun e => by have := HT.out.lt _ e; omega)]; exact heap_alloc_new w' _
  have HK2 : Hid (Kept F w w2) := Lib.hid ((Kept.ofBelow (nb_alloc HB.out _)).trans hk2 (fun _ h => .inl h))
  have HM2 : Hid (Moves w F (growF F (w'.alloc (.cells #[.int .i64 r.s, .int .i64 r.g, .int .i64 r.m, .int .i64 (r.f 0), .int .i64 (r.f 1), .int .i64 (r.f 2), .int .i64 (r.f 3), .int .i64 (r.f 4), .int .i64 (r.f 5), .int .i64 (r.f 6), .int .i64 (r.f 7)] 39)) w2)) := Lib.hid (fun b e => e.imp id (fun h => by omega))
  have HSZ : Hid (w'.heap.size + 1 ≤ w2.heap.size) := Lib.hid (by have := hk2.size; omega)
  have c2 := ht2.cell2
  have HT2 := Lib.hid ht2
  have HN1 := Lib.hid hn1
  have HRB2 := Lib.hid hrb2
  have HRR2 := Lib.hid hrr2
  have HX := Lib.hid hx
  clear hp ht2 hk2 hx hsx hn1 hrb2 hrr2 HTX HRB
  generalize growF F (w'.alloc (.cells #[.int .i64 r.s, .int .i64 r.g, .int .i64 r.m, .int .i64 (r.f 0), .int .i64 (r.f 1), .int .i64 (r.f 2), .int .i64 (r.f 3), .int .i64 (r.f 4), .int .i64 (r.f 5), .int .i64 (r.f 6), .int .i64 (r.f 7)] 39)) w2 = F2 at *
  generalize growC c (w'.alloc (.cells #[.int .i64 r.s, .int .i64 r.g, .int .i64 r.m, .int .i64 (r.f 0), .int .i64 (r.f 1), .int .i64 (r.f 2), .int .i64 (r.f 3), .int .i64 (r.f 4), .int .i64 (r.f 5), .int .i64 (r.f 6), .int .i64 (r.f 7)] 39)) (-3) = cc2 at *
  go_wp2_with (first | (at_range; refine wpList_range_is (K := kInt) _ rfl _ 198 rfl _ Tryz.underlying198 rfl HT2.out.map ?_))
  intro w3 hrg hb3 hsz3
  have HCL := Lib.hid (ColLoop.start (ys := fun k => colOf (rmL rows i rowZ) k.toNat) HT2.out hrg hb3)
  clear hrg hb3 hsz3
  go_wp2
  go_loopw [9] (fun _ wr => ∃ todo cnt, Hid (ColLoop w2 wr p F2 m (rmL (hsOf rows) i (0, 0)) (fun k => colOf rows k.toNat) (fun k => colOf (rmL rows i rowZ) k.toNat) v2 mb n cb w2.heap.size todo cnt)) (fun _ wr => wr.rangeLeft mb w2.heap.size)
  case atStart => exact ⟨_, _, HCL⟩
  case round =>
    obtain ⟨todo, cnt, hcl⟩ := hrel
    clear HCL
    go_wp2_with (first | (at_next; refine wpList_next_is (K := kInt) _ rfl _ rfl rfl hcl.out.range ?_ ?_))
    case refine_1 =>
      rintro rfl
      obtain ⟨F3, c3, ht3, hk3, hm3⟩ := hcl.out.done
      have hs := HSZ.out
      have hrb : wr.heap[w.heap.size]? = some (.cells #[.int .i64 0, .int .i64 0, .int .i64 0, .int .i64 0, .int .i64 0, .int .i64 0, .int .i64 0, .int .i64 0, .int .i64 0, .int .i64 0, .int .i64 0] 39) := by rw [hk3.block _ (by omega) (HN1.out _ (Nat.le_refl _) (by omega))]; exact HRB2.out
      have hrr : wr.heap[w'.heap.size]? = some (.cells #[.int .i64 r.s, .int .i64 r.g, .int .i64 r.m, .int .i64 (r.f 0), .int .i64 (r.f 1), .int .i64 (r.f 2), .int .i64 (r.f 3), .int .i64 (r.f 4), .int .i64 (r.f 5), .int .i64 (r.f 6), .int .i64 (r.f 7)] 39) := by rw [hk3.block _ (by omega) (HN1.out _ HX.out (by omega))]; exact HRR2.out
      have k0 : wr.cell? ⟨w.heap.size, 0, none⟩ = some (.int .i64 0) := by rw [cell_of_row _ _ _ _ _ _ hrb]; rfl
      have k1 : wr.cell? ⟨w.heap.size, 1, none⟩ = some (.int .i64 0) := by rw [cell_of_row _ _ _ _ _ _ hrb]; rfl
      have k2 : wr.cell? ⟨w.heap.size, 2, none⟩ = some (.int .i64 0) := by rw [cell_of_row _ _ _ _ _ _ hrb]; rfl
      have k3 : wr.cell? ⟨w.heap.size, 3, none⟩ = some (.int .i64 0) := by rw [cell_of_row _ _ _ _ _ _ hrb]; rfl
      have k4 : wr.cell? ⟨w.heap.size, 4, none⟩ = some (.int .i64 0) := by rw [cell_of_row _ _ _ _ _ _ hrb]; rfl
      have k5 : wr.cell? ⟨w.heap.size, 5, none⟩ = some (.int .i64 0) := by rw [cell_of_row _ _ _ _ _ _ hrb]; rfl
      have k6 : wr.cell? ⟨w.heap.size, 6, none⟩ = some (.int .i64 0) := by rw [cell_of_row _ _ _ _ _ _ hrb]; rfl
      have k7 : wr.cell? ⟨w.heap.size, 7, none⟩ = some (.int .i64 0) := by rw [cell_of_row _ _ _ _ _ _ hrb]; rfl
      have k8 : wr.cell? ⟨w.heap.size, 8, none⟩ = some (.int .i64 0) := by rw [cell_of_row _ _ _ _ _ _ hrb]; rfl
      have k9 : wr.cell? ⟨w.heap.size, 9, none⟩ = some (.int .i64 0) := by rw [cell_of_row _ _ _ _ _ _ hrb]; rfl
      have k10 : wr.cell? ⟨w.heap.size, 10, none⟩ = some (.int .i64 0) := by rw [cell_of_row _ _ _ _ _ _ hrb]; rfl
      have q0 : wr.cell? ⟨w'.heap.size, 0, none⟩ = some (.int .i64 r.s) := by rw [cell_of_row _ _ _ _ _ _ hrr]; rfl
      have q1 : wr.cell? ⟨w'.heap.size, 1, none⟩ = some (.int .i64 r.g) := by rw [cell_of_row _ _ _ _ _ _ hrr]; rfl
      have q2 : wr.cell? ⟨w'.heap.size, 2, none⟩ = some (.int .i64 r.m) := by rw [cell_of_row _ _ _ _ _ _ hrr]; rfl
      have q3 : wr.cell? ⟨w'.heap.size, 3, none⟩ = some (.int .i64 (r.f 0)) := by rw [cell_of_row _ _ _ _ _ _ hrr]; rfl
      have q4 : wr.cell? ⟨w'.heap.size, 4, none⟩ = some (.int .i64 (r.f 1)) := by rw [cell_of_row _ _ _ _ _ _ hrr]; rfl
      have q5 : wr.cell? ⟨w'.heap.size, 5, none⟩ = some (.int .i64 (r.f 2)) := by rw [cell_of_row _ _ _ _ _ _ hrr]; rfl
      have q6 : wr.cell? ⟨w'.heap.size, 6, none⟩ = some (.int .i64 (r.f 3)) := by rw [cell_of_row _ _ _ _ _ _ hrr]; rfl
      have q7 : wr.cell? ⟨w'.heap.size, 7, none⟩ = some (.int .i64 (r.f 4)) := by rw [cell_of_row _ _ _ _ _ _ hrr]; rfl
      have q8 : wr.cell? ⟨w'.heap.size, 8, none⟩ = some (.int .i64 (r.f 5)) := by rw [cell_of_row _ _ _ _ _ _ hrr]; rfl
      have q9 : wr.cell? ⟨w'.heap.size, 9, none⟩ = some (.int .i64 (r.f 6)) := by rw [cell_of_row _ _ _ _ _ _ hrr]; rfl
      have q10 : wr.cell? ⟨w'.heap.size, 10, none⟩ = some (.int .i64 (r.f 7)) := by rw [cell_of_row _ _ _ _ _ _ hrr]; rfl
      have fz : ∀ j, wr.frozen? ⟨w.heap.size, j, none⟩ = false := fun j => frozen_of_row _ _ _ _ _ hrb
      have hl2 := (Array.getElem?_eq_some_iff.1 hrb).1
      have hl3 := (Array.getElem?_eq_some_iff.1 hrr).1
      have hnF : ¬ F3 w.heap.size := fun e => by
        rcases hm3 _ e with e | e
        · exact HN1.out _ (Nat.le_refl _) (by omega) e
        · omega
      have HEND : Hid (∀ X, Kept (fun k => k = w.heap.size) wr X → RemPostN n0 w p F m rows i r 0 (.returned (.tuple #[.agg #[.int .i64 r.s, .int .i64 r.g, .int .i64 r.m, .int .i64 (r.f 0), .int .i64 (r.f 1), .int .i64 (r.f 2), .int .i64 (r.f 3), .int .i64 (r.f 4), .int .i64 (r.f 5), .int .i64 (r.f 6), .int .i64 (r.f 7)], .int .i64 0])) X) := Lib.hid (fun X hX => by
        refine ⟨rfl, fun b => F3 b ∧ (b < n0 ∨ CellsAt X b), ⟨v2, mb, n, cb, c3, ?_⟩, (HK2.out.trans hk3 HM2.out).trans hX (fun k e => .inr (by omega)), fun b hb => HM2.out.trans hm3 (by have := HX.out; omega) b hb.1, fun b hb => hb.2⟩
        have := (ht3.kept hX (fun k hk e => hnF (e ▸ hk))).cellsOnly (n0 := n0) (HNC.out.mapLt HTI.out.fm.1 HTI.out.map)
        rw [hsOf_rm rows i HNE.out] at this
        rw [HRL.out]; exact this)
      have hwx : ¬ w.heap.size = w'.heap.size := by omega
      clear ht3 hk3 hm3 hcl hrb hrr hnF
      go_wp2
      refine bodyPost_ret (v := .tuple #[.agg #[.int .i64 r.s, .int .i64 r.g, .int .i64 r.m, .int .i64 (r.f 0), .int .i64 (r.f 1), .int .i64 (r.f 2), .int .i64 (r.f 3), .int .i64 (r.f 4), .int .i64 (r.f 5), .int .i64 (r.f 6), .int .i64 (r.f 7)], .int .i64 0]) (by simp [results, Tryz.results124, go_sem, k0, k1, k2, k3, k4, k5, k6, k7, k8, k9, k10]) rfl (HEND.out _ ?_)
      iterate 11 (refine kept_set ?_ _ _ _ (.inl rfl))
      exact Kept.refl _ _
    case refine_2 =>
      intro k w4 cnt' hk hkm hrg hlt hkp hsz hen
      obtain ⟨u, hc, hnext⟩ := hcl.out.next hk (Nat.le_refl _) hrg hkp hsz
      obtain ⟨j, hj, rfl, -⟩ := mem_kindsTo.1 hkm
      have HC := Lib.hid hc
      have HNX := Lib.hid hnext
      have HLT := Lib.hid hlt
      have hcb := hc.lt
      replace hen : (Instr.entry (.pointer (some ⟨w2.heap.size, 0, none⟩))).run Tryz.prog w4 = .ok (.tuple #[.int .i64 j, .pointer (some ⟨cb j, 0, none⟩)]) w4 := hen
      simp only [ptrOf, show kInt.val (j : Int) = .int .i64 j from rfl]
      clear hc hnext hkp hrg hlt hsz hk hkm
      go_wp2_with fail
      refine (colRemove_any 0 i _ HC.out (by rw [colOf_len]; exact HI.out)).mono ?_
      rintro e w5 ⟨rfl, hp⟩
      have HN := Lib.hid (HNX.out w5 (by rw [colOf_rm _ _ _ HNE.out] at hp; exact hp))
      clear hp
      go_wp2
      go_roundw
      case rel => exact ⟨_, _, HN⟩
      case measure => rw [HN.out.range.left_eq, hcl.out.range.left_eq]; exact HLT.out

theorem tabRemove_anyN (p : Nat) (F : Nat → Prop) (m : Int) (rows : List Rw) (i : Int) (r : Rw) (x : Int) (n0 : Nat) (w : World) (hnc : NewC n0 w F) (h : TableAt w p F m rows) (ok : TabOk m rows) (hr : rowR rows i = r) (hx : rowE rows i = x) :
    Calls Tryz.prog 124 #[.pointer (some ⟨p, 0, none⟩), .int .i64 i] w (RemPostN n0 w p F m rows i r x) := by
  cases hi : inB i 0 (rows.length - 1)
  · obtain ⟨h1, h2⟩ := rowR_out hi
    rw [h1] at hr; rw [h2] at hx
    subst hr hx
    exact tabRemove_noN p F m rows i n0 w hnc h ok hi
  · obtain ⟨b1, b2⟩ := inB_t hi
    obtain ⟨j, rfl⟩ := Int.eq_ofNat_of_zero_le b1
    obtain ⟨h1, h2⟩ := rowR_in (rows := rows) (i := j) (by omega)
    rw [h2] at hx
    subst hx
    exact tabRemove_yesN p F m rows j r n0 w hnc h ok (by omega) (by rw [← h1]; exact hr)
theorem tabRemove_any (p : Nat) (F : Nat → Prop) (m : Int) (rows : List Rw) (i : Int) (r : Rw) (x : Int) (w : World) (h : TableAt w p F m rows) (ok : TabOk m rows) (hr : rowR rows i = r) (hx : rowE rows i = x) :
    Calls Tryz.prog 124 #[.pointer (some ⟨p, 0, none⟩), .int .i64 i] w (RemPost w p F m rows i r x) :=
  (tabRemove_anyN p F m rows i r x w.heap.size w (NewC.lt h.lt) h ok hr hx).mono fun _ _ ⟨h1, F', h2, h3, h4, _⟩ => ⟨h1, F', h2, h3, h4⟩
end Go.Proofs.YtcmpaohefihijabGreatDoor

/- The contracts of Set, Column and Handles of package table. -/
namespace Go.Proofs.YtcmpaohefihijabGreatDoor
set_option maxRecDepth 8000
open Go.RowKit

def SetPost (w : World) (p : Nat) (F : Nat → Prop) (m : Int) (rows : List Rw) (i k n : Int) (e : Ending) (w' : World) : Prop :=
  e = .returned (.int .i64 (setE m rows i k n)) ∧ ∃ F', TableAt w' p F' m (setL m rows i k n) ∧ Kept F w w' ∧ Moves w F F'
theorem SetPost.no {w : World} {p : Nat} {F : Nat → Prop} {m : Int} {rows : List Rw} {i k n x : Int} (h : TableAt w p F m rows) (hx : setE m rows i k n = x) (h0 : x ≠ 0) : SetPost w p F m rows i k n (.returned (.int .i64 x)) w := by
  subst hx
  refine ⟨rfl, F, ?_, Kept.refl _ _, Moves.refl _ _⟩
  rw [setL, if_neg h0]; exact h
theorem hsOf_put (rows : List Rw) (i k : Nat) (n : Int) : hsOf (rows.set i (putV (rows.getD i rowZ) k n)) = hsOf rows := by
  unfold hsOf
  rw [List.map_set]
  apply List.ext_getElem?
  intro j
  by_cases e : i = j
  · subst e
    by_cases hi : i < rows.length
    · rw [List.getElem?_set_self (by simpa using hi)]
      simp [putV, List.getElem?_eq_getElem hi, List.getD_eq_getElem?_getD]
    · rw [List.getElem?_eq_none (by simp; omega), List.getElem?_eq_none (by simp; omega)]
  · rw [List.getElem?_set_ne e]
theorem colOf_put (rows : List Rw) (i k j : Nat) (n : Int) : colOf (rows.set i (putV (rows.getD i rowZ) k n)) j = if j = k then (colOf rows j).set i n else colOf rows j := by
  unfold colOf
  rw [List.map_set]
  by_cases e : j = k
  · subst e; rw [if_pos rfl]; simp [putV]
  · rw [if_neg e]
    apply List.ext_getElem?
    intro q
    by_cases e2 : i = q
    · subst e2
      by_cases hi : i < rows.length
      · rw [List.getElem?_set_self (by simpa using hi)]
        simp [putV, List.getElem?_eq_getElem hi, List.getD_eq_getElem?_getD, e]
      · rw [List.getElem?_eq_none (by simp; omega), List.getElem?_eq_none (by simp; omega)]
    · rw [List.getElem?_set_ne e2]

set_option maxHeartbeats 1000000 in
theorem tabSet_any (p : Nat) (F : Nat → Prop) (m : Int) (rows : List Rw) (i k n : Int) (w : World) (h : TableAt w p F m rows) :
    Calls Tryz.prog 62 #[.pointer (some ⟨p, 0, none⟩), .int .i64 i, .int .i64 k, .int .i64 n] w (SetPost w p F m rows i k n) := by
  have HT := Lib.hid h
  cases hi : inB i 0 (rows.length - 1)
  · have HP := Lib.hid (SetPost.no (i := i) (k := k) (n := n) h (by rw [setE, hi]; rfl) (show (5 : Int) ≠ 0 by decide))
    have HI := Lib.hid hi
    clear h hi
    go_enter Tryz.func62, Tryz.ntmps62
    go_wp2_with fail
    refine (hasRow_any p F m rows i _ HT.out).mono ?_
    rintro e w' ⟨rfl, rfl⟩
    rw [HI.out]
    go_wp2
    go_ret
    exact HP.out
  · by_cases hk : colE m k = 0
    · cases hn : inB n (-1000000000) 1000000000
      · have HP := Lib.hid (SetPost.no (i := i) (k := k) (n := n) h (by rw [setE, hi, if_pos rfl, if_pos hk, hn]; rfl) (show (1 : Int) ≠ 0 by decide))
        have HI := Lib.hid hi
        have HK := Lib.hid hk
        obtain ⟨v, mb, nn, cb, c, h⟩ := h
        have HTI := Lib.hid h
        clear h hi hk
        rcases inB_f hn with b1 | b1
        all_goals
          clear hn
          go_enter Tryz.func62, Tryz.ntmps62
          go_wp2_with fail
          refine (hasRow_any p F m rows i _ HT.out).mono ?_
          rintro e w' ⟨rfl, rfl⟩
          rw [HI.out]
          go_wp2_with fail
          refine (column_any k _ HTI.out).mono ?_
          rintro e w' ⟨rfl, rfl⟩
          rw [HK.out, if_pos rfl]
          simp only [ptrOf]
          go_wp2
          go_ret
          exact HP.out
      · have HI := Lib.hid hi
        have HK := Lib.hid hk
        obtain ⟨v, mb, nn, cb, c, h⟩ := h
        have HTI := Lib.hid h
        obtain ⟨b1, b2⟩ := inB_t hn
        obtain ⟨i1, i2⟩ := inB_t hi
        obtain ⟨a, rfl⟩ := Int.eq_ofNat_of_zero_le i1
        have ha : a < rows.length := by omega
        have hkk : inB k 0 7 = true ∧ tb m k.toNat = true := by
          unfold colE at hk
          cases h1 : inB k 0 7 <;> cases h2 : tb m k.toNat <;> simp [h1, h2] at hk ⊢
        obtain ⟨k1, k2⟩ := inB_t hkk.1
        obtain ⟨j, rfl⟩ := Int.eq_ofNat_of_zero_le k1
        rw [Int.toNat_natCast] at hkk
        have hjm : (j : Int) ∈ kinds m := (kinds_iff (by omega)).2 hkk.2
        obtain ⟨u, hc, hu⟩ := h.colIs hjm
        have cc := hc.cell
        have hcb := hc.lt
        rw [Int.toNat_natCast] at hc
        obtain ⟨gg, cap, rfl, hgl, hlc, hcm, hcc⟩ := hc.own.at1 rfl (by rw [colOf_len]; omega)
        obtain ⟨cv, fz⟩ := hcc a (by rw [colOf_len]; exact ha)
        replace cv : w.cell? ⟨gg, a, none⟩ = some (.int .i64 ((colOf rows j).getD a 0)) := cv
        have hks : Kept (fun q => q = gg) w (w.setCell ⟨gg, a, none⟩ (.int .i64 n)) := Kept.setCell (F := fun q => q = gg) _ (p := ⟨gg, a, none⟩) rfl _
        have hpost := col_store hc hks (hc.own.stored1 rfl a n (.int .i64 n) (by rw [colOf_len]; exact ha) rfl)
        obtain ⟨hT', hK'⟩ := h.cstep hjm hu hpost
        have hE : setE m rows a j n = 0 := by rw [setE, hi, if_pos rfl, if_pos hk, hn]; rfl
        have hcg : ∀ q ∈ kinds m, (if q = (j : Int) then (colOf rows j).set a n else colOf rows q.toNat) = colOf (rows.set a (putV (rows.getD a rowZ) j n)) q.toNat := fun q hq => by
          have hq0 := kinds_ge hq
          obtain ⟨q, rfl⟩ := Int.eq_ofNat_of_zero_le hq0.1
          rw [Int.toNat_natCast, colOf_put]
          by_cases e : q = j
          · subst e; rw [if_pos rfl, if_pos rfl]
          · rw [if_neg e, if_neg (by omega)]
        have HEND : Hid (SetPost w p F m rows a j n (.returned (.int .i64 0)) (w.setCell ⟨gg, a, none⟩ (.int .i64 n))) := Lib.hid (by
          refine ⟨by rw [hE], growF F w (w.setCell ⟨gg, a, none⟩ (.int .i64 n)), ⟨v, mb, nn, cb, growC c w j, ?_⟩, hK', growF_moves _ _ _⟩
          rw [setL, if_pos hE, Int.toNat_natCast, Int.toNat_natCast, hsOf_put]
          exact hT'.congr hcg)
        rw [colOf_len] at cc hlc
        clear h hi hk hn hc hcc hks hpost hT' hK' hu hjm hkk hE hcg
        unfold maxLen at hcm
        generalize (colOf rows j).getD a 0 = old at *
        go_enter Tryz.func62, Tryz.ntmps62
        go_wp2_with fail
        refine (hasRow_any p F m rows a _ HT.out).mono ?_
        rintro e w' ⟨rfl, rfl⟩
        rw [HI.out]
        go_wp2_with fail
        refine (column_any j _ HTI.out).mono ?_
        rintro e w' ⟨rfl, rfl⟩
        rw [HK.out, if_pos rfl]
        simp only [ptrOf]
        go_wp2
        go_ret
        exact HEND.out
    · have HP := Lib.hid (SetPost.no (i := i) (k := k) (n := n) h (by rw [setE, hi, if_pos rfl, if_neg hk]) hk)
      have HI := Lib.hid hi
      have hne : (colE m k != 0) = true := by simpa using hk
      obtain ⟨v, mb, nn, cb, c, h⟩ := h
      have HTI := Lib.hid h
      have HK := Lib.hid hk
      clear h hi hk
      go_enter Tryz.func62, Tryz.ntmps62
      go_wp2_with fail
      refine (hasRow_any p F m rows i _ HT.out).mono ?_
      rintro e w' ⟨rfl, rfl⟩
      rw [HI.out]
      go_wp2_with fail
      refine (column_any k _ HTI.out).mono ?_
      rintro e w' ⟨rfl, rfl⟩
      rw [if_neg HK.out]
      go_wp2
      go_ret
      exact HP.out

set_option maxHeartbeats 1000000 in
theorem tabHandles_any (p : Nat) (F : Nat → Prop) (m : Int) (rows : List Rw) (w : World) (h : TableAt w p F m rows) (hl : rows.length * 16 ≤ 140737488355328) :
    Calls Tryz.prog 105 #[.pointer (some ⟨p, 0, none⟩)] w fun e w' => ∃ v, e = .returned v ∧ OwnsF elHand w' w.heap.size 34 v (hsOf rows) ∧ Below w.heap.size w w' := by
  obtain ⟨v, mb, nn, cb, c, h⟩ := h
  have HC := Lib.hid h.hcol
  have hpl := h.hcol.lt
  clear h
  go_enter Tryz.func105, Tryz.ntmps105
  go_wp2_with fail
  refine (hcolList_any 1 _ HC.out (by rw [hsOf_len]; exact hl)).mono ?_
  rintro e w1 ⟨v1, rfl, ho, hb⟩
  have HO := Lib.hid ho
  have HB := Lib.hid hb
  clear ho hb
  go_wp2
  go_ret
  exact ⟨_, rfl, HO.out, HB.out⟩
end Go.Proofs.YtcmpaohefihijabGreatDoor

/- Own slices of rows; Copy of rows; a call in a drawn region. -/
namespace Go.Proofs.YtcmpaohefihijabGreatDoor
open Go.RowKit

theorem infoRow : (Tryz.prog.info? 39).map (fun i => (i.zero, i.size, i.bytes)) = some (some (.agg #[.int .i64 0, .int .i64 0, .int .i64 0, .int .i64 0, .int .i64 0, .int .i64 0, .int .i64 0, .int .i64 0, .int .i64 0, .int .i64 0, .int .i64 0]), 11, 88) := by kernel_rfl

/-- An own slice of rows, opened. -/
theorem OwnsF.at11 {w : World} {B : Nat} {T : TypeId} {v : Value} {xs : List Rw} (h : OwnsF elRow w B T v xs) (h0 : 0 < xs.length) :
    ∃ g cap, v = .slice (some ⟨g, 0, none⟩) xs.length cap ∧ B ≤ g ∧ g < w.heap.size ∧ xs.length ≤ cap ∧ cap ≤ maxLen ∧ (∀ j, w.frozen? ⟨g, j, none⟩ = false) ∧ ∀ k, k < xs.length → ∀ j, j < 11 → w.cell? ⟨g, k * 11 + j, none⟩ = (elRow.enc (xs.getD k rowZ))[j]? := by
  have hB := fun k e => h.ge (k := k) e
  rcases h.owns.form with ⟨rfl, rfl⟩ | ⟨g, cap, cur, rfl, hh, hg, hn, hcap, hsz⟩
  · simp at h0
  · refine ⟨g, cap, rfl, hB g rfl, hg, hn, hcap, fun j => frozen_of_row _ _ _ _ _ hh, fun k hk j hj => ?_⟩
    have h1 := enc_at elRow xs k j hk hj
    rw [show elRow.size = 11 from rfl] at h1
    rw [World.ownsRow.cellAt h.owns _ (by rw [show elRow.size = 11 from rfl]; omega), h1]; rfl

theorem step_call_by {P : Program} {ops : Array Oper} {o : Oper} {a : Act} {w : World} {K : Act → World → Prop} {Q : Exit → Act → World → Prop} {E : Prop} (hgd : o.guard = none) (f : FuncId) (args : Array Value) (hrun : (execOp a.eval o).run P w = .ok (.enter f args) w)
    (hc : Calls P f args w fun e w' => ∃ v, e = .returned v ∧ K (a.put o.dst v) w') : if Region.wanted o (yielded ops a.tmps) = true then Oper.wp P o a w K Q else E := by
  have hw : Region.wanted o (yielded ops a.tmps) = true := by simp [Region.wanted, hgd]
  rw [if_pos hw]
  unfold Oper.wp
  rw [hrun, Oper.upon_enter]
  refine hc.mono fun e w'' hh => ?_
  obtain ⟨v, rfl, h⟩ := hh
  exact h

end Go.Proofs.YtcmpaohefihijabGreatDoor

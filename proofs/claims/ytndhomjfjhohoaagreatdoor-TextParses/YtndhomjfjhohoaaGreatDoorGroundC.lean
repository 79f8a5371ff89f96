
/- Contracts and plain facts, several texts in one. -/
import Derived.StillTailTactics
import Derived.IntWalk
import Derived.Deep.RegionLaw
import Derived.Deep.OwnRows
import Derived.BigQuiet
import Derived.Maps.RangeWalk
import Derived.Test.YtndhomjfjhohoaaGreatDoorGroundA
import Derived.Test.YtndhomjfjhohoaaGreatDoorGroundB
/- Columns of a table in memory: add, remove, list, for ints and for handles. -/
namespace Go.Proofs.YtndhomjfjhohoaaGreatDoor
set_option maxRecDepth 8000
open Go.RowKit

/-- Cell off of block b holds a slice of the call's own, which reads as xs. -/
structure ColIs {α : Type} (E : El α) (T : TypeId) (w : World) (b off : Nat) (cur : Array Value) (TT : TypeId) (v : Value) (xs : List α) : Prop where
  heap : w.heap[b]? = some (.cells cur TT (0, 0))
  at_ : cur[off]? = some v
  own : OwnsF E w 0 T v xs
  ne : ∀ k, v.ownBlock = some k → k ≠ b
theorem ColIs.lt {α : Type} {E : El α} {T TT : TypeId} {w : World} {b off : Nat} {cur : Array Value} {v : Value} {xs : List α} (h : ColIs E T w b off cur TT v xs) : b < w.heap.size := (Array.getElem?_eq_some_iff.1 h.heap).1
theorem ColIs.cell {α : Type} {E : El α} {T TT : TypeId} {w : World} {b off : Nat} {cur : Array Value} {v : Value} {xs : List α} (h : ColIs E T w b off cur TT v xs) : w.cell? ⟨b, off, none⟩ = some v := by rw [cell_of_row _ _ _ _ _ _ h.heap]; exact h.at_
theorem ColIs.frz {α : Type} {E : El α} {T TT : TypeId} {w : World} {b off : Nat} {cur : Array Value} {v : Value} {xs : List α} (h : ColIs E T w b off cur TT v xs) (j : Nat) : w.frozen? ⟨b, j, none⟩ = false := frozen_of_row _ _ _ _ _ h.heap
theorem ColIs.kept {α : Type} {E : El α} {T TT : TypeId} {w w' : World} {b off : Nat} {cur : Array Value} {v : Value} {xs : List α} {F : Nat → Prop} (h : ColIs E T w b off cur TT v xs) (hk : Kept F w w') (hb : ¬ F b) (hv : ∀ k, v.ownBlock = some k → ¬ F k) : ColIs E T w' b off cur TT v xs :=
  ⟨by rw [hk.block b h.lt hb]; exact h.heap, h.at_, h.own.kept hk hv, h.ne⟩
theorem ColIs.later {α : Type} {E : El α} {T TT : TypeId} {w w' : World} {b off : Nat} {cur : Array Value} {v : Value} {xs : List α} (h : ColIs E T w b off cur TT v xs) (hb : Below w.heap.size w w') : ColIs E T w' b off cur TT v xs :=
  h.kept (F := fun _ => False) (Kept.ofBelow hb) id (fun _ _ => id)

/-- What a call that turns a column leaves. -/
def ColPost {α : Type} (E : El α) (T : TypeId) (w : World) (b off : Nat) (cur : Array Value) (TT : TypeId) (v : Value) (ys : List α) (w' : World) : Prop :=
  ∃ v', ColIs E T w' b off (cur.setIfInBounds off v') TT v' ys ∧ Kept (fun k => k = b ∨ v.ownBlock = some k) w w' ∧ ∀ k, v'.ownBlock = some k → v.ownBlock = some k ∨ w.heap.size ≤ k

/-- An append has been written back. -/
theorem col_grown {α : Type} {E : El α} {T TT : TypeId} {w w2 : World} {b off g cap n : Nat} {cur : Array Value} {v : Value} {xs : List α} {x : α} (h : ColIs E T w b off cur TT v xs) (hn : xs.length = n) (hg : Grew w w2 v g) (ho : w2.ownsRow 0 T E.size (.slice (some ⟨g, 0, none⟩) (n + 1) cap) (n + 1) (xs.flatMap E.enc ++ E.enc x)) :
    ColPost E T w b off cur TT v (xs ++ [x]) (w2.setCell ⟨b, off, none⟩ (.slice (some ⟨g, 0, none⟩) (n + 1) cap)) := by
  subst hn
  have hgb : g ≠ b := by
    rcases hg.at_ with e | e
    · exact h.ne g e
    · have := h.lt; omega
  have hoff : off < cur.size := (Array.getElem?_eq_some_iff.1 h.at_).1
  have hb2 : w2.heap[b]? = some (.cells cur TT (0, 0)) := by rw [hg.far b h.lt (fun e => h.ne b e rfl)]; exact h.heap
  refine ⟨.slice (some ⟨g, 0, none⟩) (xs.length + 1) cap, ⟨heap_setCell_same _ _ _ _ _ _ hb2, by simp [hoff], ?_, fun k hk => by simp [Value.ownBlock] at hk; omega⟩, ?_, fun k hk => ?_⟩
  · exact (OwnsF.snoc ho).kept (F := fun k => k = b) (Kept.setCell (F := fun k => k = b) _ (p := ⟨b, off, none⟩) rfl _) (fun k hk => by simp [Value.ownBlock] at hk; omega)
  · exact (hg.kept (F := fun k => k = b ∨ v.ownBlock = some k) (fun k hk => .inr hk)).trans (Kept.setCell (F := fun k => k = b) _ (p := ⟨b, off, none⟩) rfl _) (fun k hk => .inl (.inl hk))
  · simp [Value.ownBlock] at hk; subst hk; exact hg.at_

/-- what is left when element i is removed: the last one takes its place -/
def rmL {α : Type} (xs : List α) (i : Nat) (d : α) : List α := (xs.set i (xs.getD (xs.length - 1) d)).dropLast
/-- The last element is cut off. -/
theorem OwnsF.cut {α : Type} {E : El α} {w : World} {B : Nat} {T : TypeId} {g n cap : Nat} {xs : List α} (h : OwnsF E w B T (.slice (some ⟨g, 0, none⟩) n cap) xs) : OwnsF E w B T (.slice (some ⟨g, 0, none⟩) (n - 1) cap) xs.dropLast := by
  refine ⟨by rw [length_enc], ?_⟩
  rcases h.2 with ⟨e, _⟩ | ⟨g', cap', cur, e, hb, hh, hn, hc, hs, ht⟩
  · cases e
  · simp only [Value.slice.injEq, Option.some.injEq, Addr.mk.injEq, and_true] at e
    obtain ⟨rfl, rfl, rfl⟩ := e
    refine .inr ⟨g, cap, cur, by simp, hb, hh, by simp; omega, hc, hs, ?_⟩
    have e1 : cur.toList.take (xs.dropLast.length * E.size) = (cur.toList.take (xs.length * E.size)).take (xs.dropLast.length * E.size) := by
      rw [List.take_take, Nat.min_eq_left (Nat.mul_le_mul_right _ (by simp))]
    rw [e1, ht]
    rcases List.eq_nil_or_concat xs with rfl | ⟨ys, y, rfl⟩
    · simp
    · rw [List.concat_eq_append, List.dropLast_concat, List.flatMap_append, List.take_append_of_le_length (by rw [length_enc]; exact Nat.le_refl _), List.take_of_length_le (by rw [length_enc]; exact Nat.le_refl _)]

set_option maxHeartbeats 1000000 in
theorem colAdd_any {b : Nat} {cur : Array Value} {TT : TypeId} {v : Value} {xs : List Int} (off : Nat) (z : Int) (w : World) (h : ColIs elInt 3 w b off cur TT v xs) (hl : (xs.length + 1) * 8 ≤ 140737488355328) :
    Calls Tryz.prog 169 #[.pointer (some ⟨b, off, none⟩), .int .i64 z] w fun e w' => e = .returned (.tuple #[]) ∧ ColPost elInt 3 w b off cur TT v (xs ++ [z]) w' := by
  obtain ⟨i0, hi, hz0, hz1, hz2⟩ := info_parts infoInt
  have H := Lib.hid h
  have cp := h.cell
  have fp := h.frz off
  have HO := Lib.hid h.own
  obtain ⟨a, cap, rfl, _, _, _⟩ := h.own.reads
  have hne := h.ne
  have hlt := h.lt
  clear h
  have HL := Lib.hid hl
  go_enter Tryz.func169, Tryz.ntmps169
  go_wp2_with (first | (at_builtin; refine wpList_append_lies _ rfl _ _ 22 rfl 0 3 i0 (.int .i64 0) 1 8 Tryz.underlying22 hi hz0 hz1 hz2 rfl (by decide) _ _ _ rfl (World.ownsRow.alloc HO.out _) ⟨w.heap.size, 0, none⟩ 1 1 [.int .i64 z] rfl rfl ?c1 ?c2 (by decide) ?c3 ?c4 (Nat.zero_le _) _ rfl ?_))
  case c1 => exact World.news_of_block (heap_alloc_new w _)
  case c2 => intro u hu; simp at hu; subst hu; rfl
  case c3 => have := HL.out; unfold maxLen; omega
  case c4 => exact HL.out
  intro g cap' w2 hown hgr hat hg2
  have hG : Grew w w2 (.slice a xs.length cap) g := Grew.of (nb_alloc (Below.refl _ _) _) hgr (by simpa using hat) hg2
  have HD := Lib.hid (col_grown (E := elInt) (x := z) H.out rfl hG hown)
  have cp2 : w2.cell? ⟨b, off, none⟩ = some (.slice a xs.length cap) := by rw [World.cell?_of_block (a := ⟨b, off, none⟩) (hG.far b hlt (fun e => hne b e rfl))]; exact cp
  have fp2 : w2.frozen? ⟨b, off, none⟩ = false := by rw [World.frozen?_of_block (a := ⟨b, off, none⟩) (hG.far b hlt (fun e => hne b e rfl))]; exact fp
  have hb2 : b < w2.heap.size := Nat.lt_of_lt_of_le hlt hG.size
  clear hown hgr hat hG hne
  go_wp2
  go_end0
  exact ⟨rfl, HD.out⟩

set_option maxHeartbeats 2000000 in
theorem hcolAdd_any {b : Nat} {cur : Array Value} {TT : TypeId} {v : Value} {xs : List (Int × Int)} (off : Nat) (x y : Int) (w : World) (h : ColIs elHand 49 w b off cur TT v xs) (hl : (xs.length + 1) * 16 ≤ 140737488355328) :
    Calls Tryz.prog 168 #[.pointer (some ⟨b, off, none⟩), .agg #[.int .i64 x, .int .i64 y]] w fun e w' => e = .returned (.tuple #[]) ∧ ColPost elHand 49 w b off cur TT v (xs ++ [(x, y)]) w' := by
  obtain ⟨i0, hi, hz0, hz1, hz2⟩ := info_parts infoHand
  have H := Lib.hid h
  have cp := h.cell
  have fp := h.frz off
  have HO := Lib.hid h.own
  obtain ⟨a, cap, rfl, _, _, _⟩ := h.own.reads
  have HNE := Lib.hid h.ne
  have hlt := h.lt
  clear h
  have HL := Lib.hid hl
  have HL2 : Hid (xs.length + 1 ≤ maxLen) := Lib.hid (by unfold maxLen; omega)
  go_enter Tryz.func168, Tryz.ntmps168
  go_wp2_with fail
  have HB0 : Hid (Below w.heap.size w (w.alloc (.cells #[.int .i64 x, .int .i64 y] 49))) := Lib.hid (nb_alloc (Below.refl _ _) _)
  have HOA : Hid (∀ X, Below w.heap.size w X → X.ownsRow 0 49 2 (.slice a xs.length cap) xs.length (xs.flatMap elHand.enc)) := Lib.hid (fun X hX => HO.out.later hX)
  go_region_law (first
    | ((refine step_append_lies _ (by rfl) _ _ 148 (by rfl) 0 49 i0 (.agg #[.int .i64 0, .int .i64 0]) 2 16 Tryz.underlying148 hi hz0 hz1 hz2 rfl (by decide) (.slice a xs.length cap) xs.length (xs.flatMap elHand.enc) (by rfl) (HOA.out _ (nb_alloc (nb_alloc (Below.refl _ _) _).drew _)) _ 1 1 [.int .i64 x, .int .i64 y] (by rfl) rfl (World.news_of_block (by first | exact heap_alloc_new _ _ | exact heap_alloc2_new _ _ _)) (by intro u hu; simp at hu; rcases hu with rfl | rfl <;> rfl) (by decide) HL2.out HL.out (Nat.zero_le _) _ rfl ?_; intro g cap' w2 hown hgr hat hg2
        have hG : Grew w w2 (.slice a xs.length cap) g := Grew.of (nb_alloc (nb_alloc (Below.refl _ _) _).drew _) hgr hat hg2
        have HD := Lib.hid (col_grown (E := elHand) (x := (x, y)) H.out rfl hG hown)
        have cp2 : w2.cell? ⟨b, off, none⟩ = some (.slice a xs.length cap) := by rw [World.cell?_of_block (a := ⟨b, off, none⟩) (hG.far b hlt (fun e => HNE.out b e rfl))]; exact cp
        have fp2 : w2.frozen? ⟨b, off, none⟩ = false := by rw [World.frozen?_of_block (a := ⟨b, off, none⟩) (hG.far b hlt (fun e => HNE.out b e rfl))]; exact fp
        have hb2 : b < w2.heap.size := Nat.lt_of_lt_of_le hlt hG.size
        clear hown hgr hat hG)))
  all_goals
    go_wp2
    go_end0
    exact ⟨rfl, HD.out⟩

end Go.Proofs.YtndhomjfjhohoaaGreatDoor

/- What a table answers, as plain functions. -/
namespace Go.Proofs.YtndhomjfjhohoaaGreatDoor
open Go.RowKit

/-- The set of a table and its rows, as they can be. -/
structure TabOk (m : Int) (rows : List Rw) : Prop where
  m0 : 0 ≤ m
  m1 : m ≤ 255
  row : ∀ r ∈ rows, r.m = m ∧ ∀ k, k < 8 → tb m k = false → r.f k = 0

/-- the first error of Add -/
def addE (m : Int) (r : Rw) : Int := if bErr r.m [r.f 0, r.f 1, r.f 2, r.f 3, r.f 4, r.f 5, r.f 6, r.f 7] = 0 then (if r.m = m then 0 else 4) else bErr r.m [r.f 0, r.f 1, r.f 2, r.f 3, r.f 4, r.f 5, r.f 6, r.f 7]
def addL (m : Int) (rows : List Rw) (r : Rw) : List Rw := if addE m r = 0 then rows ++ [r] else rows
def addN (m : Int) (rows : List Rw) (r : Rw) : Int := if addE m r = 0 then rows.length else 0
def colE (m k : Int) : Int := if inB k 0 7 then (if tb m k.toNat then 0 else 5) else 1
def setE (m : Int) (rows : List Rw) (i k n : Int) : Int := if inB i 0 (rows.length - 1) then (if colE m k = 0 then (if inB n (-1000000000) 1000000000 then 0 else 1) else colE m k) else 5
def setL (m : Int) (rows : List Rw) (i k n : Int) : List Rw := if setE m rows i k n = 0 then rows.set i.toNat (putV (rows.getD i.toNat rowZ) k.toNat n) else rows

theorem TabOk.nil {m : Int} (h0 : 0 ≤ m) (h1 : m ≤ 255) : TabOk m [] := ⟨h0, h1, fun r hr => by simp at hr⟩
theorem addE_zero {m : Int} {r : Rw} (h : addE m r = 0) : bErr r.m [r.f 0, r.f 1, r.f 2, r.f 3, r.f 4, r.f 5, r.f 6, r.f 7] = 0 ∧ r.m = m := by
  unfold addE at h
  by_cases e : bErr r.m [r.f 0, r.f 1, r.f 2, r.f 3, r.f 4, r.f 5, r.f 6, r.f 7] = 0
  · rw [if_pos e] at h
    by_cases e2 : r.m = m
    · exact ⟨e, e2⟩
    · rw [if_neg e2] at h; simp at h
  · rw [if_neg e] at h; exact absurd h e
theorem TabOk.add {m : Int} {rows : List Rw} (ok : TabOk m rows) (r : Rw) : TabOk m (addL m rows r) := by
  unfold addL
  split
  · rename_i h
    obtain ⟨h1, h2⟩ := addE_zero h
    refine ⟨ok.m0, ok.m1, fun x hx => ?_⟩
    rw [List.mem_append] at hx
    rcases hx with hx | hx
    · exact ok.row x hx
    · simp at hx; subst hx
      exact ⟨h2, fun k hk ht => ((bErr_zero h1).2 k hk).1 (by rw [h2]; exact ht)⟩
  · exact ok
theorem TabOk.rm {m : Int} {rows : List Rw} (ok : TabOk m rows) (i : Nat) : TabOk m (rmL rows i rowZ) := by
  refine ⟨ok.m0, ok.m1, fun x hx => ?_⟩
  have hx' := List.dropLast_subset _ hx
  rcases List.mem_or_eq_of_mem_set hx' with h | h
  · exact ok.row x h
  · by_cases e : rows = []
    · subst e; simp [rmL] at hx
    · exact ok.row x (by rw [h]; exact mem_getD (by have := List.length_pos_iff.2 e; omega))
theorem TabOk.set {m : Int} {rows : List Rw} (ok : TabOk m rows) (i k n : Int) : TabOk m (setL m rows i k n) := by
  unfold setL; split
  · rename_i h
    refine ⟨ok.m0, ok.m1, fun x hx => ?_⟩
    rcases List.mem_or_eq_of_mem_set hx with hx | hx
    · exact ok.row x hx
    · unfold setE at h
      cases hi : inB i 0 (rows.length - 1)
      · rw [hi] at h; simp at h
      · rw [hi, if_pos rfl] at h
        have hi' := inB_t hi
        obtain ⟨r1, r2⟩ := ok.row _ (mem_getD (d := rowZ) (show i.toNat < rows.length by omega))
        subst hx
        refine ⟨r1, fun j hj ht => ?_⟩
        unfold putV
        by_cases e : j = k.toNat
        · exfalso
          cases hb : tb m k.toNat
          · unfold colE at h; rw [hb] at h
            cases hk : inB k 0 7 <;> rw [hk] at h <;> simp at h
          · rw [← e, ht] at hb; cases hb
        · simp [e]; exact r2 j hj ht
  · exact ok
end Go.Proofs.YtndhomjfjhohoaaGreatDoor

/- A table in memory: its object, its columns behind a map, and what stays true of them. -/
namespace Go.Proofs.YtndhomjfjhohoaaGreatDoor
open Go.RowKit

/-- A column of ints in block b, all in blocks of G. -/
def ColAt (w : World) (b : Nat) (G : Nat → Prop) (xs : List Int) : Prop :=
  ∃ v, ColIs elInt 3 w b 0 #[v] 234 v xs ∧ G b ∧ ∀ k, v.ownBlock = some k → G k
theorem ColAt.kept {w w' : World} {b : Nat} {G H : Nat → Prop} {xs : List Int} (h : ColAt w b G xs) (hk : Kept H w w') (hf : ∀ k, G k → ¬ H k) : ColAt w' b G xs := by
  obtain ⟨v, hc, hb, hv⟩ := h
  exact ⟨v, hc.kept hk (hf b hb) (fun k e => hf k (hv k e)), hb, hv⟩
theorem ColAt.mono {w : World} {b : Nat} {G H : Nat → Prop} {xs : List Int} (h : ColAt w b G xs) (hf : ∀ k, k < w.heap.size → G k → H k) : ColAt w b H xs := by
  obtain ⟨v, hc, hb, hv⟩ := h
  exact ⟨v, hc, hf b hc.lt hb, fun k e => hf k (hc.own.lt e) (hv k e)⟩

def ptrOf (cb : Int → Nat) (k : Int) : Value := .pointer (some ⟨cb k, 0, none⟩)

/-- A table at block p, in the blocks F; c: to which part each block belongs. -/
structure TabIs (w : World) (p : Nat) (F : Nat → Prop) (m : Int) (hs : List (Int × Int)) (xs : Int → List Int) (v : Value) (mb n : Nat) (cb : Int → Nat) (c : Nat → Int) : Prop where
  obj : w.heap[p]? = some (.cells #[.int .i64 m, v, .map (some mb)] 247 (0, 0))
  own : OwnsF elHand w 0 49 v hs
  map : MapIs kInt w mb n (kinds m) (ptrOf cb)
  cols : ∀ k ∈ kinds m, ColAt w (cb k) (fun b => F b ∧ c b = k) (xs k)
  fp : F p ∧ c p = -1
  fm : F mb ∧ c mb = -2
  fv : ∀ b, v.ownBlock = some b → F b ∧ c b = -3
  lt : ∀ b, F b → b < w.heap.size

theorem kinds_ge {m k : Int} (h : k ∈ kinds m) : 0 ≤ k ∧ k ≤ 7 := by
  obtain ⟨j, hj, rfl, _⟩ := mem_kindsTo.1 h
  omega
theorem kinds_iff {m : Int} {j : Nat} (h : j < 8) : (j : Int) ∈ kinds m ↔ tb m j = true := by
  constructor
  · intro hk
    obtain ⟨i, hi, e, ht⟩ := mem_kindsTo.1 hk
    obtain rfl : j = i := by omega
    exact ht
  · intro ht
    exact mem_kindsTo.2 ⟨j, h, rfl, ht⟩

section
variable {w w' : World} {p mb n : Nat} {F : Nat → Prop} {m : Int} {hs : List (Int × Int)} {xs : Int → List Int} {v : Value} {cb : Int → Nat} {c : Nat → Int}

theorem TabIs.kept {H : Nat → Prop} (h : TabIs w p F m hs xs v mb n cb c) (hk : Kept H w w') (hf : ∀ k, F k → ¬ H k) : TabIs w' p F m hs xs v mb n cb c :=
  ⟨by rw [hk.block p (h.lt p h.fp.1) (hf p h.fp.1)]; exact h.obj, h.own.kept hk (fun k e => hf k (h.fv k e).1), h.map.kept hk (hf mb h.fm.1), fun k hk' => (h.cols k hk').kept hk (fun b hb => hf b hb.1), h.fp, h.fm, h.fv, fun b hb => Nat.lt_of_lt_of_le (h.lt b hb) hk.size⟩
theorem TabIs.later (h : TabIs w p F m hs xs v mb n cb c) (hb : Below w.heap.size w w') : TabIs w' p F m hs xs v mb n cb c :=
  h.kept (H := fun _ => False) (Kept.ofBelow hb) (fun _ _ => id)
theorem TabIs.congr {ys : Int → List Int} (h : TabIs w p F m hs xs v mb n cb c) (e : ∀ k ∈ kinds m, xs k = ys k) : TabIs w p F m hs ys v mb n cb c :=
  ⟨h.obj, h.own, h.map, fun k hk => by rw [← e k hk]; exact h.cols k hk, h.fp, h.fm, h.fv, h.lt⟩
theorem TabIs.hcol (h : TabIs w p F m hs xs v mb n cb c) : ColIs elHand 49 w p 1 #[.int .i64 m, v, .map (some mb)] 247 v hs :=
  ⟨h.obj, rfl, h.own, fun k e => fun e2 => by have h1 := (h.fv k e).2; have h2 := h.fp.2; rw [e2] at h1; omega⟩
theorem TabIs.cell0 (h : TabIs w p F m hs xs v mb n cb c) : w.cell? ⟨p, 0, none⟩ = some (.int .i64 m) := by rw [cell_of_row _ _ _ _ _ _ h.obj]; rfl
theorem TabIs.cell1 (h : TabIs w p F m hs xs v mb n cb c) : w.cell? ⟨p, 1, none⟩ = some v := by rw [cell_of_row _ _ _ _ _ _ h.obj]; rfl
theorem TabIs.cell2 (h : TabIs w p F m hs xs v mb n cb c) : w.cell? ⟨p, 2, none⟩ = some (.map (some mb)) := by rw [cell_of_row _ _ _ _ _ _ h.obj]; rfl

/-- blocks that a call has made go to what it turned -/
def growF (F : Nat → Prop) (w w' : World) : Nat → Prop := fun b => F b ∨ (w.heap.size ≤ b ∧ b < w'.heap.size)
def growC (c : Nat → Int) (w : World) (k : Int) : Nat → Int := fun b => if w.heap.size ≤ b then k else c b
theorem growF_moves (F : Nat → Prop) (w w' : World) : Moves w F (growF F w w') := fun _ h => h.imp id And.left
theorem growC_old {c : Nat → Int} {w : World} {k : Int} {b : Nat} (h : b < w.heap.size) : growC c w k b = c b := if_neg (by omega)
theorem growC_new {c : Nat → Int} {w : World} {k : Int} {b : Nat} (h : w.heap.size ≤ b) : growC c w k b = k := if_pos h

/-- The handles have been turned. -/
theorem TabIs.hstep {hs' : List (Int × Int)} (h : TabIs w p F m hs xs v mb n cb c) (hp : ColPost elHand 49 w p 1 #[.int .i64 m, v, .map (some mb)] 247 v hs' w') :
    ∃ v', TabIs w' p (growF F w w') m hs' xs v' mb n cb (growC c w (-3)) ∧ Kept F w w' := by
  obtain ⟨v', hc, hk, hv⟩ := hp
  have hkF : Kept F w w' := hk.mono (fun b e => by
    rcases e with rfl | e
    · exact .inl h.fp.1
    · exact .inl (h.fv b e).1)
  have hne : ∀ b, F b → c b ≠ -1 → c b ≠ -3 → ¬ (b = p ∨ v.ownBlock = some b) := fun b hb h1 h3 e => by
    rcases e with rfl | e
    · exact h1 h.fp.2
    · exact h3 (h.fv b e).2
  refine ⟨v', ⟨by simpa using hc.heap, hc.own, h.map.kept hk (hne mb h.fm.1 (by rw [h.fm.2]; decide) (by rw [h.fm.2]; decide)), fun k hk' => ?_, ⟨.inl h.fp.1, by rw [growC_old (h.lt p h.fp.1)]; exact h.fp.2⟩, ⟨.inl h.fm.1, by rw [growC_old (h.lt mb h.fm.1)]; exact h.fm.2⟩, fun b e => ?_, fun b hb => ?_⟩, hkF⟩
  · have h0 := kinds_ge hk'
    have h1 := (h.cols k hk').mono (H := fun b => (F b ∧ c b = k) ∧ b < w.heap.size) (fun b hb hg => ⟨hg, hb⟩)
    exact (h1.kept hk (fun b hb => hne b hb.1.1 (by rw [hb.1.2]; omega) (by rw [hb.1.2]; omega))).mono (fun b _ hb => ⟨.inl hb.1.1, by rw [growC_old hb.2]; exact hb.1.2⟩)
  · rcases hv b e with e' | e'
    · exact ⟨.inl (h.fv b e').1, by rw [growC_old (h.lt b (h.fv b e').1)]; exact (h.fv b e').2⟩
    · exact ⟨.inr ⟨e', hc.own.lt e⟩, growC_new e'⟩
  · rcases hb with hb | hb
    · exact Nat.lt_of_lt_of_le (h.lt b hb) hk.size
    · exact hb.2

/-- Column k has been turned. -/
theorem TabIs.cstep {k : Int} {u : Value} {ys : List Int} (h : TabIs w p F m hs xs v mb n cb c) (hk : k ∈ kinds m) (hu : ∀ b, b = cb k ∨ u.ownBlock = some b → F b ∧ c b = k) (hp : ColPost elInt 3 w (cb k) 0 #[u] 234 u ys w') :
    TabIs w' p (growF F w w') m hs (fun j => if j = k then ys else xs j) v mb n cb (growC c w k) ∧ Kept F w w' := by
  obtain ⟨u', hc, hkp, hv⟩ := hp
  have hkF : Kept F w w' := hkp.mono (fun b e => .inl (hu b e).1)
  have h0 := kinds_ge hk
  have hne : ∀ b, F b → c b ≠ k → ¬ (b = cb k ∨ u.ownBlock = some b) := fun b _ h1 e => h1 (hu b e).2
  refine ⟨⟨?_, h.own.kept hkp (fun b e => hne b (h.fv b e).1 (by rw [(h.fv b e).2]; omega)), h.map.kept hkp (hne mb h.fm.1 (by rw [h.fm.2]; omega)), fun j hj => ?_, ⟨.inl h.fp.1, by rw [growC_old (h.lt p h.fp.1)]; exact h.fp.2⟩, ⟨.inl h.fm.1, by rw [growC_old (h.lt mb h.fm.1)]; exact h.fm.2⟩, fun b e => ⟨.inl (h.fv b e).1, by rw [growC_old (h.lt b (h.fv b e).1)]; exact (h.fv b e).2⟩, fun b hb => ?_⟩, hkF⟩
  · rw [hkp.block p (h.lt p h.fp.1) (hne p h.fp.1 (by rw [h.fp.2]; omega))]; exact h.obj
  · by_cases e : j = k
    · subst e
      rw [if_pos rfl]
      refine ⟨u', by simpa using hc, ⟨.inl (hu _ (.inl rfl)).1, by rw [growC_old (h.lt _ (hu _ (.inl rfl)).1)]; exact (hu _ (.inl rfl)).2⟩, fun b hb => ?_⟩
      rcases hv b hb with e' | e'
      · exact ⟨.inl (hu b (.inr e')).1, by rw [growC_old (h.lt b (hu b (.inr e')).1)]; exact (hu b (.inr e')).2⟩
      · exact ⟨.inr ⟨e', hc.own.lt hb⟩, growC_new e'⟩
    · rw [if_neg e]
      have h1 := (h.cols j hj).mono (H := fun b => (F b ∧ c b = j) ∧ b < w.heap.size) (fun b hb hg => ⟨hg, hb⟩)
      exact (h1.kept hkp (fun b hb => hne b hb.1.1 (by rw [hb.1.2]; exact e))).mono (fun b _ hb => ⟨.inl hb.1.1, by rw [growC_old hb.2]; exact hb.1.2⟩)
  · rcases hb with hb | hb
    · exact Nat.lt_of_lt_of_le (h.lt b hb) hkp.size
    · exact hb.2

/-- Column k, opened. -/
theorem TabIs.colIs {k : Int} (h : TabIs w p F m hs xs v mb n cb c) (hk : k ∈ kinds m) : ∃ u, ColIs elInt 3 w (cb k) 0 #[u] 234 u (xs k) ∧ ∀ b, b = cb k ∨ u.ownBlock = some b → F b ∧ c b = k := by
  obtain ⟨u, hc, hb, hu⟩ := h.cols k hk
  exact ⟨u, hc, fun b e => by
    rcases e with rfl | e
    · exact hb
    · exact hu b e⟩
end

/-- A loop that turns the columns one by one, from xs to ys. -/
def ColLoop (w0 w : World) (p : Nat) (F : Nat → Prop) (m : Int) (hs : List (Int × Int)) (xs ys : Int → List Int) (v : Value) (mb n : Nat) (cb : Int → Nat) (r : Nat) (todo : List Int) (cnt : Nat) : Prop :=
  ∃ F' c', TabIs w p F' m hs (fun k => if k ∈ todo then xs k else ys k) v mb n cb c' ∧ RangeIs kInt w mb r n (kinds m) (ptrOf cb) todo cnt ∧ Kept F w0 w ∧ Moves w0 F F' ∧ ¬ F' r

section
variable {w0 w w' w'' : World} {p mb n r cnt cnt' : Nat} {F : Nat → Prop} {m : Int} {hs : List (Int × Int)} {xs ys : Int → List Int} {v : Value} {cb : Int → Nat} {c : Nat → Int} {todo : List Int}

theorem ColLoop.start (h : TabIs w0 p F m hs xs v mb n cb c) (hr : RangeIs kInt w mb w0.heap.size n (kinds m) (ptrOf cb) (kinds m) cnt) (hb : Below w0.heap.size w0 w) : ColLoop w0 w p F m hs xs ys v mb n cb w0.heap.size (kinds m) cnt :=
  ⟨F, c, (h.later hb).congr (fun k hk => by rw [if_pos hk]), hr, Kept.ofBelow hb, Moves.refl _ _, fun hf => by have := h.lt _ hf; omega⟩
theorem ColLoop.range (h : ColLoop w0 w p F m hs xs ys v mb n cb r todo cnt) : RangeIs kInt w mb r n (kinds m) (ptrOf cb) todo cnt := by
  obtain ⟨F', c', _, hr, _⟩ := h; exact hr
theorem ColLoop.done (h : ColLoop w0 w p F m hs xs ys v mb n cb r [] cnt) : ∃ F' c', TabIs w p F' m hs ys v mb n cb c' ∧ Kept F w0 w ∧ Moves w0 F F' := by
  obtain ⟨F', c', ht, _, hk, hm, _⟩ := h
  exact ⟨F', c', ht.congr (fun k _ => by simp), hk, hm⟩
/-- Column k comes up: what it is, and what is there when it has been turned. -/
theorem ColLoop.next {k : Int} (h : ColLoop w0 w p F m hs xs ys v mb n cb r todo cnt) (hk : k ∈ todo) (hr0 : w0.heap.size ≤ r) (hr : RangeIs kInt w' mb r n (kinds m) (ptrOf cb) (todo.filter (fun y => !decide (y = k))) cnt') (hw : Kept (fun q => q = r) w w') (hsz : w'.heap.size = w.heap.size) :
    ∃ u, ColIs elInt 3 w' (cb k) 0 #[u] 234 u (xs k) ∧ ∀ w'', ColPost elInt 3 w' (cb k) 0 #[u] 234 u (ys k) w'' → ColLoop w0 w'' p F m hs xs ys v mb n cb r (todo.filter (fun y => !decide (y = k))) cnt' := by
  obtain ⟨F', c', ht, hr', hkk, hm, hnr⟩ := h
  have hkm := hr'.sub k hk
  have ht' := ht.kept hw (fun b hb e => hnr (e ▸ hb))
  obtain ⟨u, hc, hu⟩ := ht'.colIs hkm
  rw [if_pos hk] at hc
  refine ⟨u, hc, fun w'' hp => ?_⟩
  obtain ⟨h1, h2⟩ := ht'.cstep hkm hu hp
  have hrl := hr.lt
  obtain ⟨_, _, hkp, _⟩ := hp
  have h0 := kinds_ge hkm
  refine ⟨growF F' w' w'', growC c' w' k, h1.congr (fun j hj => ?_), hr.kept hkp (fun e => by have := (hu mb e).2; rw [ht.fm.2] at this; omega) (fun e => hnr (hu r e).1), ?_, ?_, ?_⟩
  · by_cases e : j = k
    · subst e; simp
    · rw [if_neg e]; simp [e]
  · exact (hkk.trans hw (fun b e => .inr (by omega))).trans h2 hm
  · exact hm.trans (growF_moves F' w' w'') (by rw [hsz]; exact hkk.size)
  · rintro (hf | hf)
    · exact hnr hf
    · omega
end
end Go.Proofs.YtndhomjfjhohoaaGreatDoor

/- The contracts of package table: New, hasRow, column, Add, Row, Remove, Set, Column, Handles. -/
namespace Go.Proofs.YtndhomjfjhohoaaGreatDoor
set_option maxRecDepth 8000
open Go.RowKit

/-- At block p lies a table of the set m with these rows, in the blocks F. -/
def TableAt (w : World) (p : Nat) (F : Nat → Prop) (m : Int) (rows : List Rw) : Prop :=
  ∃ v mb n cb c, TabIs w p F m (hsOf rows) (fun k => colOf rows k.toNat) v mb n cb c
theorem TableAt.kept {w w' : World} {p : Nat} {F H : Nat → Prop} {m : Int} {rows : List Rw} (h : TableAt w p F m rows) (hk : Kept H w w') (hf : ∀ k, F k → ¬ H k) : TableAt w' p F m rows := by
  obtain ⟨v, mb, n, cb, c, h⟩ := h
  exact ⟨v, mb, n, cb, c, h.kept hk hf⟩
theorem TableAt.later {w w' : World} {p : Nat} {F : Nat → Prop} {m : Int} {rows : List Rw} (h : TableAt w p F m rows) (hb : Below w.heap.size w w') : TableAt w' p F m rows :=
  h.kept (H := fun _ => False) (Kept.ofBelow hb) (fun _ _ => id)
theorem TableAt.lt {w : World} {p : Nat} {F : Nat → Prop} {m : Int} {rows : List Rw} (h : TableAt w p F m rows) : ∀ b, F b → b < w.heap.size := by
  obtain ⟨v, mb, n, cb, c, h⟩ := h; exact h.lt

theorem box2_block (w : World) (A C : Obj) (cs : Array Value) (T : TypeId) : (((w.alloc A).alloc (.cells cs T)).alloc C).heap[w.heap.size + 1]? = some (.cells cs T) := by
  rw [Below.heap_alloc _ _ _ (by simp)]; exact heap_alloc2_new w A _
theorem box2_cell (w : World) (A C : Obj) (cs : Array Value) (T : TypeId) (j : Nat) : (((w.alloc A).alloc (.cells cs T)).alloc C).cell? ⟨w.heap.size + 1, j, none⟩ = cs[j]? :=
  cell_of_row _ _ _ _ _ _ (box2_block w A C cs T)
theorem box1_block (w : World) (A B C : Obj) : (((w.alloc A).alloc B).alloc C).heap[w.heap.size]? = some A := by
  rw [Below.heap_alloc _ _ _ (by simp; omega)]; exact heap_alloc2_old w A _

theorem vals_at (x : Int) (f : Nat → Int) (j : Nat) (h : j < 8) : (#[.int .i64 x, .int .i64 (f 0), .int .i64 (f 1), .int .i64 (f 2), .int .i64 (f 3), .int .i64 (f 4), .int .i64 (f 5), .int .i64 (f 6), .int .i64 (f 7)] : Array Value)[1 + j]? = some (.int .i64 (f j)) := by
  obtain rfl | rfl | rfl | rfl | rfl | rfl | rfl | rfl : j = 0 ∨ j = 1 ∨ j = 2 ∨ j = 3 ∨ j = 4 ∨ j = 5 ∨ j = 6 ∨ j = 7 := by omega
  all_goals rfl

def AddPost (w : World) (p : Nat) (F : Nat → Prop) (m : Int) (rows : List Rw) (r : Rw) (e : Ending) (w' : World) : Prop :=
  e = .returned (.tuple #[.int .i64 (addN m rows r), .int .i64 (addE m r)]) ∧ ∃ F', TableAt w' p F' m (addL m rows r) ∧ Kept F w w' ∧ Moves w F F'
theorem AddPost.no {w w' : World} {p : Nat} {F : Nat → Prop} {m : Int} {rows : List Rw} {r : Rw} {x : Int} (h : TableAt w p F m rows) (hx : addE m r = x) (h0 : x ≠ 0) (hb : Below w.heap.size w w') : AddPost w p F m rows r (.returned (.tuple #[.int .i64 0, .int .i64 x])) w' := by
  subst hx
  refine ⟨by rw [addN, if_neg h0], F, ?_, Kept.ofBelow hb, Moves.refl _ _⟩
  rw [addL, if_neg h0]; exact h.later hb

set_option maxHeartbeats 2000000 in
theorem tabAdd_any (p : Nat) (F : Nat → Prop) (m : Int) (rows : List Rw) (r : Rw) (w : World) (h : TableAt w p F m rows) (hl : (rows.length + 1) * 16 ≤ 140737488355328) :
    Calls Tryz.prog 135 #[.pointer (some ⟨p, 0, none⟩), .agg #[.int .i64 r.s, .int .i64 r.g], .agg #[.int .i64 r.m, .int .i64 (r.f 0), .int .i64 (r.f 1), .int .i64 (r.f 2), .int .i64 (r.f 3), .int .i64 (r.f 4), .int .i64 (r.f 5), .int .i64 (r.f 6), .int .i64 (r.f 7)]] w (AddPost w p F m rows r) := by
  have HT := Lib.hid h
  by_cases he : bErr r.m [r.f 0, r.f 1, r.f 2, r.f 3, r.f 4, r.f 5, r.f 6, r.f 7] = 0
  · by_cases hm : r.m = m
    · subst hm
      have HL := Lib.hid hl
      obtain ⟨v, mb, n, cb, c, h⟩ := h
      have HB : Hid (Below w.heap.size w ((w.alloc (.cells #[.int .i64 r.s, .int .i64 r.g] 49)).alloc (.cells #[.int .i64 r.m, .int .i64 (r.f 0), .int .i64 (r.f 1), .int .i64 (r.f 2), .int .i64 (r.f 3), .int .i64 (r.f 4), .int .i64 (r.f 5), .int .i64 (r.f 6), .int .i64 (r.f 7)] 52))) := Lib.hid (nb_alloc (nb_alloc (Below.refl _ _) _) _)
      have HE := Lib.hid he
      have hne : (r.m != r.m) = false := by simp
      clear he
      go_enter Tryz.func135, Tryz.ntmps135
      go_wp2_with fail
      refine (checkBeast_any _ _ _ _ _ _ _ _ _ _).mono ?_
      rintro e w' ⟨rfl, hw'⟩
      rw [HE.out]
      have hb' : Below w.heap.size w w' := by rw [← hw']; exact nb_alloc HB.out _
      have c0 := (h.later hb').cell0
      have cb0 : w'.cell? ⟨w.heap.size + 1, 0, none⟩ = some (.int .i64 r.m) := by rw [← hw', box2_cell]; rfl
      have hbb : w'.heap[w.heap.size + 1]? = some (.cells #[.int .i64 r.m, .int .i64 (r.f 0), .int .i64 (r.f 1), .int .i64 (r.f 2), .int .i64 (r.f 3), .int .i64 (r.f 4), .int .i64 (r.f 5), .int .i64 (r.f 6), .int .i64 (r.f 7)] 52) := by rw [← hw']; exact box2_block _ _ _ _ _
      have hbh : w'.heap[w.heap.size]? = some (.cells #[.int .i64 r.s, .int .i64 r.g] 49) := by rw [← hw']; exact box1_block _ _ _ _
      have HB' := Lib.hid hb'
      have HTI := Lib.hid (h.later hb')
      have HBB := Lib.hid hbb
      have HBH := Lib.hid hbh
      clear hw' hb' h hbb hbh
      go_wp2_with fail
      go_quiet (fail)
      go_wp2_with fail
      clear cb0 c0
      have HBW : Hid (Below w.heap.size w (w'.drewN nq).drew) := Lib.hid (nb_drewN HB'.out).drew
      have HTW : Hid (TabIs (w'.drewN nq).drew p F r.m (hsOf rows) (fun k => colOf rows k.toNat) v mb n cb c) := Lib.hid (HTI.out.later (nb_drewN (Below.refl _ _)).drew)
      have HBBW : Hid ((w'.drewN nq).drew.heap[w.heap.size + 1]? = some (.cells #[.int .i64 r.m, .int .i64 (r.f 0), .int .i64 (r.f 1), .int .i64 (r.f 2), .int .i64 (r.f 3), .int .i64 (r.f 4), .int .i64 (r.f 5), .int .i64 (r.f 6), .int .i64 (r.f 7)] 52)) := HBB
      have kh0 : (w'.drewN nq).cell? ⟨w.heap.size, 0, none⟩ = some (.int .i64 r.s) := cell_of_row _ _ _ _ _ _ HBH.out
      have kh1 : (w'.drewN nq).cell? ⟨w.heap.size, 1, none⟩ = some (.int .i64 r.g) := cell_of_row _ _ _ _ _ _ HBH.out
      clear HB' HTI HBB HBH
      generalize w'.drewN nq = W at *
      go_still_tail 4, (by kernel_rfl)
      change wpList _ _ _ _ _ W.drew
      clear kh0 kh1
      generalize W.drew = X at *
      go_wp2_with fail
      refine (hcolAdd_any 1 r.s r.g _ HTW.out.hcol (by rw [hsOf_len]; exact HL.out)).mono ?_
      rintro e w2 ⟨rfl, hp⟩
      obtain ⟨v2, ht2, hk2⟩ := HTW.out.hstep hp
      have hx := HBW.out.size
      have hbbX := (Array.getElem?_eq_some_iff.1 HBBW.out).1
      have hnbb : ¬ growF F X w2 (w.heap.size + 1) := fun e => by
        rcases e with e | e
        · have := HT.out.lt _ e; omega
        · omega
      have hbb2 : w2.heap[w.heap.size + 1]? = some (.cells #[.int .i64 r.m, .int .i64 (r.f 0), .int .i64 (r.f 1), .int .i64 (r.f 2), .int .i64 (r.f 3), .int .i64 (r.f 4), .int .i64 (r.f 5), .int .i64 (r.f 6), .int .i64 (r.f 7)] 52) := by rw [hk2.block _ hbbX (fun e => by have := HT.out.lt _ e; omega)]; exact HBBW.out
      have HK2 : Hid (Kept F w w2) := Lib.hid ((Kept.ofBelow HBW.out).trans hk2 (fun _ h => .inl h))
      have HM2 : Hid (Moves w F (growF F X w2)) := Lib.hid (fun b e => e.imp id (fun h => by omega))
      have HSZ : Hid (w.heap.size ≤ w2.heap.size) := Lib.hid (by have := hk2.size; omega)
      have c2 := ht2.cell2
      have HT2 := Lib.hid ht2
      have HNB := Lib.hid hnbb
      have HBB2 := Lib.hid hbb2
      clear hp ht2 hk2 hx hbbX hnbb hbb2 HTW HBW HBBW
      go_wp2_with (first | (at_range; refine wpList_range_is (K := kInt) _ rfl _ 243 rfl _ Tryz.underlying243 rfl HT2.out.map ?_))
      intro w3 hrg hb3 hsz3
      have HCL := Lib.hid (ColLoop.start (ys := fun k => colOf (rows ++ [r]) k.toNat) HT2.out hrg hb3)
      clear hrg hb3 hsz3
      go_wp2
      go_loopw [9] (fun _ wr => ∃ todo cnt, Hid (ColLoop w2 wr p (growF F X w2) r.m (hsOf rows ++ [(r.s, r.g)]) (fun k => colOf rows k.toNat) (fun k => colOf (rows ++ [r]) k.toNat) v2 mb n cb w2.heap.size todo cnt)) (fun _ wr => wr.rangeLeft mb w2.heap.size)
      case atStart => exact ⟨_, _, HCL⟩
      case round =>
        obtain ⟨todo, cnt, hcl⟩ := hrel
        clear HCL
        go_wp2_with (first | (at_next; refine wpList_next_is (K := kInt) _ rfl _ rfl rfl hcl.out.range ?_ ?_))
        case refine_1 =>
          rintro rfl
          obtain ⟨F3, c3, ht3, hk3, hm3⟩ := hcl.out.done
          have c1 := ht3.cell1
          obtain ⟨a, cap, hv, -⟩ := ht3.own.reads
          rw [hv, List.length_append, hsOf_len] at c1
          have HEND : Hid (AddPost w p F r.m rows r (.returned (.tuple #[.int .i64 rows.length, .int .i64 0])) wr) := Lib.hid (by
            have h0 : addE r.m r = 0 := by rw [addE, if_pos HE.out, if_pos rfl]
            refine ⟨by rw [addN, if_pos h0, h0], F3, ⟨v2, mb, n, cb, c3, ?_⟩, HK2.out.trans hk3 HM2.out, HM2.out.trans hm3 HSZ.out⟩
            rw [addL, if_pos h0, hsOf_snoc]; exact ht3)
          clear ht3 hk3 hm3 hv hcl
          have hlb := HL.out
          go_wp2
          go_ret2
          exact HEND.out
        case refine_2 =>
          intro k w4 cnt' hk hkm hrg hlt hkp hsz hen
          obtain ⟨u, hc, hnext⟩ := hcl.out.next hk (Nat.le_refl _) hrg hkp hsz
          have hbb4 : w4.heap[w.heap.size + 1]? = some (.cells #[.int .i64 r.m, .int .i64 (r.f 0), .int .i64 (r.f 1), .int .i64 (r.f 2), .int .i64 (r.f 3), .int .i64 (r.f 4), .int .i64 (r.f 5), .int .i64 (r.f 6), .int .i64 (r.f 7)] 52) := by
            obtain ⟨_, _, _, _, hkc, _⟩ := hcl.out
            have hlt2 := (Array.getElem?_eq_some_iff.1 HBB2.out).1
            rw [hkp.block _ (Nat.lt_of_lt_of_le hlt2 hkc.size) (by omega), hkc.block _ hlt2 HNB.out]; exact HBB2.out
          obtain ⟨j, hj, rfl, -⟩ := mem_kindsTo.1 hkm
          have hcv : w4.cell? ⟨w.heap.size + 1, 1 + j, none⟩ = some (.int .i64 (r.f j)) := by rw [cell_of_row _ _ _ _ _ _ hbb4]; exact vals_at r.m r.f j hj
          have HC := Lib.hid hc
          have HNX := Lib.hid hnext
          have HLT := Lib.hid hlt
          have hcb := hc.lt
          have hbl := (Array.getElem?_eq_some_iff.1 hbb4).1
          replace hen : (Instr.entry (.pointer (some ⟨w2.heap.size, 0, none⟩))).run Tryz.prog w4 = .ok (.tuple #[.int .i64 j, .pointer (some ⟨cb j, 0, none⟩)]) w4 := hen
          simp only [ptrOf, show kInt.val (j : Int) = .int .i64 j from rfl]
          clear hc hnext hbb4 hkp hrg hlt hsz hk hkm
          go_wp2_with fail
          refine (colAdd_any 0 (r.f j) _ HC.out (by rw [colOf_len]; have := HL.out; omega)).mono ?_
          rintro e w5 ⟨rfl, hp⟩
          have HN := Lib.hid (HNX.out w5 (by rw [Int.toNat_natCast] at hp; rw [colOf_snoc, Int.toNat_natCast]; exact hp))
          clear hp
          go_wp2
          go_roundw
          case rel => exact ⟨_, _, HN⟩
          case measure => rw [HN.out.range.left_eq, hcl.out.range.left_eq]; exact HLT.out
    · have HP : Hid (∀ w', Below w.heap.size w w' → AddPost w p F m rows r (.returned (.tuple #[.int .i64 0, .int .i64 4])) w') := Lib.hid (fun w' hb => AddPost.no HT.out (by rw [addE, if_pos he, if_neg hm]) (by decide) hb)
      have hne : (r.m != m) = true := by simpa using hm
      obtain ⟨v, mb, n, cb, c, h⟩ := h
      have HB : Hid (Below w.heap.size w ((w.alloc (.cells #[.int .i64 r.s, .int .i64 r.g] 49)).alloc (.cells #[.int .i64 r.m, .int .i64 (r.f 0), .int .i64 (r.f 1), .int .i64 (r.f 2), .int .i64 (r.f 3), .int .i64 (r.f 4), .int .i64 (r.f 5), .int .i64 (r.f 6), .int .i64 (r.f 7)] 52))) := Lib.hid (nb_alloc (nb_alloc (Below.refl _ _) _) _)
      have HE := Lib.hid he
      clear he hm
      go_enter Tryz.func135, Tryz.ntmps135
      go_wp2_with fail
      refine (checkBeast_any _ _ _ _ _ _ _ _ _ _).mono ?_
      rintro e w' ⟨rfl, hw'⟩
      rw [HE.out]
      have hb' : Below w.heap.size w w' := by rw [← hw']; exact nb_alloc HB.out _
      have c0 := (h.later hb').cell0
      have cb0 : w'.cell? ⟨w.heap.size + 1, 0, none⟩ = some (.int .i64 r.m) := by rw [← hw', box2_cell]; rfl
      have HB' := Lib.hid hb'
      clear hw' hb' h
      go_wp2_with fail
      go_quiet (fail)
      go_wp2
      go_ret2
      exact HP.out _ (nb_drewN HB'.out)
  · have HP : Hid (∀ w', Below w.heap.size w w' → AddPost w p F m rows r (.returned (.tuple #[.int .i64 0, .int .i64 (bErr r.m [r.f 0, r.f 1, r.f 2, r.f 3, r.f 4, r.f 5, r.f 6, r.f 7])])) w') := Lib.hid (fun w' hb => AddPost.no HT.out (by rw [addE, if_neg he]) he hb)
    generalize hE : bErr r.m [r.f 0, r.f 1, r.f 2, r.f 3, r.f 4, r.f 5, r.f 6, r.f 7] = E at *
    have HE := Lib.hid hE
    clear hE
    have hne : (E != 0) = true := by simpa using he
    have HB : Hid (Below w.heap.size w ((w.alloc (.cells #[.int .i64 r.s, .int .i64 r.g] 49)).alloc (.cells #[.int .i64 r.m, .int .i64 (r.f 0), .int .i64 (r.f 1), .int .i64 (r.f 2), .int .i64 (r.f 3), .int .i64 (r.f 4), .int .i64 (r.f 5), .int .i64 (r.f 6), .int .i64 (r.f 7)] 52))) := Lib.hid (nb_alloc (nb_alloc (Below.refl _ _) _) _)
    clear he
    go_enter Tryz.func135, Tryz.ntmps135
    go_wp2_with fail
    refine (checkBeast_any _ _ _ _ _ _ _ _ _ _).mono ?_
    rintro e w' ⟨rfl, hw'⟩
    rw [HE.out]
    have HB' : Hid (Below w.heap.size w w') := Lib.hid (by rw [← hw']; exact nb_alloc HB.out _)
    clear hw'
    go_wp2
    go_ret2
    exact HP.out _ HB'.out
end Go.Proofs.YtndhomjfjhohoaaGreatDoor

/- The contract of New of package table. -/
namespace Go.Proofs.YtndhomjfjhohoaaGreatDoor
set_option maxRecDepth 8000
open Go.RowKit

/-- The loop of New: columns of the first j components have been made. -/
def NewLoop (wL wr : World) (mb : Nat) (l : List Int) (j : Nat) : Prop :=
  ∃ (cb : Int → Nat) (c : Nat → Int), MapIs kInt wr mb j (l.take j) (ptrOf cb) ∧ (∀ k ∈ l.take j, wr.heap[cb k]? = some (.cells #[.slice none 0 0] 234) ∧ c (cb k) = k ∧ mb < cb k) ∧ Kept (fun b => b = mb) wL wr

theorem NewLoop.start {w wL : World} {l : List Int} (hb : Below (w.heap.size + 1) (w.alloc (.map #[] 0)) wL) : NewLoop wL wL w.heap.size l 0 := by
  refine ⟨fun _ => 0, fun _ => 0, ?_, fun k hk => by simp at hk, Kept.refl _ _⟩
  rw [List.take_zero]
  exact (MapIs.new kInt w _).later (by simpa using hb)
theorem NewLoop.step {wL wr w4 : World} {mb j : Nat} {l : List Int} {cb : Int → Nat} {c : Nat → Int} {y : Int} (hc : ∀ k ∈ l.take j, wr.heap[cb k]? = some (.cells #[.slice none 0 0] 234) ∧ c (cb k) = k ∧ mb < cb k) (hk : Kept (fun b => b = mb) wL wr) (hj : j < l.length) (hmb : mb < wr.heap.size) (hy : l.getD j 0 = y) (hny : ¬ y ∈ l.take j)
    (hm : MapIs kInt w4 mb (j + 1) (l.take j ++ [y]) (fun x => if x = y then .pointer (some ⟨wr.heap.size, 0, none⟩) else ptrOf cb x)) (hgr : (wr.alloc (.cells #[.slice none 0 0] 234)).grownBy w4 (some mb)) : NewLoop wL w4 mb l (j + 1) := by
  have ht : l.take (j + 1) = l.take j ++ [y] := by rw [take_snoc hj, hy]
  have hk4 : Kept (fun b => b = mb) (wr.alloc (.cells #[.slice none 0 0] 234)) w4 := Kept.grown hgr (fun q e => by cases e; rfl)
  have ef : (fun x => if x = y then Value.pointer (some ⟨wr.heap.size, 0, none⟩) else ptrOf cb x) = ptrOf (fun x => if x = y then wr.heap.size else cb x) := by
    funext x; by_cases e : x = y <;> simp [ptrOf, e]
  refine ⟨fun x => if x = y then wr.heap.size else cb x, fun b => if b = wr.heap.size then y else c b, by rw [ht, ← ef]; exact hm, fun k hkk => ?_, (hk.trans (Kept.alloc (fun b => b = mb) wr _) (fun _ h => .inl h)).trans hk4 (fun _ h => .inl h)⟩
  rw [ht, List.mem_append] at hkk
  have hrest : ∀ k ∈ l.take j, cb k < wr.heap.size := fun k hk => (Array.getElem?_eq_some_iff.1 (hc k hk).1).1
  by_cases e : k = y
  · subst e
    simp only [if_pos]
    refine ⟨?_, trivial, hmb⟩
    rw [hk4.block _ (by simp) (by omega)]; exact heap_alloc_new wr _
  · have hk' : k ∈ l.take j := by
      rcases hkk with h | h
      · exact h
      · simp at h; exact absurd h e
    obtain ⟨h1, h2, h3⟩ := hc k hk'
    have h4 := hrest k hk'
    simp only [if_neg e]
    refine ⟨?_, ?_, h3⟩
    · rw [hk4.block _ (by simp; omega) (by omega), Below.heap_alloc _ _ _ h4]; exact h1
    · rw [if_neg (by omega)]; exact h2

theorem NewLoop.done {w wL wr : World} {m : Int} (h : NewLoop wL wr w.heap.size (kinds m) (kinds m).length) (hb : Below (w.heap.size + 1) (w.alloc (.map #[] 0)) wL) :
    ∃ F, TableAt (wr.alloc (.cells #[.int .i64 m, .slice none 0 0, .map (some w.heap.size)] 247)) wr.heap.size F m [] ∧ (∀ b, F b → w.heap.size ≤ b) ∧ Below w.heap.size w (wr.alloc (.cells #[.int .i64 m, .slice none 0 0, .map (some w.heap.size)] 247)) := by
  obtain ⟨cb, c, hm, hc, hk⟩ := h
  rw [List.take_length] at hm hc
  have hmb := hm.lt
  have hB : Below wr.heap.size wr (wr.alloc (.cells #[.int .i64 m, .slice none 0 0, .map (some w.heap.size)] 247)) := nb_alloc (Below.refl _ _) _
  have hwL : Below w.heap.size w wL := (nb_alloc (Below.refl _ _) _).trans (hb.mono (by omega))
  refine ⟨fun b => w.heap.size ≤ b ∧ b ≤ wr.heap.size, ⟨.slice none 0 0, w.heap.size, (kinds m).length, cb, fun b => if b = wr.heap.size then -1 else if b = w.heap.size then -2 else c b, heap_alloc_new wr _, OwnsF.nil _ _ _ _, hm.later hB, fun k hk' => ?_, ⟨⟨by omega, by omega⟩, by simp⟩, ⟨⟨by omega, by omega⟩, by rw [if_neg (by omega), if_pos rfl]⟩, fun b e => by simp [Value.ownBlock] at e, fun b e => by simp; omega⟩, fun b h => h.1, ?_⟩
  · obtain ⟨h1, h2, h3⟩ := hc k hk'
    have h4 := (Array.getElem?_eq_some_iff.1 h1).1
    refine ⟨.slice none 0 0, ⟨by rw [hB.block _ h4]; exact h1, rfl, OwnsF.nil _ _ _ _, fun b e => by simp [Value.ownBlock] at e⟩, ⟨⟨by omega, by omega⟩, ?_⟩, fun b e => by simp [Value.ownBlock] at e⟩
    rw [if_neg (by omega), if_neg (by omega)]; exact h2
  · exact nb_alloc (hwL.trans (hk.below hwL.size (fun k e => by omega))) _

def NewPost (w : World) (m : Int) (e : Ending) (w' : World) : Prop :=
  ∃ p F, e = .returned (.tuple #[.pointer (some ⟨p, 0, none⟩), .int .i64 0]) ∧ TableAt w' p F m [] ∧ (∀ b, F b → w.heap.size ≤ b) ∧ Below w.heap.size w w'

set_option maxHeartbeats 2000000 in
theorem tableNew_yes (m : Int) (w : World) (h0 : 0 ≤ m) (h1 : m ≤ 255) : Calls Tryz.prog 134 #[.int .i64 m] w (NewPost w m) := by
  have hmk : ∀ x : World, (Instr.makeMap 243 none).run Tryz.prog x = .ok (.map (some x.heap.size)) (x.alloc (.map #[] 0)) := run_makeMap 243
  go_enter Tryz.func134, Tryz.ntmps134
  go_wp2_with fail
  refine (list_any m _).mono ?_
  rintro e wL ⟨v, rfl, hown, hbL⟩
  rw [show (w.alloc (.map #[] 0)).heap.size = w.heap.size + 1 by simp] at hbL
  have HBL := Lib.hid hbL
  have HST := Lib.hid (NewLoop.start (l := kinds m) hbL)
  have hlen : (kinds m).length ≤ 8 := kindsTo_len m 8
  have hge : ∀ j, j < (kinds m).length → 0 ≤ (kinds m).getD j 0 ∧ (kinds m).getD j 0 ≤ 7 := fun j hj => kinds_ge (getD_mem hj)
  have HGE := Lib.hid hge
  have HND : Hid (∀ j, j < (kinds m).length → ¬ (kinds m).getD j 0 ∈ (kinds m).take j) := Lib.hid (fun j hj hmem => by
    have hn : ((kinds m).take (j + 1)).Nodup := (nodup_kindsTo m 8).sublist (List.take_sublist _ _)
    rw [take_snoc hj, List.nodup_append] at hn
    exact hn.2.2 _ hmem _ (by simp) rfl)
  have HOB : Hid (∀ k, v.ownBlock = some k → w.heap.size + 1 ≤ k) := Lib.hid (fun k e => by have := (World.ownsRow.lt hown k e).1; simpa using this)
  have HIN : Hid (Ints wL v (kinds m)) := Lib.hid (Ints.owns hown)
  have HDONE : Hid (∀ wr, NewLoop wL wr w.heap.size (kinds m) (kinds m).length → NewPost w m (.returned (.tuple #[.pointer (some ⟨wr.heap.size, 0, none⟩), .int .i64 0])) (wr.alloc (.cells #[.int .i64 m, .slice none 0 0, .map (some w.heap.size)] 247))) := Lib.hid (fun wr hl => by
    obtain ⟨F, ht, hF, hB⟩ := hl.done HBL.out
    exact ⟨_, F, rfl, ht, hF, hB⟩)
  obtain ⟨hm, hop⟩ := HIN.out.open
  have hmbL : w.heap.size + 1 ≤ wL.heap.size := by have := hbL.size; simpa using this
  clear hown hbL hge hmk
  generalize hl : kinds m = l at *
  clear hl
  generalize hn : l.length = n at *
  have HN := Lib.hid hn
  clear hn
  unfold maxLen at hm
  have HW : Hid (w.heap.size + 1 ≤ wL.heap.size) := Lib.hid hmbL
  rcases hop with ⟨a, cap, rfl, hz⟩ | ⟨b, off, cap, rfl, hb, hlc, hcm, hc⟩
  all_goals
    go_wp2
    go_loopw [17] (fun i wr => ∃ j : Nat, j ≤ n ∧ i = .int .i64 j ∧ Hid (NewLoop wL wr w.heap.size l j)) (fun i _ => n - (intOf i).toNat)
    case atStart => exact ⟨0, by omega, rfl, HST⟩
    case round =>
      obtain ⟨j, hj, rfl, hL⟩ := hrel
      clear HST
      by_cases hlt : j < n
      · first
          | omega
          | (obtain ⟨cb, c, hmap, hcols, hkw⟩ := hL.out
             have hcj := hc j hlt
             have hbne : ¬ b = w.heap.size := by have := HOB.out b rfl; omega
             have c0 : wr.cell? ⟨b, off + j, none⟩ = some (.int .i64 (l.getD j 0)) := by rw [hkw.cell (p := ⟨b, off + j, none⟩) hb hbne]; exact hcj
             obtain ⟨y0, y7⟩ := HGE.out j hlt
             have hny := HND.out j hlt
             generalize hy : l.getD j 0 = y at *
             have HC := Lib.hid hcols
             have HKW := Lib.hid hkw
             have hmlt := hmap.lt
             have HY := Lib.hid hy
             have HNY := Lib.hid hny
             obtain ⟨D, hoD, hnd, hok, hkD, hatD, hsD⟩ := hmap.later (nb_alloc (Below.refl _ _) (.cells #[.slice none 0 0] 234))
             have HD := Lib.hid hoD
             have HR1 := Lib.hid hnd
             have HR2 := Lib.hid hok
             have HR3 := Lib.hid hkD
             have HR4 := Lib.hid hatD
             have HR5 := Lib.hid hsD
             have hkok : kInt.ok y := ⟨by omega, by omega⟩
             have HKOK := Lib.hid hkok
             clear hcols hkw hny hy hoD hnd hok hkD hatD hsD hcj hmap hkok
             have hbw : b < wr.heap.size := Nat.lt_of_lt_of_le hb HKW.out.size
             go_wp2_with (first | (at_mapUpdate; refine wpList_mapUpdate_own _ rfl _ _ _ 243 rfl 3 230 kInt.law Tryz.underlying243 heldR w.heap.size j D rfl HD.out (by unfold maxLen; omega) _ _ (kInt.lit y) rfl rfl (kInt.key y HKOK.out) (.held (.pointer (some ⟨wr.heap.size, 0, none⟩))) [] rfl ?_))
             intro w4 hown4 hgr4
             have HN4 : Hid (NewLoop wL w4 w.heap.size l (j + 1)) := Lib.hid (NewLoop.step HC.out HKW.out (by rw [HN.out]; exact hlt) hmlt HY.out HNY.out (by
               have := MapIs.put (K := kInt) HD.out HR1.out HR2.out HR3.out HR4.out HR5.out y HKOK.out (.pointer (some ⟨wr.heap.size, 0, none⟩)) hown4
               rw [if_neg HNY.out] at this
               exact this) hgr4)
             clear hown4 hgr4
             go_wp2
             go_roundw
             case rel => exact ⟨j + 1, by omega, by go_num, HN4⟩
             case measure => simp [intOf]; omega)
      · obtain rfl : j = n := by omega
        go_wp2
        go_ret2
        exact HDONE.out _ hL.out
end Go.Proofs.YtndhomjfjhohoaaGreatDoor

/- The contract of Row of package table. -/
namespace Go.Proofs.YtndhomjfjhohoaaGreatDoor
set_option maxRecDepth 8000
open Go.RowKit

theorem vals_set (m : Int) (f : Nat → Int) (j : Nat) (x : Int) (h : j < 8) : (#[.int .i64 m, .int .i64 (f 0), .int .i64 (f 1), .int .i64 (f 2), .int .i64 (f 3), .int .i64 (f 4), .int .i64 (f 5), .int .i64 (f 6), .int .i64 (f 7)] : Array Value).setIfInBounds (1 + j) (.int .i64 x) = #[.int .i64 m, .int .i64 ((upd f j x) 0), .int .i64 ((upd f j x) 1), .int .i64 ((upd f j x) 2), .int .i64 ((upd f j x) 3), .int .i64 ((upd f j x) 4), .int .i64 ((upd f j x) 5), .int .i64 ((upd f j x) 6), .int .i64 ((upd f j x) 7)] := by
  obtain rfl | rfl | rfl | rfl | rfl | rfl | rfl | rfl : j = 0 ∨ j = 1 ∨ j = 2 ∨ j = 3 ∨ j = 4 ∨ j = 5 ∨ j = 6 ∨ j = 7 := by omega
  all_goals rfl
/-- The loop of Row: which values have come. -/
structure RowLoop (w wr : World) (rb bb R mb n : Nat) (m : Int) (cb : Int → Nat) (f : Nat → Int) (todo : List Int) (cnt : Nat) : Prop where
  rng : RangeIs kInt wr mb R n (kinds m) (ptrOf cb) todo cnt
  below : Below w.heap.size w wr
  rb : wr.heap[rb]? = some (.cells #[.int .i64 0, .int .i64 0, .int .i64 0, .int .i64 0, .int .i64 0, .int .i64 0, .int .i64 0, .int .i64 0, .int .i64 0, .int .i64 0, .int .i64 0] 54)
  bb : ∃ g : Nat → Int, wr.heap[bb]? = some (.cells #[.int .i64 m, .int .i64 (g 0), .int .i64 (g 1), .int .i64 (g 2), .int .i64 (g 3), .int .i64 (g 4), .int .i64 (g 5), .int .i64 (g 6), .int .i64 (g 7)] 52) ∧ ∀ j, j < 8 → g j = if (j : Int) ∈ kinds m ∧ ¬ (j : Int) ∈ todo then f j else 0

theorem RowLoop.start {w w' w3 : World} {mb n cnt : Nat} {m : Int} {cb : Int → Nat} (f : Nat → Int) (hb : Below w.heap.size w w') (hrb : w'.heap[w.heap.size]? = some (.cells #[.int .i64 0, .int .i64 0, .int .i64 0, .int .i64 0, .int .i64 0, .int .i64 0, .int .i64 0, .int .i64 0, .int .i64 0, .int .i64 0, .int .i64 0] 54))
    (hr : RangeIs kInt w3 mb (w'.heap.size + 1) n (kinds m) (ptrOf cb) (kinds m) cnt) (hb3 : Below (w'.heap.size + 1) (w'.alloc (.cells #[.int .i64 m, .int .i64 0, .int .i64 0, .int .i64 0, .int .i64 0, .int .i64 0, .int .i64 0, .int .i64 0, .int .i64 0] 52)) w3) : RowLoop w w3 w.heap.size w'.heap.size (w'.heap.size + 1) mb n m cb f (kinds m) cnt := by
  have hlt := (Array.getElem?_eq_some_iff.1 hrb).1
  have hs := hb.size
  refine ⟨hr, (nb_alloc hb _).trans (hb3.mono (by omega)), ?_, fun _ => 0, ?_, fun j _ => ?_⟩
  · rw [hb3.block _ (by omega), Below.heap_alloc _ _ _ hlt]; exact hrb
  · rw [hb3.block _ (by omega)]; exact heap_alloc_new w' _
  · rw [if_neg (fun h => h.2 h.1)]
theorem RowLoop.next {w wr w4 : World} {rb bb R mb n cnt cnt' j : Nat} {m : Int} {cb : Int → Nat} {f : Nat → Int} {todo : List Int} (h : RowLoop w wr rb bb R mb n m cb f todo cnt) (hr : RangeIs kInt w4 mb R n (kinds m) (ptrOf cb) (todo.filter (fun y => !decide (y = (j : Int)))) cnt') (hk : Kept (fun q => q = R) wr w4)
    (hj : j < 8) (hjt : (j : Int) ∈ todo) (hw : w.heap.size ≤ bb) (hwR : w.heap.size ≤ R) (h1 : rb ≠ bb) (h2 : R ≠ bb) (h3 : R ≠ rb) (h4 : mb ≠ bb) :
    w4.heap.size ≥ 0 ∧ Below w.heap.size w w4 ∧ (∃ g : Nat → Int, w4.heap[bb]? = some (.cells #[.int .i64 m, .int .i64 (g 0), .int .i64 (g 1), .int .i64 (g 2), .int .i64 (g 3), .int .i64 (g 4), .int .i64 (g 5), .int .i64 (g 6), .int .i64 (g 7)] 52)) ∧ RowLoop w (w4.setCell ⟨bb, 1 + j, none⟩ (.int .i64 (f j))) rb bb R mb n m cb f (todo.filter (fun y => !decide (y = (j : Int)))) cnt' := by
  obtain ⟨rng, below, hrb, g, hg, hgj⟩ := h
  have hb4 : Below w.heap.size w w4 := below.trans (hk.below below.size (fun k e => by omega))
  have hg4 : w4.heap[bb]? = some (.cells #[.int .i64 m, .int .i64 (g 0), .int .i64 (g 1), .int .i64 (g 2), .int .i64 (g 3), .int .i64 (g 4), .int .i64 (g 5), .int .i64 (g 6), .int .i64 (g 7)] 52) := by rw [hk.block bb (Array.getElem?_eq_some_iff.1 hg).1 (Ne.symm h2)]; exact hg
  have hr4 : w4.heap[rb]? = some (.cells #[.int .i64 0, .int .i64 0, .int .i64 0, .int .i64 0, .int .i64 0, .int .i64 0, .int .i64 0, .int .i64 0, .int .i64 0, .int .i64 0, .int .i64 0] 54) := by rw [hk.block rb (Array.getElem?_eq_some_iff.1 hrb).1 (Ne.symm h3)]; exact hrb
  have hks : Kept (fun q => q = bb) w4 (w4.setCell ⟨bb, 1 + j, none⟩ (.int .i64 (f j))) := Kept.setCell (F := fun q => q = bb) _ (p := ⟨bb, 1 + j, none⟩) rfl _
  refine ⟨Nat.zero_le _, hb4, ⟨g, hg4⟩, hr.kept hks h4 h2, hb4.trans (hks.below hb4.size (fun k e => by omega)), ?_, upd g j (f j), ?_, fun i hi => ?_⟩
  · rw [hks.block rb (Array.getElem?_eq_some_iff.1 hr4).1 h1]; exact hr4
  · rw [heap_setCell_same _ _ _ _ _ _ hg4, vals_set m g j (f j) hj]
  · unfold upd
    by_cases e : i = j
    · subst e
      rw [if_pos rfl, if_pos ⟨rng.sub _ hjt, by simp⟩]
    · have e' : ¬ (i : Int) = (j : Int) := by omega
      rw [if_neg e, hgj i hi]
      congr 1
      simp [e']
theorem RowLoop.done {w wr : World} {rb bb R mb n cnt : Nat} {m : Int} {cb : Int → Nat} {f : Nat → Int} (h : RowLoop w wr rb bb R mb n m cb f [] cnt) (hf : ∀ k, k < 8 → tb m k = false → f k = 0) : wr.heap[bb]? = some (.cells #[.int .i64 m, .int .i64 (f 0), .int .i64 (f 1), .int .i64 (f 2), .int .i64 (f 3), .int .i64 (f 4), .int .i64 (f 5), .int .i64 (f 6), .int .i64 (f 7)] 52) := by
  obtain ⟨rng, below, hrb, g, hg, hgj⟩ := h
  have e : ∀ j, j < 8 → g j = f j := fun j hj => by
    rw [hgj j hj]
    by_cases ht : (j : Int) ∈ kinds m
    · rw [if_pos ⟨ht, by simp⟩]
    · rw [if_neg (fun h => ht h.1)]
      cases hb : tb m j
      · exact (hf j hj hb).symm
      · exact absurd ((kinds_iff hj).2 hb) ht
  rw [hg, e 0 (by decide), e 1 (by decide), e 2 (by decide), e 3 (by decide), e 4 (by decide), e 5 (by decide), e 6 (by decide), e 7 (by decide)]

end Go.Proofs.YtndhomjfjhohoaaGreatDoor

/- The contracts of Remove, Set, Column and Handles of package table. -/
namespace Go.Proofs.YtndhomjfjhohoaaGreatDoor
set_option maxRecDepth 8000
open Go.RowKit

theorem NewC.later {n0 : Nat} {w w' : World} {F : Nat → Prop} (h : NewC n0 w F) (hl : ∀ b, F b → b < w.heap.size) (hb : Below w.heap.size w w') : NewC n0 w' F := fun b hF => (h b hF).imp id (fun hc => by
  obtain ⟨cs, T, z, e⟩ := hc
  exact ⟨cs, T, z, by rw [hb.block b (hl b hF)]; exact e⟩)
end Go.Proofs.YtndhomjfjhohoaaGreatDoor

/- The contracts of Set, Column and Handles of package table. -/
namespace Go.Proofs.YtndhomjfjhohoaaGreatDoor
set_option maxRecDepth 8000
open Go.RowKit

def SetPost (w : World) (p : Nat) (F : Nat → Prop) (m : Int) (rows : List Rw) (i k n : Int) (e : Ending) (w' : World) : Prop :=
  e = .returned (.int .i64 (setE m rows i k n)) ∧ ∃ F', TableAt w' p F' m (setL m rows i k n) ∧ Kept F w w' ∧ Moves w F F'
theorem SetPost.no {w : World} {p : Nat} {F : Nat → Prop} {m : Int} {rows : List Rw} {i k n x : Int} (h : TableAt w p F m rows) (hx : setE m rows i k n = x) (h0 : x ≠ 0) : SetPost w p F m rows i k n (.returned (.int .i64 x)) w := by
  subst hx
  refine ⟨rfl, F, ?_, Kept.refl _ _, Moves.refl _ _⟩
  rw [setL, if_neg h0]; exact h
end Go.Proofs.YtndhomjfjhohoaaGreatDoor

/- Own slices of rows; Copy of rows; a call in a drawn region. -/
namespace Go.Proofs.YtndhomjfjhohoaaGreatDoor
open Go.RowKit

theorem infoRow : (Tryz.prog.info? 54).map (fun i => (i.zero, i.size, i.bytes)) = some (some (.agg #[.int .i64 0, .int .i64 0, .int .i64 0, .int .i64 0, .int .i64 0, .int .i64 0, .int .i64 0, .int .i64 0, .int .i64 0, .int .i64 0, .int .i64 0]), 11, 88) := by kernel_rfl

end Go.Proofs.YtndhomjfjhohoaaGreatDoor

/- The contract of New of package table. -/
import Derived.Test.YtakoejopgdaknaaTableOps
namespace Go.Proofs.Ytakoejopgdaknaa
set_option maxRecDepth 8000
open Go.RowKit

/-- The loop of New: columns of the first j components have been made. -/
def NewLoop (wL wr : World) (mb : Nat) (l : List Int) (j : Nat) : Prop :=
  ∃ (cb : Int → Nat) (c : Nat → Int), MapIs kInt wr mb j (l.take j) (ptrOf cb) ∧ (∀ k ∈ l.take j, wr.heap[cb k]? = some (.cells #[.slice none 0 0] 121) ∧ c (cb k) = k ∧ mb < cb k) ∧ Kept (fun b => b = mb) wL wr

theorem NewLoop.start {w wL : World} {l : List Int} (hb : Below (w.heap.size + 1) (w.alloc (.map #[] 0)) wL) : NewLoop wL wL w.heap.size l 0 := by
  refine ⟨fun _ => 0, fun _ => 0, ?_, fun k hk => by simp at hk, Kept.refl _ _⟩
  rw [List.take_zero]
  exact (MapIs.new kInt w _).later (by simpa using hb)
theorem NewLoop.step {wL wr w4 : World} {mb j : Nat} {l : List Int} {cb : Int → Nat} {c : Nat → Int} {y : Int} (hc : ∀ k ∈ l.take j, wr.heap[cb k]? = some (.cells #[.slice none 0 0] 121) ∧ c (cb k) = k ∧ mb < cb k) (hk : Kept (fun b => b = mb) wL wr) (hj : j < l.length) (hmb : mb < wr.heap.size) (hy : l.getD j 0 = y) (hny : ¬ y ∈ l.take j)
    (hm : MapIs kInt w4 mb (j + 1) (l.take j ++ [y]) (fun x => if x = y then .pointer (some ⟨wr.heap.size, 0, none⟩) else ptrOf cb x)) (hgr : (wr.alloc (.cells #[.slice none 0 0] 121)).grownBy w4 (some mb)) : NewLoop wL w4 mb l (j + 1) := by
  have ht : l.take (j + 1) = l.take j ++ [y] := by rw [take_snoc hj, hy]
  have hk4 : Kept (fun b => b = mb) (wr.alloc (.cells #[.slice none 0 0] 121)) w4 := Kept.grown hgr (fun q e => by cases e; rfl)
  have ef : (fun x => if x = y then Value.pointer (some ⟨wr.heap.size, 0, none⟩) else ptrOf cb x) = ptrOf (fun x => if x = y then wr.heap.size else cb x) := by
    funext x; by_cases e : x = y <;> simp [ptrOf, e]
  refine ⟨fun x => if x = y then wr.heap.size else cb x, fun b => if b = wr.heap.size then y else c b, by rw [ht, ← ef]; exact hm, fun k hkk => ?_, (hk.trans (Kept.alloc (fun b => b = mb) wr _) (fun _ h => .inl h)).trans hk4 (fun _ h => .inl h)⟩
  rw [ht, List.mem_append] at hkk
  have hrest : ∀ k ∈ l.take j, cb k < wr.heap.size := fun k hk => (Array.getElem?_eq_some_iff.1 (hc k hk).1).1
  by_cases e : k = y
  · subst e
    simp only [if_pos]
    refine ⟨?_, trivial, hmb⟩
    rw [hk4.block _ (by simp) (by omega)]; exact heap_alloc_new wr _
  · have hk' : k ∈ l.take j := by
      rcases hkk with h | h
      · exact h
      · simp at h; exact absurd h e
    obtain ⟨h1, h2, h3⟩ := hc k hk'
    have h4 := hrest k hk'
    simp only [if_neg e]
    refine ⟨?_, ?_, h3⟩
    · rw [hk4.block _ (by simp; omega) (by omega), Below.heap_alloc _ _ _ h4]; exact h1
    · rw [if_neg (by omega)]; exact h2

theorem NewLoop.done {w wL wr : World} {m : Int} (h : NewLoop wL wr w.heap.size (kinds m) (kinds m).length) (hb : Below (w.heap.size + 1) (w.alloc (.map #[] 0)) wL) :
    ∃ F, TableAt (wr.alloc (.cells #[.int .i64 m, .slice none 0 0, .map (some w.heap.size)] 118)) wr.heap.size F m [] ∧ (∀ b, F b → w.heap.size ≤ b) ∧ Below w.heap.size w (wr.alloc (.cells #[.int .i64 m, .slice none 0 0, .map (some w.heap.size)] 118)) := by
  obtain ⟨cb, c, hm, hc, hk⟩ := h
  rw [List.take_length] at hm hc
  have hmb := hm.lt
  have hB : Below wr.heap.size wr (wr.alloc (.cells #[.int .i64 m, .slice none 0 0, .map (some w.heap.size)] 118)) := nb_alloc (Below.refl _ _) _
  have hwL : Below w.heap.size w wL := (nb_alloc (Below.refl _ _) _).trans (hb.mono (by omega))
  refine ⟨fun b => w.heap.size ≤ b ∧ b ≤ wr.heap.size, ⟨.slice none 0 0, w.heap.size, (kinds m).length, cb, fun b => if b = wr.heap.size then -1 else if b = w.heap.size then -2 else c b, heap_alloc_new wr _, OwnsF.nil _ _ _ _, hm.later hB, fun k hk' => ?_, ⟨⟨by omega, by omega⟩, by simp⟩, ⟨⟨by omega, by omega⟩, by rw [if_neg (by omega), if_pos rfl]⟩, fun b e => by simp [Value.ownBlock] at e, fun b e => by simp; omega⟩, fun b h => h.1, ?_⟩
  · obtain ⟨h1, h2, h3⟩ := hc k hk'
    have h4 := (Array.getElem?_eq_some_iff.1 h1).1
    refine ⟨.slice none 0 0, ⟨by rw [hB.block _ h4]; exact h1, rfl, OwnsF.nil _ _ _ _, fun b e => by simp [Value.ownBlock] at e⟩, ⟨⟨by omega, by omega⟩, ?_⟩, fun b e => by simp [Value.ownBlock] at e⟩
    rw [if_neg (by omega), if_neg (by omega)]; exact h2
  · exact nb_alloc (hwL.trans (hk.below hwL.size (fun k e => by omega))) _

def NewPost (w : World) (m : Int) (e : Ending) (w' : World) : Prop :=
  ∃ p F, e = .returned (.tuple #[.pointer (some ⟨p, 0, none⟩), .int .i64 0]) ∧ TableAt w' p F m [] ∧ (∀ b, F b → w.heap.size ≤ b) ∧ Below w.heap.size w w'

set_option maxHeartbeats 1000000 in
theorem tableNew_no (m : Int) (w : World) (h : inB m 0 255 = false) : Calls Try.prog 79 #[.int .i64 m] w fun e w' => e = .returned (.tuple #[.pointer none, .int .i64 1]) ∧ w = w' := by
  rcases inB_f h with b1 | b1
  all_goals
    clear h
    go_enter Try.func79, Try.ntmps79
    go_wp2
    go_ret2
    exact ⟨rfl, rfl⟩

set_option maxHeartbeats 2000000 in
theorem tableNew_yes (m : Int) (w : World) (h0 : 0 ≤ m) (h1 : m ≤ 255) : Calls Try.prog 79 #[.int .i64 m] w (NewPost w m) := by
  have hmk : ∀ x : World, (Instr.makeMap 116 none).run Try.prog x = .ok (.map (some x.heap.size)) (x.alloc (.map #[] 0)) := run_makeMap 116
  go_enter Try.func79, Try.ntmps79
  go_wp2_with fail
  refine (list_any m _).mono ?_
  rintro e wL ⟨v, rfl, hown, hbL⟩
  rw [show (w.alloc (.map #[] 0)).heap.size = w.heap.size + 1 by simp] at hbL
  have HBL := Lib.hid hbL
  have HST := Lib.hid (NewLoop.start (l := kinds m) hbL)
  have hlen : (kinds m).length ≤ 8 := kindsTo_len m 8
  have hge : ∀ j, j < (kinds m).length → 0 ≤ (kinds m).getD j 0 ∧ (kinds m).getD j 0 ≤ 7 := fun j hj => kinds_ge (getD_mem hj)
  have HGE := Lib.hid hge
  have HND : Hid (∀ j, j < (kinds m).length → ¬ (kinds m).getD j 0 ∈ (kinds m).take j) := Lib.hid (fun j hj hmem => by
    have hn : ((kinds m).take (j + 1)).Nodup := (nodup_kindsTo m 8).sublist (List.take_sublist _ _)
    rw [take_snoc hj, List.nodup_append] at hn
    exact hn.2.2 _ hmem _ (by simp) rfl)
  have HOB : Hid (∀ k, v.ownBlock = some k → w.heap.size + 1 ≤ k) := Lib.hid (fun k e => by have := (World.ownsRow.lt hown k e).1; simpa using this)
  have HIN : Hid (Ints wL v (kinds m)) := Lib.hid (Ints.owns hown)
  have HDONE : Hid (∀ wr, NewLoop wL wr w.heap.size (kinds m) (kinds m).length → NewPost w m (.returned (.tuple #[.pointer (some ⟨wr.heap.size, 0, none⟩), .int .i64 0])) (wr.alloc (.cells #[.int .i64 m, .slice none 0 0, .map (some w.heap.size)] 118))) := Lib.hid (fun wr hl => by
    obtain ⟨F, ht, hF, hB⟩ := hl.done HBL.out
    exact ⟨_, F, rfl, ht, hF, hB⟩)
  obtain ⟨hm, hop⟩ := HIN.out.open
  have hmbL : w.heap.size + 1 ≤ wL.heap.size := by have := hbL.size; simpa using this
  clear hown hbL hge hmk
  generalize hl : kinds m = l at *
  clear hl
  generalize hn : l.length = n at *
  have HN := Lib.hid hn
  clear hn
  unfold maxLen at hm
  have HW : Hid (w.heap.size + 1 ≤ wL.heap.size) := Lib.hid hmbL
  rcases hop with ⟨a, cap, rfl, hz⟩ | ⟨b, off, cap, rfl, hb, hlc, hcm, hc⟩
  all_goals
    go_wp2
    go_loopw [17] (fun i wr => ∃ j : Nat, j ≤ n ∧ i = .int .i64 j ∧ Hid (NewLoop wL wr w.heap.size l j)) (fun i _ => n - (intOf i).toNat)
    case atStart => exact ⟨0, by omega, rfl, HST⟩
    case round =>
      obtain ⟨j, hj, rfl, hL⟩ := hrel
      clear HST
      by_cases hlt : j < n
      · first
          | omega
          | (obtain ⟨cb, c, hmap, hcols, hkw⟩ := hL.out
             have hcj := hc j hlt
             have hbne : ¬ b = w.heap.size := by have := HOB.out b rfl; omega
             have c0 : wr.cell? ⟨b, off + j, none⟩ = some (.int .i64 (l.getD j 0)) := by rw [hkw.cell (p := ⟨b, off + j, none⟩) hb hbne]; exact hcj
             obtain ⟨y0, y7⟩ := HGE.out j hlt
             have hny := HND.out j hlt
             generalize hy : l.getD j 0 = y at *
             have HC := Lib.hid hcols
             have HKW := Lib.hid hkw
             have hmlt := hmap.lt
             have HY := Lib.hid hy
             have HNY := Lib.hid hny
             obtain ⟨D, hoD, hnd, hok, hkD, hatD, hsD⟩ := hmap.later (nb_alloc (Below.refl _ _) (.cells #[.slice none 0 0] 121))
             have HD := Lib.hid hoD
             have HR1 := Lib.hid hnd
             have HR2 := Lib.hid hok
             have HR3 := Lib.hid hkD
             have HR4 := Lib.hid hatD
             have HR5 := Lib.hid hsD
             have hkok : kInt.ok y := ⟨by omega, by omega⟩
             have HKOK := Lib.hid hkok
             clear hcols hkw hny hy hoD hnd hok hkD hatD hsD hcj hmap hkok
             have hbw : b < wr.heap.size := Nat.lt_of_lt_of_le hb HKW.out.size
             go_wp2_with (first | (at_mapUpdate; refine wpList_mapUpdate_own _ rfl _ _ _ 116 rfl 3 119 kInt.law Try.underlying116 heldR w.heap.size j D rfl HD.out (by unfold maxLen; omega) _ _ (kInt.lit y) rfl rfl (kInt.key y HKOK.out) (.held (.pointer (some ⟨wr.heap.size, 0, none⟩))) [] rfl ?_))
             intro w4 hown4 hgr4
             have HN4 : Hid (NewLoop wL w4 w.heap.size l (j + 1)) := Lib.hid (NewLoop.step HC.out HKW.out (by rw [HN.out]; exact hlt) hmlt HY.out HNY.out (by
               have := MapIs.put (K := kInt) HD.out HR1.out HR2.out HR3.out HR4.out HR5.out y HKOK.out (.pointer (some ⟨wr.heap.size, 0, none⟩)) hown4
               rw [if_neg HNY.out] at this
               exact this) hgr4)
             clear hown4 hgr4
             go_wp2
             go_roundw
             case rel => exact ⟨j + 1, by omega, by go_num, HN4⟩
             case measure => simp [intOf]; omega)
      · obtain rfl : j = n := by omega
        go_wp2
        go_ret2
        exact HDONE.out _ hL.out
end Go.Proofs.Ytakoejopgdaknaa

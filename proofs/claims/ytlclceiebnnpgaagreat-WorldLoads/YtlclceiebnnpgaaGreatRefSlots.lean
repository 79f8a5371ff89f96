/- The reference's slots in memory; the contracts of its All, Is and Free. -/
import Derived.Test.YtlclceiebnnpgaaGreatGroundA
import Derived.Test.YtlclceiebnnpgaaGreatGroundB
namespace Go.Proofs.YtlclceiebnnpgaaGreat
set_option maxRecDepth 8000
open Go.RowKit

def livesL (l : List (Int × Bool)) : List Bool := l.map (·.2)
theorem gensL_len (l : List (Int × Bool)) : (gensL l).length = l.length := by simp [gensL]
theorem livesL_len (l : List (Int × Bool)) : (livesL l).length = l.length := by simp [livesL]
theorem gensL_at (l : List (Int × Bool)) (k : Nat) : (gensL l).getD k 0 = (l.getD k slotZ).1 := by
  simp only [gensL, List.getD_eq_getElem?_getD, List.getElem?_map]
  cases l[k]? <;> rfl
theorem livesL_at (l : List (Int × Bool)) (k : Nat) : (livesL l).getD k false = (l.getD k slotZ).2 := by
  simp only [livesL, List.getD_eq_getElem?_getD, List.getElem?_map]
  cases l[k]? <;> rfl

/-- At block q, first in it, lie the reference's slots l, in the blocks G; 'rest': what else lies in block q. -/
def RefAt (w : World) (q : Nat) (T : TypeId) (rest : List Value) (G : Nat → Prop) (l : List (Int × Bool)) : Prop :=
  ∃ vg vl, w.heap[q]? = some (.cells (vg :: vl :: rest).toArray T (0, 0)) ∧ Owns elInt w 3 vg (gensL l) ∧ Owns elBool w 4 vl (livesL l) ∧ G q ∧
    (∀ k, vg.ownBlock = some k → G k ∧ k ≠ q) ∧ (∀ k, vl.ownBlock = some k → G k ∧ k ≠ q ∧ vg.ownBlock ≠ some k) ∧ (∀ k, G k → k < w.heap.size)

theorem RefAt.kept {w w' : World} {q : Nat} {T : TypeId} {rest : List Value} {G F : Nat → Prop} {l : List (Int × Bool)} (h : RefAt w q T rest G l) (hk : Kept F w w') (hf : ∀ k, G k → ¬ F k) : RefAt w' q T rest G l := by
  obtain ⟨vg, vl, hq, hg, hl, hG, hvg, hvl, hlt⟩ := h
  refine ⟨vg, vl, ?_, hg.kept hk (fun k e => hf k (hvg k e).1), hl.kept hk (fun k e => hf k (hvl k e).1), hG, hvg, hvl, fun k hk' => Nat.lt_of_lt_of_le (hlt k hk') hk.size⟩
  rw [hk.block q (hlt q hG) (hf q hG)]; exact hq
theorem RefAt.later {w w' : World} {q : Nat} {T : TypeId} {rest : List Value} {G : Nat → Prop} {l : List (Int × Bool)} (h : RefAt w q T rest G l) (hb : Below w.heap.size w w') : RefAt w' q T rest G l :=
  h.kept (F := fun _ => False) (Kept.ofBelow hb) (fun _ _ f => f)
theorem RefAt.lt {w : World} {q : Nat} {T : TypeId} {rest : List Value} {G : Nat → Prop} {l : List (Int × Bool)} (h : RefAt w q T rest G l) : ∀ k, G k → k < w.heap.size := by
  obtain ⟨vg, vl, hq, hg, hl, hG, hvg, hvl, hlt⟩ := h; exact hlt


/-- What the walks read: the two slices, their cells at k. -/
theorem RefAt.cells {w : World} {q : Nat} {T : TypeId} {rest : List Value} {G : Nat → Prop} {l : List (Int × Bool)} (h : RefAt w q T rest G l) :
    l.length ≤ 0 ∧ (∃ a c a' c', w.cell? ⟨q, 0, none⟩ = some (.slice a l.length c) ∧ w.cell? ⟨q, 1, none⟩ = some (.slice a' l.length c')) ∨
    ∃ b c b' c', w.cell? ⟨q, 0, none⟩ = some (.slice (some ⟨b, 0, none⟩) l.length c) ∧ w.cell? ⟨q, 1, none⟩ = some (.slice (some ⟨b', 0, none⟩) l.length c') ∧ b < w.heap.size ∧ b' < w.heap.size ∧ l.length ≤ c ∧ l.length ≤ c' ∧ c ≤ maxLen ∧ c' ≤ maxLen ∧
      (∀ k, k < l.length → w.cell? ⟨b, k, none⟩ = some (.int .i64 (l.getD k slotZ).1)) ∧ (∀ k, k < l.length → w.cell? ⟨b', k, none⟩ = some (.bool (l.getD k slotZ).2)) := by
  obtain ⟨vg, vl, hq, hg, hl, hG, hvg, hvl, hlt⟩ := h
  have q0 : w.cell? ⟨q, 0, none⟩ = some vg := by rw [cell_of_row _ _ _ _ _ _ hq]; simp
  have q1 : w.cell? ⟨q, 1, none⟩ = some vl := by rw [cell_of_row _ _ _ _ _ _ hq]; simp
  by_cases e : l.length ≤ 0
  · obtain ⟨a, c, rfl, _⟩ := hg.reads
    obtain ⟨a', c', rfl, _⟩ := hl.reads
    rw [gensL_len] at q0; rw [livesL_len] at q1
    exact .inl ⟨e, a, c, a', c', q0, q1⟩
  · rcases hg.form with ⟨rfl, e0⟩ | ⟨b, c, cur, rfl, _, hb, hn, hc, _⟩
    · have := gensL_len l; rw [e0] at this; simp at this; omega
    rcases hl.form with ⟨rfl, e0⟩ | ⟨b', c', cur', rfl, _, hb', hn', hc', _⟩
    · have := livesL_len l; rw [e0] at this; simp at this; omega
    obtain ⟨_, ⟨_, _, ea, e1⟩ | ⟨_, _, _, ea, _, _, _, h1⟩⟩ := hg.reads.open
    · rw [gensL_len] at e1; omega
    obtain ⟨_, ⟨_, _, ea', e1⟩ | ⟨_, _, _, ea', _, _, _, h1'⟩⟩ := hl.reads.open
    · rw [livesL_len] at e1; omega
    simp only [Value.slice.injEq, Option.some.injEq, Addr.mk.injEq] at ea ea'
    obtain ⟨⟨rfl, rfl, _⟩, _, rfl⟩ := ea
    obtain ⟨⟨rfl, rfl, _⟩, _, rfl⟩ := ea'
    rw [gensL_len] at q0 h1 hn
    rw [livesL_len] at q1 h1' hn'
    refine .inr ⟨b, c, b', c', q0, q1, hb, hb', hn, hn', hc, hc', fun k hk => ?_, fun k hk => ?_⟩
    · have := cells1 rfl h1 hk
      rw [show elInt.zero = 0 from rfl, gensL_at, Nat.zero_add] at this; exact this
    · have := cells1 rfl h1' hk
      rw [show elBool.zero = false from rfl, livesL_at, Nat.zero_add] at this; exact this

set_option maxHeartbeats 2000000 in
theorem refAll_any (q : Nat) (T : TypeId) (rest : List Value) (G : Nat → Prop) (l : List (Int × Bool)) (w : World) (h : RefAt w q T rest G l) (ok : SlotOk l) :
    Calls Tryz.prog 91 #[.pointer (some ⟨q, 0, none⟩)] w fun e w' => ∃ v, e = .returned v ∧ OwnsF elHand w' w.heap.size 28 v (allL l) ∧ Below w.heap.size w w' := by
  obtain ⟨i0, hi, hz0, hz1, hz2⟩ := info_parts infoHand
  have hlen := ok.len
  have hq := h.lt q (by obtain ⟨_, _, _, _, _, hG, _⟩ := h; exact hG)
  have HC := h.cells
  clear ok h
  have HAL : Hid (allL l = allTo l l.length) := Lib.hid rfl
  generalize hn : l.length = n at *
  clear hn
  rcases HC with ⟨hz, a, c, a', c', q0, q1⟩ | ⟨b, c, b', c', q0, q1, hb, hb', hlc, hlc', hcm, hcm', hc, hc'⟩
  all_goals
    go_enter Tryz.func91, Tryz.ntmps91
    go_wp2
    go_loopw [3, 11] (fun v i wr => ∃ k : Nat, k ≤ n ∧ i = .int .i64 k ∧ Hid (OwnsF elHand wr w.heap.size 28 v (allTo l k)) ∧ Hid (Below w.heap.size w wr)) (fun _ i _ => n - (intOf i).toNat)
    case atStart => exact ⟨0, by omega, rfl, OwnsF.nil _ _ _ _, Below.refl _ _⟩
    case round =>
      obtain ⟨k, hk, rfl, hO, hB⟩ := hrel
      by_cases hltk : k < n
      · first
          | omega
          | (have c0' : wr.cell? ⟨b, k, none⟩ = some (.int .i64 (l.getD k slotZ).1) := by rw [hB.out.cell (p := ⟨b, _, none⟩) hb, hc k hltk]
             have c1' : wr.cell? ⟨b', k, none⟩ = some (.bool (l.getD k slotZ).2) := by rw [hB.out.cell (p := ⟨b', _, none⟩) hb', hc' k hltk]
             have q0' : wr.cell? ⟨q, 0, none⟩ = some (.slice (some ⟨b, 0, none⟩) n c) := by rw [hB.out.cell (p := ⟨q, _, none⟩) hq, q0]
             have q1' : wr.cell? ⟨q, 1, none⟩ = some (.slice (some ⟨b', 0, none⟩) n c') := by rw [hB.out.cell (p := ⟨q, _, none⟩) hq, q1]
             clear hc hc'
             have HK := Lib.hid (show allTo l (k + 1) = if (l.getD k slotZ).2 then allTo l k ++ [((k : Int), (l.getD k slotZ).1)] else allTo l k from rfl)
             have HL := Lib.hid (allTo_len l k)
             generalize allTo l k = L at *
             generalize l.getD k slotZ = x at *
             obtain ⟨x1, x2⟩ := x
             cases x2
             · rw [if_neg (by simp)] at HK
               go_wp2
               go_roundw
               case rel => exact ⟨k + 1, by omega, by go_num, by rw [HK.out]; exact hO, hB⟩
               case measure => simp [intOf]; omega
             · rw [if_pos rfl] at HK
               go_wp2_with (first | (at_builtin; refine wpList_append_own _ rfl _ _ 112 rfl w.heap.size 28 i0 (.agg #[.int .i64 0, .int .i64 0]) 2 16 Tryz.underlying112 hi hz0 hz1 hz2 rfl (by decide) _ _ _ rfl (World.ownsRow.alloc hO.out _) ⟨wr.heap.size, 0, none⟩ 1 1 [.int .i64 (k : Int), .int .i64 x1] rfl rfl ?d1 ?d2 ?d3 ?d4 ?d5 ?_))
               case d2 => exact ⟨rfl, rfl⟩
               case d3 => have := HL.out; unfold maxLen; omega
               case d4 => have := HL.out; omega
               case d5 => have := hB.out.size; simp; omega
               intro v' w2 hown hgr _
               have HO2 : Hid (OwnsF elHand w2 w.heap.size 28 v' (L ++ [((k : Int), x1)])) := Lib.hid (OwnsF.snoc hown)
               have HB2 : Hid (Below w.heap.size w w2) := Lib.hid ((nb_alloc hB.out _).grown hgr (by have := hB.out.size; simp; omega) (fun j hj => hO.out.ge hj))
               clear hown hgr
               go_wp2
               go_roundw
               case rel => exact ⟨k + 1, by omega, by go_num, by rw [HK.out]; exact HO2, HB2⟩
               case measure => simp [intOf]; omega)
      · obtain rfl : k = n := by omega
        go_wp2
        go_ret
        exact ⟨_, rfl, by rw [HAL.out]; exact hO.out, hB.out⟩

theorem mem_all_live (l : List (Int × Bool)) (a b : Int) : decide ((a, b) ∈ allL l) = liveB l a b := by
  rw [Bool.eq_iff_iff]; simp [mem_allL]
theorem RefAt.drew {w : World} {q : Nat} {T : TypeId} {rest : List Value} {G : Nat → Prop} {l : List (Int × Bool)} (h : RefAt w q T rest G l) : RefAt w.drew q T rest G l := h.kept (Kept.drew (fun _ => False) w) (fun _ _ f => f)

set_option maxHeartbeats 2000000 in
theorem refIs_any (q : Nat) (T : TypeId) (rest : List Value) (G : Nat → Prop) (l : List (Int × Bool)) (a b : Int) (w : World) (h : RefAt w q T rest G l) (ok : SlotOk l) :
    Calls Tryz.prog 70 #[.pointer (some ⟨q, 0, none⟩), .agg #[.int .i64 a, .int .i64 b]] w fun e w' => e = .returned (.bool (liveB l a b)) ∧ Below w.heap.size w w' := by
  have HS := Lib.hid (h.later (nb_alloc (Below.refl _ _) (.cells #[.int .i64 a, .int .i64 b] 28))).drew
  have HOK := Lib.hid ok
  have HM := Lib.hid (mem_all_live l a b)
  clear h ok
  go_enter Tryz.func70, Tryz.ntmps70
  go_wp2_with fail
  go_region_held3 (fun w' => w'.cell? ⟨w.heap.size, 0, none⟩ = some (.int .i64 a) ∧ w'.cell? ⟨w.heap.size, 1, none⟩ = some (.int .i64 b)) (first | go_keep | exact HK.out | exact HK3.out) (first | ((go_at_call 91; refine (refAll_any q T rest G l _ HS.out HOK.out).mono ?_; rintro e w2 ⟨v2, rfl, ho2, hb2⟩; have HK : Hid (w2.cell? ⟨w.heap.size, 0, none⟩ = some (.int .i64 a) ∧ w2.cell? ⟨w.heap.size, 1, none⟩ = some (.int .i64 b)) := Lib.hid (by constructor <;> (rw [hb2.cell (p := ⟨w.heap.size, _, none⟩) (by simp)]; simp)); have HO2 := Lib.hid ho2.reads; have HB2 := Lib.hid hb2; clear ho2 hb2)) | ((go_at_call 90; refine (hasHand_any _ (allL l) _ _ _ HO2.out).mono ?_; rintro e w3 ⟨rfl, hb3⟩; rw [HM.out]; have HB3 := Lib.hid hb3; have HK3 : Hid (w3.cell? ⟨w.heap.size, 0, none⟩ = some (.int .i64 a) ∧ w3.cell? ⟨w.heap.size, 1, none⟩ = some (.int .i64 b)) := Lib.hid (by constructor <;> (rw [hb3.cell (p := ⟨w.heap.size, _, none⟩) (show w.heap.size < w2.heap.size by have := HB2.out.size; simp at this; omega)]; first | exact HK.out.1 | exact HK.out.2)); clear hb3)))
  go_wp2
  go_ret
  exact ⟨rfl, nb_trans (nb_trans (nb_alloc (Below.refl _ _) _).drew HB2.out) HB3.out⟩

theorem gensL_set (l : List (Int × Bool)) (i : Nat) (x : Int × Bool) : gensL (l.set i x) = (gensL l).set i x.1 := by simp [gensL, List.map_set]
theorem livesL_set (l : List (Int × Bool)) (i : Nat) (x : Int × Bool) : livesL (l.set i x) = (livesL l).set i x.2 := by simp [livesL, List.map_set]

/-- Where there is a slot i. -/
theorem RefAt.open {w : World} {q : Nat} {T : TypeId} {rest : List Value} {G : Nat → Prop} {l : List (Int × Bool)} (h : RefAt w q T rest G l) {i : Nat} (hi : i < l.length) :
    ∃ g c g' c', w.heap[q]? = some (.cells (.slice (some ⟨g, 0, none⟩) l.length c :: .slice (some ⟨g', 0, none⟩) l.length c' :: rest).toArray T (0, 0)) ∧
      Owns elInt w 3 (.slice (some ⟨g, 0, none⟩) l.length c) (gensL l) ∧ Owns elBool w 4 (.slice (some ⟨g', 0, none⟩) l.length c') (livesL l) ∧ G q ∧ G g ∧ G g' ∧ g ≠ q ∧ g' ≠ q ∧ g ≠ g' ∧ (∀ k, G k → k < w.heap.size) ∧
      w.cell? ⟨q, 0, none⟩ = some (.slice (some ⟨g, 0, none⟩) l.length c) ∧ w.cell? ⟨q, 1, none⟩ = some (.slice (some ⟨g', 0, none⟩) l.length c') ∧
      w.cell? ⟨g, i, none⟩ = some (.int .i64 (l.getD i slotZ).1) ∧ w.cell? ⟨g', i, none⟩ = some (.bool (l.getD i slotZ).2) ∧ w.frozen? ⟨g, i, none⟩ = false ∧ w.frozen? ⟨g', i, none⟩ = false := by
  obtain ⟨vg, vl, hq, hg, hl, hG, hvg, hvl, hlt⟩ := h
  rcases hg.form with ⟨rfl, e0⟩ | ⟨b, c, cur, rfl, _, hb, hn, hc, _⟩
  · have := gensL_len l; rw [e0] at this; simp at this; omega
  rcases hl.form with ⟨rfl, e0⟩ | ⟨b', c', cur', rfl, _, hb', hn', hc', _⟩
  · have := livesL_len l; rw [e0] at this; simp at this; omega
  obtain ⟨x1, x2, _⟩ := OwnsF.open1 (E := elInt) rfl (show OwnsF elInt w 0 3 _ _ from hg) (k := i) (by rw [gensL_len]; exact hi)
  obtain ⟨y1, y2, _⟩ := OwnsF.open1 (E := elBool) rfl (show OwnsF elBool w 0 4 _ _ from hl) (k := i) (by rw [livesL_len]; exact hi)
  rw [show elInt.zero = 0 from rfl, gensL_at] at x1
  rw [show elBool.zero = false from rfl, livesL_at] at y1
  have q0 := cell_of_row w q 0 _ _ _ hq
  have q1 := cell_of_row w q 1 _ _ _ hq
  rw [gensL_len] at hq hg q0 q1
  rw [livesL_len] at hq hl q1
  simp at q0 q1
  exact ⟨b, c, b', c', hq, hg, hl, hG, (hvg b rfl).1, (hvl b' rfl).1, (hvg b rfl).2, (hvl b' rfl).2.1, fun e => (hvl b' rfl).2.2 (by rw [e]; rfl), hlt, q0, q1, x1, y1, x2, y2⟩

theorem Owns.stored1 {α : Type} {E : El α} (hE : E.size = 1) {w : World} {T : TypeId} {g n cap : Nat} {xs : List α} (h : Owns E w T (.slice (some ⟨g, 0, none⟩) n cap) xs) (k : Nat) (x : α) (u : Value)
    (hk : k < xs.length) (hx : E.enc x = (E.enc (xs.getD k E.zero)).set 0 u) : Owns E (w.setCell ⟨g, k, none⟩ u) T (.slice (some ⟨g, 0, none⟩) n cap) (xs.set k x) := by
  have := h.stored k 0 x u hk (by omega) hx
  rwa [hE, Nat.mul_one, Nat.add_zero] at this

/-- The flag, then the generation of slot i are written. -/
theorem refAt_store {w : World} {q g c g' c' i : Nat} {T : TypeId} {rest : List Value} {G : Nat → Prop} {l : List (Int × Bool)} {x : Int × Bool}
    (hq : w.heap[q]? = some (.cells (.slice (some ⟨g, 0, none⟩) l.length c :: .slice (some ⟨g', 0, none⟩) l.length c' :: rest).toArray T (0, 0)))
    (hg : Owns elInt w 3 (.slice (some ⟨g, 0, none⟩) l.length c) (gensL l)) (hl : Owns elBool w 4 (.slice (some ⟨g', 0, none⟩) l.length c') (livesL l))
    (hG : G q) (hGg : G g) (hGg' : G g') (n1 : g ≠ q) (n2 : g' ≠ q) (n3 : g ≠ g') (hlt : ∀ k, G k → k < w.heap.size) (hi : i < l.length) :
    RefAt ((w.setCell ⟨g', i, none⟩ (.bool x.2)).setCell ⟨g, i, none⟩ (.int .i64 x.1)) q T rest G (l.set i x) ∧ Kept G w ((w.setCell ⟨g', i, none⟩ (.bool x.2)).setCell ⟨g, i, none⟩ (.int .i64 x.1)) := by
  have k1 : Kept (fun k => k = g') w (w.setCell ⟨g', i, none⟩ (.bool x.2)) := Kept.setCell (F := fun k => k = g') w (p := ⟨g', i, none⟩) rfl _
  have k2 : Kept (fun k => k = g) (w.setCell ⟨g', i, none⟩ (.bool x.2)) ((w.setCell ⟨g', i, none⟩ (.bool x.2)).setCell ⟨g, i, none⟩ (.int .i64 x.1)) := Kept.setCell (F := fun k => k = g) _ (p := ⟨g, i, none⟩) rfl _
  refine ⟨⟨.slice (some ⟨g, 0, none⟩) l.length c, .slice (some ⟨g', 0, none⟩) l.length c', ?_, ?_, ?_, hG, ?_, ?_, fun k hk => by simpa using hlt k hk⟩, ?_⟩
  · rw [heap_setCell_other _ _ _ _ (Ne.symm n1), heap_setCell_other _ _ _ _ (Ne.symm n2)]; exact hq
  · have h1 := hg.kept k1 (fun k hk => by simp [Value.ownBlock] at hk; subst hk; exact n3)
    rw [gensL_set]
    exact h1.stored1 rfl i x.1 _ (by rw [gensL_len]; exact hi) rfl
  · have h1 := hl.stored1 rfl i x.2 (.bool x.2) (by rw [livesL_len]; exact hi) rfl
    rw [livesL_set]
    exact h1.kept k2 (fun k hk => by simp [Value.ownBlock] at hk; subst hk; exact Ne.symm n3)
  · intro k hk; simp [Value.ownBlock] at hk; subst hk; exact ⟨hGg, n1⟩
  · intro k hk; simp [Value.ownBlock] at hk; subst hk; exact ⟨hGg', n2, by simp [Value.ownBlock]; exact n3⟩
  · exact (k1.mono (G := G) (fun k e => by rw [e]; exact .inl hGg')).trans (k2.mono (G := G) (fun k e => by rw [e]; exact .inl hGg)) (fun _ h => .inl h)

set_option maxHeartbeats 2000000 in
theorem refFree_any (q : Nat) (T : TypeId) (rest : List Value) (G : Nat → Prop) (l : List (Int × Bool)) (a b : Int) (w : World) (h : RefAt w q T rest G l) (ok : SlotOk l) :
    Calls Tryz.prog 52 #[.pointer (some ⟨q, 0, none⟩), .agg #[.int .i64 a, .int .i64 b]] w fun e w' => e = .returned (.int .i64 (freeE l a b)) ∧ RefAt w' q T rest G (freeL l a b) ∧ Kept G w w' := by
  have HS := Lib.hid (h.later (nb_alloc (Below.refl _ _) (.cells #[.int .i64 a, .int .i64 b] 28)))
  have HS0 := Lib.hid h
  have HOK := Lib.hid ok
  clear h
  cases hl : liveB l a b
  · have HE := Lib.hid (freeE_dead hl)
    have HL := Lib.hid (freeL_dead hl)
    clear ok
    go_enter Tryz.func52, Tryz.ntmps52
    go_wp2_with fail
    refine (refIs_any q T rest G l a b _ HS.out HOK.out).mono ?_
    rintro e w' ⟨rfl, hb'⟩
    rw [hl]
    have HB := Lib.hid (nb_trans (nb_alloc (Below.refl _ _) _) hb')
    clear hb'
    go_wp2
    go_ret
    exact ⟨ret_int HE.out.symm, by rw [HL.out]; exact HS0.out.later HB.out, Kept.ofBelow HB.out⟩
  · have HE := Lib.hid (freeE_live hl)
    have HL := Lib.hid (freeL_live hl)
    obtain ⟨h0, h1, h2⟩ := liveB_iff.1 hl
    obtain ⟨i, rfl⟩ := Int.eq_ofNat_of_zero_le h0
    have hil : i < l.length := by omega
    rw [Int.toNat_natCast] at HL h2
    have hg0 := ok.gen i hil
    rw [h2] at hg0
    obtain ⟨b0, b1⟩ := hg0
    simp only at b0 b1
    have hl60 := ok.len
    have H2 := Lib.hid h2
    clear h2 h0 h1 ok
    go_enter Tryz.func52, Tryz.ntmps52
    go_wp2_with fail
    refine (refIs_any q T rest G l i b _ HS.out HOK.out).mono ?_
    rintro e w' ⟨rfl, hb'⟩
    rw [hl]
    obtain ⟨g, c, g', c', hq, hg, hl', hG, hGg, hGg', n1, n2, n3, hlt, q0, q1, x0, x1, f0, f1⟩ := (HS.out.later hb').open hil
    rw [H2.out] at x0 x1
    have k0 : w'.cell? ⟨w.heap.size, 0, none⟩ = some (.int .i64 i) := by rw [hb'.cell (p := ⟨w.heap.size, 0, none⟩) (by simp)]; simp
    have k1 : w'.cell? ⟨w.heap.size, 1, none⟩ = some (.int .i64 b) := by rw [hb'.cell (p := ⟨w.heap.size, 1, none⟩) (by simp)]; simp
    have HB := Lib.hid (nb_trans (nb_alloc (Below.refl _ _) _) hb')
    clear hb'
    have HD := Lib.hid (refAt_store (x := (b + 1, false)) hq hg hl' hG hGg hGg' n1 n2 n3 hlt hil)
    clear hq hg hl' hlt
    have hg'w : g' < w.heap.size := HS0.out.lt g' hGg'
    have m1 : ¬ g' = w.heap.size := by omega
    have m2 : ¬ w.heap.size = g' := by omega
    have m3 : ¬ g' = q := n2
    have m4 : ¬ g' = g := Ne.symm n3
    have hwr : IntKind.i64.wrap (b + 1) = b + 1 := IntWalk.i64_in _ (by omega)
    go_wp2_with fail
    go_still_tail 7, (by kernel_rfl)
    change wpList _ _ _ _ _ w'.drew
    go_wp2_with fail
    have hk3 : Kept (fun k => k = g') w' (w'.setCell ⟨g', i, none⟩ (.bool false)).drew := (Kept.setCell (F := fun k => k = g') w' (p := ⟨g', i, none⟩) rfl _).trans (Kept.drew _ _) (fun _ h => .inl h)
    have q0' := hk3.cellS (p := ⟨q, 0, none⟩) q0 (fun e => n2 e.symm)
    have k0' := hk3.cellS (p := ⟨w.heap.size, 0, none⟩) k0 m2
    have x0' := hk3.cellS (p := ⟨g, i, none⟩) x0 n3
    have f0' : (w'.setCell ⟨g', i, none⟩ (.bool false)).drew.frozen? ⟨g, i, none⟩ = false := by
      rw [World.frozen?_of_block (w := w') (hk3.block g (World.block_lt_of_cell? _ _ x0) n3)]; exact f0
    have HD3 : Hid (RefAt ((w'.setCell ⟨g', i, none⟩ (.bool false)).drew.setCell ⟨g, i, none⟩ (.int .i64 (b + 1))) q T rest G (l.set i (b + 1, false)) ∧ Kept G w' ((w'.setCell ⟨g', i, none⟩ (.bool false)).drew.setCell ⟨g, i, none⟩ (.int .i64 (b + 1)))) := Lib.hid (by
      rw [show (w'.setCell ⟨g', i, none⟩ (.bool false)).drew.setCell ⟨g, i, none⟩ (.int .i64 (b + 1)) = ((w'.setCell ⟨g', i, none⟩ (.bool false)).setCell ⟨g, i, none⟩ (.int .i64 (b + 1))).drew from rfl]
      exact ⟨HD.out.1.drew, HD.out.2.trans (Kept.drew G _) (fun _ h => .inl h)⟩)
    clear hk3 HD q0 k0 x0 f0 q1 x1 f1 k1
    generalize (w'.setCell ⟨g', i, none⟩ (.bool false)).drew = w3 at *
    go_still_tail 10, (by kernel_rfl)
    clear hwr
    change wpList _ _ _ _ _ w3.drew
    have HD4 : Hid (RefAt (w3.drew.setCell ⟨g, i, none⟩ (.int .i64 (b + 1))) q T rest G (l.set i (b + 1, false)) ∧ Kept G w' (w3.drew.setCell ⟨g, i, none⟩ (.int .i64 (b + 1)))) := Lib.hid (by
      rw [show w3.drew.setCell ⟨g, i, none⟩ (.int .i64 (b + 1)) = (w3.setCell ⟨g, i, none⟩ (.int .i64 (b + 1))).drew from rfl]
      exact ⟨HD3.out.1.drew, HD3.out.2.trans (Kept.drew G _) (fun _ h => .inl h)⟩)
    clear HD3
    have HD := HD4
    go_wp2
    go_ret
    obtain ⟨hs, hk⟩ := HD.out
    exact ⟨ret_int HE.out.symm, by rw [HL.out]; exact hs, (Kept.ofBelow HB.out).trans hk (fun _ h => .inl h)⟩
end Go.Proofs.YtlclceiebnnpgaaGreat

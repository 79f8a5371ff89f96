/- The contracts of All and Gens of package slots. -/
import Derived.Test.YtdaefadapkkgjaaSlotTake
import Derived.Test.YtdaefadapkkgjaaLists
namespace Go.Proofs.Ytdaefadapkkgjaa
open Go.RowKit

theorem infoHand : (Try.prog.info? 31).map (fun i => (i.zero, i.size, i.bytes)) = some (some (.agg #[.int .i64 0, .int .i64 0]), 2, 16) := by kernel_rfl

set_option maxHeartbeats 2000000 in
theorem all_any (p : Nat) (F : Nat → Prop) (l : List (Int × Bool)) (w : World) (h : SlotsAt w p F l) (ok : SlotOk l) :
    Calls Try.prog 14 #[.pointer (some ⟨p, 0, none⟩)] w fun e w' => ∃ v, e = .returned v ∧ OwnsF elHand w' w.heap.size 31 v (allL l) ∧ Below w.heap.size w w' := by
  obtain ⟨i0, hi, hz0, hz1, hz2⟩ := info_parts infoHand
  have hlen := ok.len
  obtain ⟨v, hp, ho, hF, hv, hlt⟩ := h
  have cp : w.cell? ⟨p, 0, none⟩ = some v := by rw [cell_of_row _ _ _ _ _ _ hp]; rfl
  have hpl := hlt p hF
  obtain ⟨hm, hop⟩ := ho.reads.open
  clear ok hp ho hv hlt hF
  have HAL : Hid (allL l = allTo l l.length) := Lib.hid rfl
  generalize hn : l.length = n at *
  clear hn
  rcases hop with ⟨a, cap, rfl, hz⟩ | ⟨b, off, cap, rfl, hb, hlc, hcm, hc⟩
  all_goals
    go_enter Try.func14, Try.ntmps14
    go_wp2_with (first | (at_make; refine wpList_make_own _ rfl _ _ 22 rfl w.heap.size 31 i0 (.agg #[.int .i64 0, .int .i64 0]) 2 Try.underlying22 hi hz0 hz1 .i64 .i64 _ n rfl rfl rfl ?c1 ?c2 ?c3 ?_))
    case c1 => rw [hz2]; omega
    case c2 => unfold maxLen; omega
    case c3 => exact Nat.le_refl _
    intro w1 hown hgr
    have hb1 : Below w.heap.size w w1 := (Below.refl _ _).grown hgr (Nat.le_refl _) (fun k hk => by cases hk)
    clear hgr
    have cp1 : w1.cell? ⟨p, 0, none⟩ = w.cell? ⟨p, 0, none⟩ := hb1.cell (p := ⟨p, 0, none⟩) hpl
    rw [cp] at cp1
    have HO := Lib.hid hown
    have HB1 := Lib.hid hb1
    clear hown hb1
    go_wp2
    go_loopw [3, 17] (fun v i wr => ∃ k : Nat, k ≤ n ∧ i = .int .i64 k ∧ Hid (OwnsF elHand wr w.heap.size 31 v (allTo l k)) ∧ Hid (Below w.heap.size w wr)) (fun _ i _ => n - (intOf i).toNat)
    case atStart => exact ⟨0, by omega, rfl, HO.out, HB1.out⟩
    case round =>
      obtain ⟨k, hk, rfl, hO, hB⟩ := hrel
      by_cases hltk : k < n
      · first
          | omega
          | (obtain ⟨c0, c1⟩ := cells2 rfl hc hltk
             clear hc
             have c0' : wr.cell? ⟨b, off + k * 2, none⟩ = some (.int .i64 (l.getD k slotZ).1) := by rw [hB.out.cell (p := ⟨b, _, none⟩) hb, c0]; rfl
             have c1' : wr.cell? ⟨b, off + k * 2 + 1, none⟩ = some (.bool (l.getD k slotZ).2) := by rw [hB.out.cell (p := ⟨b, _, none⟩) hb, c1]; rfl
             clear c0 c1
             have HK := Lib.hid (show allTo l (k + 1) = if (l.getD k slotZ).2 then allTo l k ++ [((k : Int), (l.getD k slotZ).1)] else allTo l k from rfl)
             have HL := Lib.hid (allTo_len l k)
             generalize allTo l k = L at *
             generalize l.getD k slotZ = x at *
             obtain ⟨x1, x2⟩ := x
             have hbw : b < wr.heap.size := Nat.lt_of_lt_of_le hb hB.out.size
             cases x2
             · rw [if_neg (by simp)] at HK
               go_wp2
               go_roundw
               case rel => exact ⟨k + 1, by omega, by go_num, by rw [HK.out]; exact hO.out.later (nb_alloc (Below.refl _ _) _), nb_alloc hB.out _⟩
               case measure => simp [intOf]; omega
             · rw [if_pos rfl] at HK
               go_wp2_with (first | (at_builtin; refine wpList_append_own _ rfl _ _ 22 rfl w.heap.size 31 i0 (.agg #[.int .i64 0, .int .i64 0]) 2 16 Try.underlying22 hi hz0 hz1 hz2 rfl (by decide) _ _ _ rfl (World.ownsRow.alloc (World.ownsRow.alloc hO.out _) _) ⟨wr.heap.size + 1, 0, none⟩ 1 1 [.int .i64 (k : Int), .int .i64 x1] rfl rfl ?d1 ?d2 ?d3 ?d4 ?d5 ?_))
               case d2 => exact ⟨rfl, rfl⟩
               case d3 => have := HL.out; unfold maxLen; omega
               case d4 => have := HL.out; omega
               case d5 => have := hB.out.size; simp; omega
               intro v' w2 hown hgr _
               have HO2 : Hid (OwnsF elHand w2 w.heap.size 31 v' (L ++ [((k : Int), x1)])) := Lib.hid (OwnsF.snoc hown)
               have HB2 : Hid (Below w.heap.size w w2) := Lib.hid ((nb_alloc (nb_alloc hB.out _) _).grown hgr (by have := hB.out.size; simp; omega) (fun j hj => hO.out.ge hj))
               clear hown hgr
               go_wp2
               go_roundw
               case rel => exact ⟨k + 1, by omega, by go_num, by rw [HK.out]; exact HO2, HB2⟩
               case measure => simp [intOf]; omega)
      · obtain rfl : k = n := by omega
        go_wp2
        go_ret
        exact ⟨_, rfl, by rw [HAL.out]; exact hO.out, hB.out⟩

theorem flatMap_int (xs : List Int) : xs.flatMap elInt.enc = xs.map (Value.int .i64) := by
  induction xs with
  | nil => rfl
  | cons x xs ih => rw [List.flatMap_cons, ih]; rfl
theorem Ints.ofReads {w : World} {v : Value} {xs : List Int} (h : Reads elInt w v xs) : Ints w v xs := by
  obtain ⟨a, cap, rfl, hl, hm, h⟩ := h
  refine ⟨a, cap, rfl, hl, hm, fun k hk => ?_⟩
  obtain ⟨b, off, e, hb, hc⟩ := h k hk
  have := hc 0 (by decide)
  simp [elInt] at this
  exact ⟨b, off, e, hb, by simpa using this⟩
/-- A cell of an own slice of elements of one cell. -/
theorem OwnsF.open1 {α : Type} {E : El α} (hE : E.size = 1) {w : World} {B : Nat} {T : TypeId} {g n cap : Nat} {xs : List α} (h : OwnsF E w B T (.slice (some ⟨g, 0, none⟩) n cap) xs) {k : Nat} (hk : k < xs.length) :
    w.cell? ⟨g, k, none⟩ = (E.enc (xs.getD k E.zero))[0]? ∧ w.frozen? ⟨g, k, none⟩ = false ∧ g < w.heap.size := by
  have h' := h.owns
  rcases h'.form with ⟨e, _⟩ | ⟨g', cap', cur, e, hh, hg, hn, hcap, hsz⟩
  · cases e
  · simp only [Value.slice.injEq, Option.some.injEq, Addr.mk.injEq, and_true] at e
    obtain ⟨rfl, rfl, rfl⟩ := e
    have h0 := enc_at E xs k 0 hk (by omega)
    rw [hE] at h0
    have c := World.ownsRow.cellAt h' k (by rw [hE]; omega)
    refine ⟨by rw [c, ← h0]; simp, frozen_of_row _ _ _ _ _ hh, hg⟩

theorem OwnsF.stored1 {α : Type} {E : El α} (hE : E.size = 1) {w : World} {B : Nat} {T : TypeId} {g n cap : Nat} {xs : List α} (h : OwnsF E w B T (.slice (some ⟨g, 0, none⟩) n cap) xs) (k : Nat) (x : α) (u : Value)
    (hk : k < xs.length) (hx : E.enc x = (E.enc (xs.getD k E.zero)).set 0 u) : OwnsF E (w.setCell ⟨g, k, none⟩ u) B T (.slice (some ⟨g, 0, none⟩) n cap) (xs.set k x) := by
  have := h.stored k 0 x u hk (by omega) hx
  rwa [hE, Nat.mul_one, Nat.add_zero] at this

/-- the generations of the first k, zeros behind -/
def gensTo (l : List (Int × Bool)) (k : Nat) : List Int := (gensL (l.take k)) ++ List.replicate (l.length - k) 0
theorem gensTo_len (l : List (Int × Bool)) (k : Nat) (h : k ≤ l.length) : (gensTo l k).length = l.length := by simp [gensTo, gensL]; omega
theorem gensTo_zero (l : List (Int × Bool)) : gensTo l 0 = List.replicate l.length 0 := by simp [gensTo, gensL]
theorem gensTo_end (l : List (Int × Bool)) : gensTo l l.length = gensL l := by simp [gensTo]
theorem gensTo_next (l : List (Int × Bool)) (k : Nat) (h : k < l.length) : (gensTo l k).set k (l.getD k slotZ).1 = gensTo l (k + 1) := by
  apply List.ext_getElem?
  intro j
  simp only [gensTo, gensL]
  by_cases e : k = j
  · subst e
    rw [List.getElem?_set_self (by simp; omega), List.getElem?_append_left (by simp; omega)]
    simp [List.getElem?_map, List.getD_eq_getElem?_getD, List.getElem?_eq_getElem h]
  · rw [List.getElem?_set_ne e]
    rcases Nat.lt_or_ge j k with hj | hj
    · rw [List.getElem?_append_left (by simp; omega), List.getElem?_append_left (by simp; omega)]
      simp [List.getElem?_map, hj, show j < k + 1 by omega]
    · rw [List.getElem?_append_right (by simp; omega), List.getElem?_append_right (by simp; omega)]
      simp only [List.length_map, List.length_take, List.getElem?_replicate]
      rw [Nat.min_eq_left (by omega), Nat.min_eq_left (by omega)]
      split <;> split <;> first | rfl | omega

set_option maxHeartbeats 2000000 in
theorem gens_any (p : Nat) (F : Nat → Prop) (l : List (Int × Bool)) (w : World) (h : SlotsAt w p F l) (ok : SlotOk l) :
    Calls Try.prog 17 #[.pointer (some ⟨p, 0, none⟩)] w fun e w' => ∃ v, e = .returned v ∧ OwnsF elInt w' w.heap.size 3 v (gensL l) ∧ Below w.heap.size w w' := by
  obtain ⟨i0, hi, hz0, hz1, hz2⟩ := info_parts infoInt
  have hlen := ok.len
  obtain ⟨v, hp, ho, hF, hv, hlt⟩ := h
  have cp : w.cell? ⟨p, 0, none⟩ = some v := by rw [cell_of_row _ _ _ _ _ _ hp]; rfl
  have hpl := hlt p hF
  obtain ⟨hm, hop⟩ := ho.reads.open
  clear ok hp ho hv hlt hF
  have HEND := Lib.hid (gensTo_end l)
  have HZ := Lib.hid (gensTo_zero l)
  have HLEN := Lib.hid (gensTo_len l)
  have HNX := Lib.hid (gensTo_next l)
  generalize hn : l.length = n at *
  clear hn
  rcases hop with ⟨a, cap, rfl, hz⟩ | ⟨b, off, cap, rfl, hb, hlc, hcm, hc⟩
  all_goals
    go_enter Try.func17, Try.ntmps17
    go_wp2_with (first | (at_make; refine wpList_make_full _ rfl _ _ 27 rfl w.heap.size 3 i0 (.int .i64 0) 1 Try.underlying27 hi hz0 hz1 .i64 .i64 _ _ n rfl rfl rfl rfl ?c1 ?c2 ?c3 ?_))
    case c1 => rw [hz2]; omega
    case c2 => unfold maxLen; omega
    case c3 => exact Nat.le_refl _
    intro w1 hown hgr
    have hb1 : Below w.heap.size w w1 := (Below.refl _ _).grown hgr (Nat.le_refl _) (fun k hk => by cases hk)
    clear hgr
    have cp1 : w1.cell? ⟨p, 0, none⟩ = w.cell? ⟨p, 0, none⟩ := hb1.cell (p := ⟨p, 0, none⟩) hpl
    rw [cp] at cp1
    have HO : Hid (OwnsF elInt w1 w.heap.size 3 (.slice (some ⟨w.heap.size, 0, none⟩) n n) (gensTo l 0)) := Lib.hid (by
      unfold OwnsF; rw [HZ.out, List.length_replicate, flatMap_int, List.map_replicate, ← toList_madeCells_one, ← Nat.mul_one n]
      rw [Nat.mul_one]; exact hown)
    have HB1 := Lib.hid hb1
    clear hown hb1
    go_wp2
    go_loopw [17] (fun i wr => ∃ k : Nat, k ≤ n ∧ i = .int .i64 k ∧ Hid (OwnsF elInt wr w.heap.size 3 (.slice (some ⟨w.heap.size, 0, none⟩) n n) (gensTo l k)) ∧ Hid (Below w.heap.size w wr)) (fun i _ => n - (intOf i).toNat)
    case atStart => exact ⟨0, by omega, rfl, HO.out, HB1.out⟩
    case round =>
      obtain ⟨k, hk, rfl, hO, hB⟩ := hrel
      by_cases hltk : k < n
      · first
          | omega
          | (obtain ⟨c0, c1⟩ := cells2 rfl hc hltk
             clear hc
             have c0' : wr.cell? ⟨b, off + k * 2, none⟩ = some (.int .i64 (l.getD k slotZ).1) := by rw [hB.out.cell (p := ⟨b, _, none⟩) hb, c0]; rfl
             have c1' : wr.cell? ⟨b, off + k * 2 + 1, none⟩ = some (.bool (l.getD k slotZ).2) := by rw [hB.out.cell (p := ⟨b, _, none⟩) hb, c1]; rfl
             clear c0 c1
             have hln := HLEN.out k hk
             obtain ⟨hcg, hfg, hwr⟩ := hO.out.open1 rfl (k := k) (by omega)
             have HNXK := Lib.hid (HNX.out k hltk)
             have HST := Lib.hid (fun (W : World) (hW : OwnsF elInt W w.heap.size 3 (.slice (some ⟨w.heap.size, 0, none⟩) n n) (gensTo l k)) (z : Int) => hW.stored1 rfl k z (.int .i64 z) (by omega) rfl)
             have HLN := Lib.hid hln
             clear hln
             have hbw : b < wr.heap.size := Nat.lt_of_lt_of_le hb hB.out.size
             generalize l.getD k slotZ = x at *
             obtain ⟨x1, x2⟩ := x
             go_wp2
             go_roundw
             case rel => exact ⟨k + 1, by omega, by go_num, by rw [← HNXK.out]; exact (HST.out _ hO.out x1).later (nb_alloc (Below.refl _ _) _), nb_alloc (hB.out.setCell (p := ⟨w.heap.size, _, none⟩) (Nat.le_refl _) _) _⟩
             case measure => simp [intOf]; omega)
      · obtain rfl : k = n := by omega
        go_wp2
        go_ret
        exact ⟨_, rfl, by rw [← HEND.out]; exact hO.out, hB.out⟩
end Go.Proofs.Ytdaefadapkkgjaa

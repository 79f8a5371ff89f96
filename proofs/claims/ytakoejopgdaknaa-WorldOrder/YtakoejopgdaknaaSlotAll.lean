/- The contracts of All and Gens of package slots. -/
import Derived.Test.YtakoejopgdaknaaSlotTake
import Derived.Test.YtakoejopgdaknaaLists
namespace Go.Proofs.Ytakoejopgdaknaa
set_option maxRecDepth 8000
open Go.RowKit
variable {T : TypeId} {rest : List Value}


/-- the generations of the first k, zeros behind -/
def gensTo (l : List (Int × Bool)) (k : Nat) : List Int := (gensL (l.take k)) ++ List.replicate (l.length - k) 0
theorem gensTo_len (l : List (Int × Bool)) (k : Nat) (h : k ≤ l.length) : (gensTo l k).length = l.length := by simp [gensTo, gensL]; omega
theorem gensTo_zero (l : List (Int × Bool)) : gensTo l 0 = List.replicate l.length 0 := by simp [gensTo, gensL]
theorem gensTo_end (l : List (Int × Bool)) : gensTo l l.length = gensL l := by simp [gensTo]
theorem gensTo_next (l : List (Int × Bool)) (k : Nat) (h : k < l.length) : (gensTo l k).set k (l.getD k slotZ).1 = gensTo l (k + 1) := by
  apply List.ext_getElem?
  intro j
  simp only [gensTo, gensL]
  by_cases e : k = j
  · subst e
    rw [List.getElem?_set_self (by simp; omega), List.getElem?_append_left (by simp; omega)]
    simp [List.getElem?_map, List.getD_eq_getElem?_getD, List.getElem?_eq_getElem h]
  · rw [List.getElem?_set_ne e]
    rcases Nat.lt_or_ge j k with hj | hj
    · rw [List.getElem?_append_left (by simp; omega), List.getElem?_append_left (by simp; omega)]
      simp [List.getElem?_map, hj, show j < k + 1 by omega]
    · rw [List.getElem?_append_right (by simp; omega), List.getElem?_append_right (by simp; omega)]
      simp only [List.length_map, List.length_take, List.getElem?_replicate]
      rw [Nat.min_eq_left (by omega), Nat.min_eq_left (by omega)]
      split <;> split <;> first | rfl | omega

set_option maxHeartbeats 2000000 in
theorem gens_any (p : Nat) (F : Nat → Prop) (l : List (Int × Bool)) (w : World) (h : SlotsIn w p T rest F l) (ok : SlotOk l) :
    Calls Try.prog 36 #[.pointer (some ⟨p, 0, none⟩)] w fun e w' => ∃ v, e = .returned v ∧ OwnsF elInt w' w.heap.size 3 v (gensL l) ∧ Below w.heap.size w w' := by
  obtain ⟨i0, hi, hz0, hz1, hz2⟩ := info_parts infoInt
  have hlen := ok.len
  obtain ⟨v, hp, ho, hF, hv, hlt⟩ := h
  have cp : w.cell? ⟨p, 0, none⟩ = some v := by rw [cell_of_row _ _ _ _ _ _ hp]; simp
  have hpl := hlt p hF
  obtain ⟨hm, hop⟩ := ho.reads.open
  clear ok hp ho hv hlt hF
  have HEND := Lib.hid (gensTo_end l)
  have HZ := Lib.hid (gensTo_zero l)
  have HLEN := Lib.hid (gensTo_len l)
  have HNX := Lib.hid (gensTo_next l)
  generalize hn : l.length = n at *
  clear hn
  rcases hop with ⟨a, cap, rfl, hz⟩ | ⟨b, off, cap, rfl, hb, hlc, hcm, hc⟩
  all_goals
    go_enter Try.func36, Try.ntmps36
    go_wp2_with (first | (at_make; refine wpList_make_full _ rfl _ _ 26 rfl w.heap.size 3 i0 (.int .i64 0) 1 Try.underlying26 hi hz0 hz1 .i64 .i64 _ _ n rfl rfl rfl rfl ?c1 ?c2 ?c3 ?_))
    case c1 => rw [hz2]; omega
    case c2 => unfold maxLen; omega
    case c3 => exact Nat.le_refl _
    intro w1 hown hgr
    have hb1 : Below w.heap.size w w1 := (Below.refl _ _).grown hgr (Nat.le_refl _) (fun k hk => by cases hk)
    clear hgr
    have cp1 : w1.cell? ⟨p, 0, none⟩ = w.cell? ⟨p, 0, none⟩ := hb1.cell (p := ⟨p, 0, none⟩) hpl
    rw [cp] at cp1
    have HO : Hid (OwnsF elInt w1 w.heap.size 3 (.slice (some ⟨w.heap.size, 0, none⟩) n n) (gensTo l 0)) := Lib.hid (by
      unfold OwnsF; rw [HZ.out, List.length_replicate, flatMap_int, List.map_replicate, ← toList_madeCells_one, ← Nat.mul_one n]
      rw [Nat.mul_one]; exact hown)
    have HB1 := Lib.hid hb1
    clear hown hb1
    go_wp2
    go_loopw [17] (fun i wr => ∃ k : Nat, k ≤ n ∧ i = .int .i64 k ∧ Hid (OwnsF elInt wr w.heap.size 3 (.slice (some ⟨w.heap.size, 0, none⟩) n n) (gensTo l k)) ∧ Hid (Below w.heap.size w wr)) (fun i _ => n - (intOf i).toNat)
    case atStart => exact ⟨0, by omega, rfl, HO.out, HB1.out⟩
    case round =>
      obtain ⟨k, hk, rfl, hO, hB⟩ := hrel
      by_cases hltk : k < n
      · first
          | omega
          | (obtain ⟨c0, c1⟩ := cells2 rfl hc hltk
             clear hc
             have c0' : wr.cell? ⟨b, off + k * 2, none⟩ = some (.int .i64 (l.getD k slotZ).1) := by rw [hB.out.cell (p := ⟨b, _, none⟩) hb, c0]; rfl
             have c1' : wr.cell? ⟨b, off + k * 2 + 1, none⟩ = some (.bool (l.getD k slotZ).2) := by rw [hB.out.cell (p := ⟨b, _, none⟩) hb, c1]; rfl
             clear c0 c1
             have hln := HLEN.out k hk
             obtain ⟨hcg, hfg, hwr⟩ := hO.out.open1 rfl (k := k) (by omega)
             have HNXK := Lib.hid (HNX.out k hltk)
             have HST := Lib.hid (fun (W : World) (hW : OwnsF elInt W w.heap.size 3 (.slice (some ⟨w.heap.size, 0, none⟩) n n) (gensTo l k)) (z : Int) => hW.stored1 rfl k z (.int .i64 z) (by omega) rfl)
             have HLN := Lib.hid hln
             clear hln
             have hbw : b < wr.heap.size := Nat.lt_of_lt_of_le hb hB.out.size
             generalize l.getD k slotZ = x at *
             obtain ⟨x1, x2⟩ := x
             go_wp2
             go_roundw
             case rel => exact ⟨k + 1, by omega, by go_num, by rw [← HNXK.out]; exact (HST.out _ hO.out x1).later (nb_alloc (Below.refl _ _) _), nb_alloc (hB.out.setCell (p := ⟨w.heap.size, _, none⟩) (Nat.le_refl _) _) _⟩
             case measure => simp [intOf]; omega)
      · obtain rfl : k = n := by omega
        go_wp2
        go_ret
        exact ⟨_, rfl, by rw [← HEND.out]; exact hO.out, hB.out⟩
end Go.Proofs.Ytakoejopgdaknaa

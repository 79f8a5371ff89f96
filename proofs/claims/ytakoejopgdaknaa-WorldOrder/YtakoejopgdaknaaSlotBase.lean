/- Slots in memory: the object of package slots; the contracts of New, isSlot, IndexFunc with Take's literal, Live, Free, Take. -/
import Derived.Test.YtakoejopgdaknaaSlotModel
import Derived.Test.YtakoejopgdaknaaEls
import Derived.Test.YtakoejopgdaknaaLater
namespace Go.Proofs.Ytakoejopgdaknaa
set_option maxRecDepth 8000
open Go.RowKit

def elSlot : El (Int × Bool) := { enc := fun x => [.int .i64 x.1, .bool x.2], size := 2, zero := slotZ, len := fun _ => rfl, pos := by decide, one := fun x u hu => by simp at hu; rcases hu with rfl | rfl <;> rfl }

/-- At the head of block p lie slots l, in the blocks F (behind them: rest). -/
def SlotsIn (w : World) (p : Nat) (T : TypeId) (rest : List Value) (F : Nat → Prop) (l : List (Int × Bool)) : Prop :=
  ∃ v, w.heap[p]? = some (.cells (v :: rest).toArray T (0, 0)) ∧ Owns elSlot w 111 v l ∧ F p ∧ (∀ k, v.ownBlock = some k → F k ∧ k ≠ p) ∧ (∀ k, F k → k < w.heap.size)
/-- Slots in a block of their own. -/
abbrev SlotsAt (w : World) (p : Nat) (F : Nat → Prop) (l : List (Int × Bool)) : Prop := SlotsIn w p 76 [] F l

variable {T : TypeId} {rest : List Value}
theorem SlotsIn.kept {w w' : World} {p : Nat} {F G : Nat → Prop} {l : List (Int × Bool)} (h : SlotsIn w p T rest F l) (hk : Kept G w w') (hf : ∀ k, F k → ¬ G k) : SlotsIn w' p T rest F l := by
  obtain ⟨v, hp, ho, hF, hv, hlt⟩ := h
  refine ⟨v, ?_, ho.kept hk (fun k e => hf k (hv k e).1), hF, hv, fun k hk' => Nat.lt_of_lt_of_le (hlt k hk') hk.size⟩
  rw [hk.block p (hlt p hF) (hf p hF)]; exact hp
theorem SlotsIn.later {w w' : World} {p : Nat} {F : Nat → Prop} {l : List (Int × Bool)} (h : SlotsIn w p T rest F l) (hb : Below w.heap.size w w') : SlotsIn w' p T rest F l :=
  h.kept (G := fun _ => False) (Kept.ofBelow hb) (fun _ _ f => f)
theorem SlotsIn.lt {w : World} {p : Nat} {F : Nat → Prop} {l : List (Int × Bool)} (h : SlotsIn w p T rest F l) : ∀ k, F k → k < w.heap.size := by
  obtain ⟨v, hp, ho, hF, hv, hlt⟩ := h; exact hlt

set_option maxHeartbeats 400000 in
theorem isSlot_any (v : Value) (l : List (Int × Bool)) (i : Int) (w : World) (h : Reads elSlot w v l) :
    Calls Try.prog 83 #[v, .int .i64 i] w fun e w' => e = .returned (.bool (inB i 0 (l.length - 1))) ∧ w = w' := by
  obtain ⟨a, cap, rfl, _, _, _⟩ := h
  go_enter Try.func83, Try.ntmps83
  go_wp2
  all_goals (go_ret; refine ⟨ret_bool (Bool.eq_iff_iff.2 ?_), rfl⟩; simp [inB]; try omega)

set_option maxHeartbeats 400000 in
theorem takeLit_any (x : Int × Bool) (w : World) :
    Calls Try.prog 78 #[.agg #[.int .i64 x.1, .bool x.2]] w fun e w' => e = .returned (.bool (freeB x)) ∧ Below w.heap.size w w' := by
  obtain ⟨g, b⟩ := x
  cases b
  all_goals
    go_enter Try.func78, Try.ntmps78
    go_wp2
    all_goals (go_ret; exact ⟨ret_bool (by simp [freeB, *]), nb_alloc (Below.refl _ _) _⟩)

/-- what IndexFunc answers -/
def ffI (l : List (Int × Bool)) : Int := if firstFree l < l.length then (firstFree l : Int) else -1

set_option maxHeartbeats 1000000 in
theorem indexFunc_any (v : Value) (l : List (Int × Bool)) (w : World) (h : Reads elSlot w v l) :
    Calls Try.prog 77 #[v, .func (.func 78) #[] #[]] w fun e w' => e = .returned (.int .i64 (ffI l)) ∧ Below w.heap.size w w' := by
  obtain ⟨hm, h⟩ := h.open
  unfold maxLen at hm
  generalize hn : l.length = n at *
  have HN := Lib.hid hn
  clear hn
  rcases h with ⟨a, cap, rfl, hz⟩ | ⟨b, off, cap, rfl, hb, hlc, hcm, hc⟩
  all_goals
    go_enter Try.func77, Try.ntmps77
    go_wp2
    go_loopw [8] (fun i wr => ∃ k : Nat, k ≤ n ∧ i = .int .i64 k ∧ Hid (∀ j, j < k → freeB (l.getD j slotZ) = false) ∧ Hid (Below w.heap.size w wr)) (fun i _ => n - (intOf i).toNat)
    case atStart => exact ⟨0, by omega, rfl, fun j hj => by omega, Below.refl _ _⟩
    case round =>
      obtain ⟨k, hk, rfl, hno, hB⟩ := hrel
      by_cases hlt : k < n
      · first
          | omega
          | (obtain ⟨c0, c1⟩ := cells2 rfl hc hlt
             clear hc
             have c0' : wr.cell? ⟨b, off + k * 2, none⟩ = some (.int .i64 (l.getD k slotZ).1) := by rw [hB.out.cell (p := ⟨b, _, none⟩) hb, c0]; rfl
             have c1' : wr.cell? ⟨b, off + k * 2 + 1, none⟩ = some (.bool (l.getD k slotZ).2) := by rw [hB.out.cell (p := ⟨b, _, none⟩) hb, c1]; rfl
             clear c0 c1
             have HF : Hid (freeB (l.getD k slotZ) = true → ffI l = k) := Lib.hid (fun hf => by
               have e := firstFree_eq (by rw [HN.out]; exact hlt) hno.out hf
               rw [ffI, e, if_pos (by rw [HN.out]; exact hlt)])
             generalize hg : l.getD k slotZ = x at *
             have HX := Lib.hid hg
             clear hg
             cases hf : freeB x
             · go_wp2_with fail

               refine (takeLit_any x _).mono ?_
               rintro e w' ⟨rfl, hb'⟩
               rw [hf]
               have HB := Lib.hid (nb_trans hB.out hb')
               clear hb' hB
               go_wp2
               go_roundw
               case rel => exact ⟨k + 1, by omega, by go_num, fun j hj => if e : j = k then by rw [e, HX.out]; exact hf else hno.out j (by omega), HB⟩
               case measure => simp [intOf]; omega
             · go_wp2_with fail
               refine (takeLit_any x _).mono ?_
               rintro e w' ⟨rfl, hb'⟩
               rw [hf]
               have HB := Lib.hid (nb_trans hB.out hb')
               clear hb' hB
               go_wp2
               go_ret
               exact ⟨ret_int (HF.out hf).symm, HB.out⟩)
      · obtain rfl : k = n := by omega
        go_wp2
        go_ret
        exact ⟨ret_int (by rw [ffI, firstFree_none (by rw [HN.out]; exact hno.out), if_neg (by omega)]), hB.out⟩
end Go.Proofs.Ytakoejopgdaknaa

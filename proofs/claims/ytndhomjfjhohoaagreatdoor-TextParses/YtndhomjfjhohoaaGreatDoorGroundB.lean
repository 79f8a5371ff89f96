
/- Contracts and plain facts, several texts in one. -/
import Derived.StillTailTactics
import Derived.IntWalk
import Derived.Test.YtndhomjfjhohoaaGreatDoorGroundA
/- Slots in memory: the object of package slots; the contracts of New, isSlot, IndexFunc with Take's literal, Live, Free, Take. -/
namespace Go.Proofs.YtndhomjfjhohoaaGreatDoor
set_option maxRecDepth 8000
open Go.RowKit

def elSlot : El (Int × Bool) := { enc := fun x => [.int .i64 x.1, .bool x.2], size := 2, zero := slotZ, len := fun _ => rfl, pos := by decide, one := fun x u hu => by simp at hu; rcases hu with rfl | rfl <;> rfl }

/-- At the head of block p lie slots l, in the blocks F (behind them: rest). -/
def SlotsIn (w : World) (p : Nat) (T : TypeId) (rest : List Value) (F : Nat → Prop) (l : List (Int × Bool)) : Prop :=
  ∃ v, w.heap[p]? = some (.cells (v :: rest).toArray T (0, 0)) ∧ Owns elSlot w 201 v l ∧ F p ∧ (∀ k, v.ownBlock = some k → F k ∧ k ≠ p) ∧ (∀ k, F k → k < w.heap.size)
/-- Slots in a block of their own. -/
abbrev SlotsAt (w : World) (p : Nat) (F : Nat → Prop) (l : List (Int × Bool)) : Prop := SlotsIn w p 115 [] F l

variable {T : TypeId} {rest : List Value}
theorem SlotsIn.kept {w w' : World} {p : Nat} {F G : Nat → Prop} {l : List (Int × Bool)} (h : SlotsIn w p T rest F l) (hk : Kept G w w') (hf : ∀ k, F k → ¬ G k) : SlotsIn w' p T rest F l := by
  obtain ⟨v, hp, ho, hF, hv, hlt⟩ := h
  refine ⟨v, ?_, ho.kept hk (fun k e => hf k (hv k e).1), hF, hv, fun k hk' => Nat.lt_of_lt_of_le (hlt k hk') hk.size⟩
  rw [hk.block p (hlt p hF) (hf p hF)]; exact hp
theorem SlotsIn.later {w w' : World} {p : Nat} {F : Nat → Prop} {l : List (Int × Bool)} (h : SlotsIn w p T rest F l) (hb : Below w.heap.size w w') : SlotsIn w' p T rest F l :=
  h.kept (G := fun _ => False) (Kept.ofBelow hb) (fun _ _ f => f)
theorem SlotsIn.lt {w : World} {p : Nat} {F : Nat → Prop} {l : List (Int × Bool)} (h : SlotsIn w p T rest F l) : ∀ k, F k → k < w.heap.size := by
  obtain ⟨v, hp, ho, hF, hv, hlt⟩ := h; exact hlt

set_option maxHeartbeats 400000 in
theorem isSlot_any (v : Value) (l : List (Int × Bool)) (i : Int) (w : World) (h : Reads elSlot w v l) :
    Calls Tryz.prog 131 #[v, .int .i64 i] w fun e w' => e = .returned (.bool (inB i 0 (l.length - 1))) ∧ w = w' := by
  obtain ⟨a, cap, rfl, _, _, _⟩ := h
  go_enter Tryz.func131, Tryz.ntmps131
  go_wp2
  all_goals (go_ret; refine ⟨ret_bool (Bool.eq_iff_iff.2 ?_), rfl⟩; simp [inB]; try omega)

end Go.Proofs.YtndhomjfjhohoaaGreatDoor

/- The contracts of Live and Free of package slots. -/
namespace Go.Proofs.YtndhomjfjhohoaaGreatDoor
set_option maxRecDepth 8000
open Go.RowKit
variable {T : TypeId} {rest : List Value}

theorem Calls.laterSame {P : Program} {f : FuncId} {args : Array Value} {w : World} {n : Later w} {v : Value}
    (h : Calls P f args n.w fun e w' => e = .returned v ∧ n.w = w') : Calls P f args n.w fun e w'' => e = .returned v ∧ ∃ m : Later w, w'' = m.w :=
  h.mono fun _ _ ⟨he, hb⟩ => ⟨he, n, hb.symm⟩

theorem isSlot_is {v : Value} {l : List (Int × Bool)} {i : Int} {r : Bool} {w : World} (h : Reads elSlot w v l) (hr : inB i 0 (l.length - 1) = r) :
    Calls Tryz.prog 131 #[v, .int .i64 i] w fun e w' => e = .returned (.bool r) ∧ w = w' := hr ▸ isSlot_any v l i w h

theorem liveB_in {l : List (Int × Bool)} {a b : Int} (h : inB a 0 (l.length - 1) = false) : liveB l a b = false := by rw [liveB, h]; rfl
theorem liveB_at {l : List (Int × Bool)} {b : Int} {i : Nat} (h : inB (i : Int) 0 (l.length - 1) = true) : liveB l i b = ((l.getD i slotZ).1 == b && (l.getD i slotZ).2) := by rw [liveB, h]; rfl

set_option maxHeartbeats 1000000 in
theorem live_any (p : Nat) (F : Nat → Prop) (l : List (Int × Bool)) (a b : Int) (w : World) (h : SlotsIn w p T rest F l) :
    Calls Tryz.prog 88 #[.pointer (some ⟨p, 0, none⟩), .agg #[.int .i64 a, .int .i64 b]] w fun e w' => e = .returned (.bool (liveB l a b)) ∧ Below w.heap.size w w' := by
  have hp0 : p < w.heap.size := by obtain ⟨v, hp, ho, hF, hv, hlt⟩ := h; exact hlt p hF
  obtain ⟨v, hp, ho, hF, hv, hlt⟩ := h.later (nb_alloc (Below.refl _ _) (.cells #[.int .i64 a, .int .i64 b] 49))
  have hR := Lib.hid ho.reads
  have cp : (w.alloc (.cells #[.int .i64 a, .int .i64 b] 49)).cell? ⟨p, 0, none⟩ = some v := by rw [cell_of_row _ _ _ _ _ _ hp]; simp
  have kp : ∀ x : Later (w.alloc (.cells #[.int .i64 a, .int .i64 b] 49)), x.w.cell? ⟨p, 0, none⟩ = some v := fun x => x.cell cp
  have k0 : ∀ x : Later (w.alloc (.cells #[.int .i64 a, .int .i64 b] 49)), x.w.cell? ⟨w.heap.size, 0, none⟩ = some (.int .i64 a) := fun x => x.cell (by simp)
  have k1 : ∀ x : Later (w.alloc (.cells #[.int .i64 a, .int .i64 b] 49)), x.w.cell? ⟨w.heap.size, 1, none⟩ = some (.int .i64 b) := fun x => x.cell (by simp)
  clear hp hF hv hlt
  cases hin : inB a 0 (l.length - 1)
  · have HR := Lib.hid (liveB_in (b := b) hin)
    clear cp
    go_enter Tryz.func88, Tryz.ntmps88
    go_wp2_with fail
    refine wp_region_later (by kernel_rfl) (by kernel_rfl) ?_
    repeat (go_big_quiet_step ((first | (go_at_call 131; exact Calls.laterSame (isSlot_is (hR.out.later (Later.below _)) hin)))))
    refine wpQuiet_nil ?_
    rintro _ ⟨nq, rfl⟩
    go_wp2
    go_ret
    exact ⟨ret_bool HR.out.symm, nb_trans (nb_alloc (Below.refl _ _) _) nq.below⟩
  · obtain ⟨i, rfl⟩ := Int.eq_ofNat_of_zero_le (inB_t hin).1
    have hil : i < l.length := by have := (inB_t hin).2; omega
    have HR := Lib.hid (liveB_at (b := b) hin)
    obtain ⟨hm, ⟨_, _, rfl, hz⟩ | ⟨g, off, cap, rfl, hb, hlc, hcm, hc⟩⟩ := hR.out.open
    · omega
    · obtain ⟨c0, c1⟩ := cells2 rfl hc hil
      clear hc cp
      have c0' : ∀ x : Later (w.alloc (.cells #[.int .i64 i, .int .i64 b] 49)), x.w.cell? ⟨g, off + i * 2, none⟩ = some (.int .i64 (l.getD i slotZ).1) := fun x => x.cell c0
      have c1' : ∀ x : Later (w.alloc (.cells #[.int .i64 i, .int .i64 b] 49)), x.w.cell? ⟨g, off + i * 2 + 1, none⟩ = some (.bool (l.getD i slotZ).2) := fun x => x.cell c1
      clear c0 c1
      generalize hn : l.length = n at *
      have HN := Lib.hid hn
      clear hn
      have hin' : inB (i : Int) 0 (l.length - 1) = true := by rw [HN.out]; exact hin
      have HI := Lib.hid hin'
      clear hin hin'
      unfold maxLen at hm
      generalize hg : l.getD i slotZ = x at *
      obtain ⟨x1, x2⟩ := x
      cases x2 <;> cases hx : (x1 == b)
      all_goals
        go_enter Tryz.func88, Tryz.ntmps88
        go_wp2_with fail
        refine wp_region_later (by kernel_rfl) (by kernel_rfl) ?_
        repeat (go_big_quiet_step ((first | (go_at_call 131; exact Calls.laterSame (isSlot_is (hR.out.later (Later.below _)) HI.out)))))

        refine wpQuiet_nil ?_
        rintro _ ⟨nq, rfl⟩
        go_wp2
        go_ret
        exact ⟨ret_bool (by rw [HR.out]; simp [hx]), nb_trans (nb_alloc (Below.refl _ _) _) nq.below⟩
end Go.Proofs.YtndhomjfjhohoaaGreatDoor

/- The contract of Free of package slots. -/
namespace Go.Proofs.YtndhomjfjhohoaaGreatDoor
set_option maxRecDepth 8000
open Go.RowKit
variable {T : TypeId} {rest : List Value}


end Go.Proofs.YtndhomjfjhohoaaGreatDoor

/- The contract of Take of package slots. -/
namespace Go.Proofs.YtndhomjfjhohoaaGreatDoor
set_option maxRecDepth 8000
open Go.RowKit
variable {T : TypeId} {rest : List Value}

theorem infoSlot : (Tryz.prog.info? 201).map (fun i => (i.zero, i.size, i.bytes)) = some (some (.agg #[.int .i64 0, .bool false]), 2, 16) := by kernel_rfl

end Go.Proofs.YtndhomjfjhohoaaGreatDoor

/- The contracts of All and Gens of package slots. -/
namespace Go.Proofs.YtndhomjfjhohoaaGreatDoor
set_option maxRecDepth 8000
open Go.RowKit
variable {T : TypeId} {rest : List Value}


/-- the generations of the first k, zeros behind -/
def gensTo (l : List (Int × Bool)) (k : Nat) : List Int := (gensL (l.take k)) ++ List.replicate (l.length - k) 0
theorem gensTo_len (l : List (Int × Bool)) (k : Nat) (h : k ≤ l.length) : (gensTo l k).length = l.length := by simp [gensTo, gensL]; omega
theorem gensTo_zero (l : List (Int × Bool)) : gensTo l 0 = List.replicate l.length 0 := by simp [gensTo, gensL]
theorem gensTo_end (l : List (Int × Bool)) : gensTo l l.length = gensL l := by simp [gensTo]
theorem gensTo_next (l : List (Int × Bool)) (k : Nat) (h : k < l.length) : (gensTo l k).set k (l.getD k slotZ).1 = gensTo l (k + 1) := by
  apply List.ext_getElem?
  intro j
  simp only [gensTo, gensL]
  by_cases e : k = j
  · subst e
    rw [List.getElem?_set_self (by simp; omega), List.getElem?_append_left (by simp; omega)]
    simp [List.getElem?_map, List.getD_eq_getElem?_getD, List.getElem?_eq_getElem h]
  · rw [List.getElem?_set_ne e]
    rcases Nat.lt_or_ge j k with hj | hj
    · rw [List.getElem?_append_left (by simp; omega), List.getElem?_append_left (by simp; omega)]
      simp [List.getElem?_map, hj, show j < k + 1 by omega]
    · rw [List.getElem?_append_right (by simp; omega), List.getElem?_append_right (by simp; omega)]
      simp only [List.length_map, List.length_take, List.getElem?_replicate]
      rw [Nat.min_eq_left (by omega), Nat.min_eq_left (by omega)]
      split <;> split <;> first | rfl | omega

end Go.Proofs.YtndhomjfjhohoaaGreatDoor

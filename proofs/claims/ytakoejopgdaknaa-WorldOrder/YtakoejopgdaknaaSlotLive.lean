/- The contracts of Live and Free of package slots. -/
import Derived.Test.YtakoejopgdaknaaSlotBase
namespace Go.Proofs.Ytakoejopgdaknaa
set_option maxRecDepth 8000
open Go.RowKit
variable {T : TypeId} {rest : List Value}

theorem Later.cellB {w : World} (x : Later w) {b o : Nat} {v : Value} (h : w.cell? ⟨b, o, none⟩ = some v) : x.w.cell? ⟨b, o, none⟩ = some v := x.cell h
theorem Calls.laterSame {P : Program} {f : FuncId} {args : Array Value} {w : World} {n : Later w} {v : Value}
    (h : Calls P f args n.w fun e w' => e = .returned v ∧ n.w = w') : Calls P f args n.w fun e w'' => e = .returned v ∧ ∃ m : Later w, w'' = m.w :=
  h.mono fun _ _ ⟨he, hb⟩ => ⟨he, n, hb.symm⟩

theorem isSlot_is {v : Value} {l : List (Int × Bool)} {i : Int} {r : Bool} {w : World} (h : Reads elSlot w v l) (hr : inB i 0 (l.length - 1) = r) :
    Calls Try.prog 83 #[v, .int .i64 i] w fun e w' => e = .returned (.bool r) ∧ w = w' := hr ▸ isSlot_any v l i w h

theorem liveB_in {l : List (Int × Bool)} {a b : Int} (h : inB a 0 (l.length - 1) = false) : liveB l a b = false := by rw [liveB, h]; rfl
theorem liveB_at {l : List (Int × Bool)} {b : Int} {i : Nat} (h : inB (i : Int) 0 (l.length - 1) = true) : liveB l i b = ((l.getD i slotZ).1 == b && (l.getD i slotZ).2) := by rw [liveB, h]; rfl

set_option maxHeartbeats 1000000 in
theorem live_any (p : Nat) (F : Nat → Prop) (l : List (Int × Bool)) (a b : Int) (w : World) (h : SlotsIn w p T rest F l) :
    Calls Try.prog 59 #[.pointer (some ⟨p, 0, none⟩), .agg #[.int .i64 a, .int .i64 b]] w fun e w' => e = .returned (.bool (liveB l a b)) ∧ Below w.heap.size w w' := by
  have hp0 : p < w.heap.size := by obtain ⟨v, hp, ho, hF, hv, hlt⟩ := h; exact hlt p hF
  obtain ⟨v, hp, ho, hF, hv, hlt⟩ := h.later (nb_alloc (Below.refl _ _) (.cells #[.int .i64 a, .int .i64 b] 38))
  have hR := Lib.hid ho.reads
  have cp : (w.alloc (.cells #[.int .i64 a, .int .i64 b] 38)).cell? ⟨p, 0, none⟩ = some v := by rw [cell_of_row _ _ _ _ _ _ hp]; simp
  have kp : ∀ x : Later (w.alloc (.cells #[.int .i64 a, .int .i64 b] 38)), x.w.cell? ⟨p, 0, none⟩ = some v := fun x => x.cell cp
  have k0 : ∀ x : Later (w.alloc (.cells #[.int .i64 a, .int .i64 b] 38)), x.w.cell? ⟨w.heap.size, 0, none⟩ = some (.int .i64 a) := fun x => x.cell (by simp)
  have k1 : ∀ x : Later (w.alloc (.cells #[.int .i64 a, .int .i64 b] 38)), x.w.cell? ⟨w.heap.size, 1, none⟩ = some (.int .i64 b) := fun x => x.cell (by simp)
  clear hp hF hv hlt
  cases hin : inB a 0 (l.length - 1)
  · have HR := Lib.hid (liveB_in (b := b) hin)
    clear cp
    go_enter Try.func59, Try.ntmps59
    go_wp2_with fail
    refine wp_region_later (by kernel_rfl) (by kernel_rfl) ?_
    repeat (go_big_quiet_step ((first | (go_at_call 83; exact Calls.laterSame (isSlot_is (hR.out.later (Later.below _)) hin)))))
    refine wpQuiet_nil ?_
    rintro _ ⟨nq, rfl⟩
    go_wp2
    go_ret
    exact ⟨ret_bool HR.out.symm, nb_trans (nb_alloc (Below.refl _ _) _) nq.below⟩
  · obtain ⟨i, rfl⟩ := Int.eq_ofNat_of_zero_le (inB_t hin).1
    have hil : i < l.length := by have := (inB_t hin).2; omega
    have HR := Lib.hid (liveB_at (b := b) hin)
    obtain ⟨hm, ⟨_, _, rfl, hz⟩ | ⟨g, off, cap, rfl, hb, hlc, hcm, hc⟩⟩ := hR.out.open
    · omega
    · obtain ⟨c0, c1⟩ := cells2 rfl hc hil
      clear hc cp
      have c0' : ∀ x : Later (w.alloc (.cells #[.int .i64 i, .int .i64 b] 38)), x.w.cell? ⟨g, off + i * 2, none⟩ = some (.int .i64 (l.getD i slotZ).1) := fun x => x.cell c0
      have c1' : ∀ x : Later (w.alloc (.cells #[.int .i64 i, .int .i64 b] 38)), x.w.cell? ⟨g, off + i * 2 + 1, none⟩ = some (.bool (l.getD i slotZ).2) := fun x => x.cell c1
      clear c0 c1
      generalize hn : l.length = n at *
      have HN := Lib.hid hn
      clear hn
      have hin' : inB (i : Int) 0 (l.length - 1) = true := by rw [HN.out]; exact hin
      have HI := Lib.hid hin'
      clear hin hin'
      unfold maxLen at hm
      generalize hg : l.getD i slotZ = x at *
      obtain ⟨x1, x2⟩ := x
      cases x2 <;> cases hx : (x1 == b)
      all_goals
        go_enter Try.func59, Try.ntmps59
        go_wp2_with fail
        refine wp_region_later (by kernel_rfl) (by kernel_rfl) ?_
        repeat (go_big_quiet_step ((first | (go_at_call 83; exact Calls.laterSame (isSlot_is (hR.out.later (Later.below _)) HI.out)))))

        refine wpQuiet_nil ?_
        rintro _ ⟨nq, rfl⟩
        go_wp2
        go_ret
        exact ⟨ret_bool (by rw [HR.out]; simp [hx]), nb_trans (nb_alloc (Below.refl _ _) _) nq.below⟩
end Go.Proofs.Ytakoejopgdaknaa

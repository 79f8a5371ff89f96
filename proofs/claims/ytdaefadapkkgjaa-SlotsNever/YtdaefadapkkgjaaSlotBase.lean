/- Slots in memory: the object of package slots; the contracts of New, isSlot, IndexFunc with Take's literal, Live, Free, Take. -/
import Derived.Test.YtdaefadapkkgjaaSlotModel
import Derived.Test.YtdaefadapkkgjaaLater
namespace Go.Proofs.Ytdaefadapkkgjaa
open Go.RowKit

def elSlot : El (Int × Bool) := { enc := fun x => [.int .i64 x.1, .bool x.2], size := 2, zero := slotZ, len := fun _ => rfl, pos := by decide, one := fun x u hu => by simp at hu; rcases hu with rfl | rfl <;> rfl }
def elHand : El (Int × Int) := { enc := fun x => [.int .i64 x.1, .int .i64 x.2], size := 2, zero := (0, 0), len := fun _ => rfl, pos := by decide, one := fun x u hu => by simp at hu; rcases hu with rfl | rfl <;> rfl }
def elInt : El Int := { enc := fun x => [.int .i64 x], size := 1, zero := 0, len := fun _ => rfl, pos := by decide, one := fun x u hu => by simp at hu; subst hu; rfl }
def elBool : El Bool := { enc := fun x => [.bool x], size := 1, zero := false, len := fun _ => rfl, pos := by decide, one := fun x u hu => by simp at hu; subst hu; rfl }

/-- At block p lie slots l, in the blocks F. -/
def SlotsAt (w : World) (p : Nat) (F : Nat → Prop) (l : List (Int × Bool)) : Prop :=
  ∃ v, w.heap[p]? = some (.cells #[v] 53 (0, 0)) ∧ Owns elSlot w 56 v l ∧ F p ∧ (∀ k, v.ownBlock = some k → F k ∧ k ≠ p) ∧ (∀ k, F k → k < w.heap.size)

theorem SlotsAt.kept {w w' : World} {p : Nat} {F G : Nat → Prop} {l : List (Int × Bool)} (h : SlotsAt w p F l) (hk : Kept G w w') (hf : ∀ k, F k → ¬ G k) : SlotsAt w' p F l := by
  obtain ⟨v, hp, ho, hF, hv, hlt⟩ := h
  refine ⟨v, ?_, ho.kept hk (fun k e => hf k (hv k e).1), hF, hv, fun k hk' => Nat.lt_of_lt_of_le (hlt k hk') hk.size⟩
  rw [hk.block p (hlt p hF) (hf p hF)]; exact hp
theorem SlotsAt.later {w w' : World} {p : Nat} {F : Nat → Prop} {l : List (Int × Bool)} (h : SlotsAt w p F l) (hb : Below w.heap.size w w') : SlotsAt w' p F l :=
  h.kept (G := fun _ => False) (Kept.ofBelow hb) (fun _ _ f => f)
theorem SlotsAt.lt {w : World} {p : Nat} {F : Nat → Prop} {l : List (Int × Bool)} (h : SlotsAt w p F l) : ∀ k, F k → k < w.heap.size := by
  obtain ⟨v, hp, ho, hF, hv, hlt⟩ := h; exact hlt

/-- The cells of slice elements of two cells, in the walk's own spelling. -/
theorem cells2 {α : Type} {E : El α} (hE : E.size = 2) {w : World} {b off n : Nat} {xs : List α} (h : ∀ k, k < n → ∀ j, j < E.size → w.cell? ⟨b, off + k * E.size + j, none⟩ = (E.enc (xs.getD k E.zero))[j]?) {k : Nat} (hk : k < n) :
    w.cell? ⟨b, off + k * 2, none⟩ = (E.enc (xs.getD k E.zero))[0]? ∧ w.cell? ⟨b, off + k * 2 + 1, none⟩ = (E.enc (xs.getD k E.zero))[1]? := by
  have h0 := h k hk 0 (by omega)
  have h1 := h k hk 1 (by omega)
  rw [hE] at h0 h1
  exact ⟨h0, h1⟩

set_option maxHeartbeats 400000 in
theorem slotsNew_any (w : World) :
    Calls Try.prog 8 #[] w fun e w' => e = .returned (.pointer (some ⟨w.heap.size, 0, none⟩)) ∧ w.alloc (.cells #[.slice none 0 0] 53) = w' := by
  go_enter Try.func8, Try.ntmps8
  go_wp2
  go_ret
  exact ⟨rfl, rfl⟩

set_option maxHeartbeats 400000 in
theorem isSlot_any (v : Value) (l : List (Int × Bool)) (i : Int) (w : World) (h : Reads elSlot w v l) :
    Calls Try.prog 26 #[v, .int .i64 i] w fun e w' => e = .returned (.bool (inB i 0 (l.length - 1))) ∧ w = w' := by
  obtain ⟨a, cap, rfl, _, _, _⟩ := h
  go_enter Try.func26, Try.ntmps26
  go_wp2
  all_goals (go_ret; refine ⟨ret_bool (Bool.eq_iff_iff.2 ?_), rfl⟩; simp [inB]; try omega)

set_option maxHeartbeats 400000 in
theorem takeLit_any (x : Int × Bool) (w : World) :
    Calls Try.prog 25 #[.agg #[.int .i64 x.1, .bool x.2]] w fun e w' => e = .returned (.bool (freeB x)) ∧ Below w.heap.size w w' := by
  obtain ⟨g, b⟩ := x
  cases b
  all_goals
    go_enter Try.func25, Try.ntmps25
    go_wp2
    all_goals (go_ret; exact ⟨ret_bool (by simp [freeB, *]), nb_alloc (Below.refl _ _) _⟩)

/-- what IndexFunc answers -/
def ffI (l : List (Int × Bool)) : Int := if firstFree l < l.length then (firstFree l : Int) else -1

set_option maxHeartbeats 1000000 in
theorem indexFunc_any (v : Value) (l : List (Int × Bool)) (w : World) (h : Reads elSlot w v l) :
    Calls Try.prog 24 #[v, .func (.func 25) #[] #[]] w fun e w' => e = .returned (.int .i64 (ffI l)) ∧ Below w.heap.size w w' := by
  obtain ⟨hm, h⟩ := h.open
  unfold maxLen at hm
  generalize hn : l.length = n at *
  have HN := Lib.hid hn
  clear hn
  rcases h with ⟨a, cap, rfl, hz⟩ | ⟨b, off, cap, rfl, hb, hlc, hcm, hc⟩
  all_goals
    go_enter Try.func24, Try.ntmps24
    go_wp2
    go_loopw [8] (fun i wr => ∃ k : Nat, k ≤ n ∧ i = .int .i64 k ∧ Hid (∀ j, j < k → freeB (l.getD j slotZ) = false) ∧ Hid (Below w.heap.size w wr)) (fun i _ => n - (intOf i).toNat)
    case atStart => exact ⟨0, by omega, rfl, fun j hj => by omega, Below.refl _ _⟩
    case round =>
      obtain ⟨k, hk, rfl, hno, hB⟩ := hrel
      by_cases hlt : k < n
      · first
          | omega
          | (obtain ⟨c0, c1⟩ := cells2 rfl hc hlt
             clear hc
             have c0' : wr.cell? ⟨b, off + k * 2, none⟩ = some (.int .i64 (l.getD k slotZ).1) := by rw [hB.out.cell (p := ⟨b, _, none⟩) hb, c0]; rfl
             have c1' : wr.cell? ⟨b, off + k * 2 + 1, none⟩ = some (.bool (l.getD k slotZ).2) := by rw [hB.out.cell (p := ⟨b, _, none⟩) hb, c1]; rfl
             clear c0 c1
             have HF : Hid (freeB (l.getD k slotZ) = true → ffI l = k) := Lib.hid (fun hf => by
               have e := firstFree_eq (by rw [HN.out]; exact hlt) hno.out hf
               rw [ffI, e, if_pos (by rw [HN.out]; exact hlt)])
             generalize hg : l.getD k slotZ = x at *
             have HX := Lib.hid hg
             clear hg
             cases hf : freeB x
             · go_wp2_with fail

               refine (takeLit_any x _).mono ?_
               rintro e w' ⟨rfl, hb'⟩
               rw [hf]
               have HB := Lib.hid (nb_trans hB.out hb')
               clear hb' hB
               go_wp2
               go_roundw
               case rel => exact ⟨k + 1, by omega, by go_num, fun j hj => if e : j = k then by rw [e, HX.out]; exact hf else hno.out j (by omega), HB⟩
               case measure => simp [intOf]; omega
             · go_wp2_with fail
               refine (takeLit_any x _).mono ?_
               rintro e w' ⟨rfl, hb'⟩
               rw [hf]
               have HB := Lib.hid (nb_trans hB.out hb')
               clear hb' hB
               go_wp2
               go_ret
               exact ⟨ret_int (HF.out hf).symm, HB.out⟩)
      · obtain rfl : k = n := by omega
        go_wp2
        go_ret
        exact ⟨ret_int (by rw [ffI, firstFree_none (by rw [HN.out]; exact hno.out), if_neg (by omega)]), hB.out⟩
end Go.Proofs.Ytdaefadapkkgjaa

/- differed of the keeping laws: a closed fact of Between. -/
import Derived.Test.YtnmlapoiilckhaaDoorDiffBet
import Derived.Test.YtnmlapoiilckhaaDoorDiffApply
import Derived.Test.YtnmlapoiilckhaaDoorDiffEq
namespace Go.Proofs.YtnmlapoiilckhaaDoor
set_option maxRecDepth 8000
open Go.RowKit

/-- rows in a block of their own -/
theorem Reads.oneRo {w : World} {b : Nat} {r : Ro} {T : TypeId} (h : w.heap[b]? = some (.cells (elRo.enc r).toArray T)) : Reads elRo w (.slice (some ⟨b, 0, none⟩) 1 1) [r] := by
  refine ⟨_, 1, rfl, Nat.le_refl _, by unfold maxLen; decide, fun k hk => ⟨b, 0, rfl, (Array.getElem?_eq_some_iff.1 h).1, fun j hj => ?_⟩⟩
  obtain rfl : k = 0 := by simp at hk; omega
  rw [cell_of_row _ _ _ _ _ _ h]
  simp
theorem Reads.oneCh {w : World} {b : Nat} {r : Ch} {T : TypeId} (h : w.heap[b]? = some (.cells (elCh.enc r).toArray T)) : Reads elCh w (.slice (some ⟨b, 0, none⟩) 1 1) [r] := by
  refine ⟨_, 1, rfl, Nat.le_refl _, by unfold maxLen; decide, fun k hk => ⟨b, 0, rfl, (Array.getElem?_eq_some_iff.1 h).1, fun j hj => ?_⟩⟩
  obtain rfl : k = 0 := by simp at hk; omega
  rw [cell_of_row _ _ _ _ _ _ h]
  simp
theorem Reads.nil {α : Type} (E : El α) (w : World) : Reads E w (.slice none 0 0) [] := ⟨none, 0, rfl, Nat.le_refl _, by unfold maxLen; decide, fun k hk => by simp at hk⟩
def chT : Ch := ((0, 0), (0, 0, 0, 0, 0, 0, 0, 0, 0), noB)
theorem told_bet : betE [roZ] [] = 0 ∧ betL [roZ] [] = [chT] := by
  have h1 : (valid [roZ] && valid []) = true := by kernel_rfl
  refine ⟨by rw [betE, h1]; rfl, ?_⟩
  rw [betL, h1, if_pos rfl, mrg, mrg]
  rfl
theorem told_no : betE [((-1, 0), (0, 0, 0, 0, 0, 0, 0, 0, 0))] [] = 4 := by kernel_rfl
theorem BetPost.slice {w : World} {a b : List Ro} {e : Ending} {w' : World} (h : BetPost w a b e w') : ∃ x c, e = .returned (.tuple #[.slice x (betL a b).length c, .int .i64 (betE a b)]) ∧ OwnsF elCh w' w.heap.size 36 (.slice x (betL a b).length c) (betL a b) ∧ Below w.heap.size w w' := by
  obtain ⟨x, he, ho, hb⟩ := h
  obtain ⟨a, c, e1, _⟩ := ho.reads
  exact ⟨a, c, by rw [he, e1], e1 ▸ ho, hb⟩
theorem AppPost.slice {w : World} {l : List Ro} {c : List Ch} {e : Ending} {w' : World} (h : AppPost w l c e w') : ∃ x k, e = .returned (.tuple #[.slice x (appR l c).length k, .int .i64 (appE l c)]) ∧ OwnsF elRo w' w.heap.size 33 (.slice x (appR l c).length k) (appR l c) ∧ Below w.heap.size w w' := by
  obtain ⟨x, he, ho, hb⟩ := h
  obtain ⟨a, c, e1, _⟩ := ho.reads
  exact ⟨a, c, by rw [he, e1], e1 ▸ ho, hb⟩
theorem betE_both {a b : List Ro} (h : (valid a && valid b) = true) : betE a b = 0 ∧ betL a b = mrg a b ∧ valid a = true ∧ valid b = true := by
  refine ⟨by rw [betE, h]; rfl, by rw [betL, h]; rfl, ?_⟩
  simpa using h
theorem betE_no {a b : List Ro} (h : (valid a && valid b) = false) : betE a b = 4 ∧ betL a b = [] := ⟨by rw [betE, h]; rfl, by rw [betL, h]; rfl⟩
theorem mrg_i64 {a b : List Ro} (ha : valid a = true) (hb : valid b = true) : ∀ x ∈ mrg a b, I64 x.1.1 ∧ I64 x.1.2 := fun x hx => by
  have key : ∀ {l : List Ro}, valid l = true → atB l x.1 ≠ noB → I64 x.1.1 ∧ I64 x.1.2 := fun hl hn => by
    obtain ⟨⟨h1, h2⟩, h3, h4⟩ := roOk_hd (valT_all hl _ (atB_some hn)).2
    dsimp only at h1 h2 h3 h4
    exact ⟨⟨by omega, by omega⟩, by omega, by omega⟩
  obtain ⟨a1, a2, a3⟩ := ((mrgS (valid_ups ha) (valid_ups hb)).2 x).1 hx
  by_cases e : atB a x.1 = noB
  · exact key hb (fun e2 => a3 (by rw [a1, a2, e, e2]))
  · exact key ha e
theorem inv_i64 {c : List Ch} (h : ∀ x ∈ c, I64 x.1.1 ∧ I64 x.1.2) : ∀ x ∈ invC c, I64 x.1.1 ∧ I64 x.1.2 := fun x hx => by
  obtain ⟨y, hy, rfl⟩ := List.mem_map.1 (List.mem_reverse.1 hx)
  exact h y hy
set_option maxHeartbeats 4000000 in
theorem differed_any (w : World) (hv : DVars w) : Calls Tryd.prog 16 #[] w fun e w' => e = .returned (.bool true) ∧ Below w.heap.size w w' := by
  have hX : Below w.heap.size w (w.alloc (.cells (elRo.enc roZ).toArray 33)) := nb_alloc (Below.refl _ _) _
  have hr : Reads elRo (w.alloc (.cells (elRo.enc roZ).toArray 33)) (.slice (some ⟨w.heap.size, 0, none⟩) 1 1) [roZ] := Reads.oneRo (heap_alloc_new _ _)
  have HX := Lib.hid hX
  have HBT := Lib.hid (between_any _ _ [roZ] [] _ hr (Reads.nil elRo _) (hv.later hX))
  clear hX hr hv
  go_enter Tryd.func16, Tryd.ntmps16
  go_wp2_with (go_at_call 9; refine HBT.out.mono ?_; rintro e w1 hp; obtain ⟨x, c, rfl, ho, hb⟩ := hp.slice; rw [told_bet.1, told_bet.2] at *; have HO := Lib.hid ho; have HB1 := Lib.hid (nb_trans HX.out hb); clear hp ho hb; refine Hid.out ?_)
  refine Lib.hid ?_
  have HQ := Lib.hid (eqChs_any _ _ [chT] [chT] (w1.alloc (.cells (elCh.enc chT).toArray 36)) (HO.out.later (nb_alloc (Below.refl _ _) _)).reads (Reads.oneCh (heap_alloc_new _ _)))
  rw [decide_eq_true (rfl : [chT] = [chT])] at HQ
  go_wp2_with (go_at_call 11; refine HQ.out.mono ?_; rintro e w2 ⟨rfl, hb2⟩)
  go_ret
  exact ⟨rfl, nb_trans (nb_alloc HB1.out _) hb2⟩
end Go.Proofs.YtnmlapoiilckhaaDoor

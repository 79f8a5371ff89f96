/- The contract of Apply of package diff. -/
import Derived.Test.YtcmpaohefihijabGreatDoorDiffRows
import Derived.Test.YtcmpaohefihijabGreatDoorDiffLaws
namespace Go.Proofs.YtcmpaohefihijabGreatDoor
open Go.RowKit Go.Maps Go.ChangeMaps Go.Shelf

theorem stepF_at {l : List Ro} {M : Hd → Be} (h : ∀ x, atB l x = M x) (c : Ch) : stepF M c = stepE l c := by unfold stepF stepE; rw [h]
theorem nextF_at {l : List Ro} {M : Hd → Be} (h : ∀ x, atB l x = M x) (hu : Ups l) (hs : Some' l) {c : Ch} (h0 : stepE l c = 0) (x : Hd) : atB (putH l c.1 c.2.2) x = nextF M c x := by
  have e : nextF M c = fun y => if y = c.1 then c.2.2 else M y := if_pos (by rw [stepF_at h]; exact h0)
  rw [e, atB_putH hu hs, h]
/-- where a loop over changes stands: the first k are done -/
structure AppI (l : List Ro) (c : List Ch) (k : Nat) (m : List Ro) : Prop where
  ups : Ups m
  some_ : Some' m
  run : runL l c = runL m (c.drop k)
theorem AppI.start {l : List Ro} (c : List Ch) (h : valid l = true) : AppI l c 0 l := ⟨valid_ups h, valid_some h, rfl⟩
theorem dropC {c : List Ch} {k : Nat} (h : k < c.length) : c.drop k = c.getD k chZ :: c.drop (k + 1) := by
  rw [List.drop_eq_getElem_cons h, List.getD_eq_getElem?_getD, List.getElem?_eq_getElem h]; rfl
theorem AppI.next {l m : List Ro} {c : List Ch} {k : Nat} (h : AppI l c k m) (hk : k < c.length) (h0 : stepE m (c.getD k chZ) = 0) : AppI l c (k + 1) (putH m (c.getD k chZ).1 (c.getD k chZ).2.2) :=
  ⟨putH_ups h.ups _ _, putH_some h.some_ _ _, by rw [h.run, dropC hk, run_cons h0]⟩
theorem AppI.stop {l m : List Ro} {c : List Ch} {k : Nat} (h : AppI l c k m) (hk : k < c.length) (h0 : stepE m (c.getD k chZ) ≠ 0) (hv : valid l = true) (hc : c.length ≤ 120) : appE l c = stepE m (c.getD k chZ) ∧ appR l c = [] := by
  have e : appE l c = stepE m (c.getD k chZ) := by
    rw [appE, if_pos hv, if_pos hc, h.run, dropC hk, run_stop h0, if_neg h0]
  exact ⟨e, by rw [appR, if_neg (by rw [e]; exact h0)]⟩
theorem AppI.done {l m : List Ro} {c : List Ch} {k : Nat} (h : AppI l c k m) (hk : c.length ≤ k) (hv : valid l = true) (hc : c.length ≤ 120) : appE l c = (if valid m = true then 0 else 4) ∧ appR l c = if valid m = true then m else [] := by
  have hr : runL l c = (0, m) := by rw [h.run, List.drop_of_length_le hk, runL]
  have e : appE l c = (if valid m = true then 0 else 4) := by rw [appE, if_pos hv, if_pos hc, hr, if_pos rfl]
  refine ⟨e, ?_⟩
  rw [appR, e, hr]
  split <;> simp
def AppPost (w : World) (l : List Ro) (c : List Ch) (e : Ending) (w' : World) : Prop := ∃ x, e = .returned (.tuple #[x, .int .i64 (appE l c)]) ∧ OwnsF elRo w' w.heap.size 39 x (appR l c) ∧ Below w.heap.size w w'
theorem AppPost.no {w w' : World} {l : List Ro} {c : List Ch} {z : Int} (h : appE l c = z) (h0 : z ≠ 0) (hb : Below w.heap.size w w') : AppPost w l c (.returned (.tuple #[.slice none 0 0, .int .i64 z])) w' := by
  refine ⟨_, by rw [h], ?_, hb⟩
  rw [appR, if_neg (by rw [h]; exact h0)]
  exact OwnsF.nil _ _ _ _
end Go.Proofs.YtcmpaohefihijabGreatDoor

/- The closed fact of package vivariumkeep: masked returns true. -/
import Derived.Test.YtfjlhiolfflnnaaLists
namespace Go.Proofs.Ytfjlhiolfflnnaa
open Go.RowKit

set_option maxHeartbeats 1000000 in
theorem keepMasked_any (w : World) :
    Calls Try.prog 24 #[] w fun e w' => e = .returned (.bool true) ∧ Below w.heap.size w w' := by
  go_enter Try.func24, Try.ntmps24
  go_wp2_with fail
  refine (of_any _ [0, 7] _ (Ints.two w 0 7 _)).mono ?_
  rintro e w' ⟨rfl, rfl⟩
  rw [show ofR [0, 7] = (129, 0) from by decide +kernel]
  go_wp2_with fail
  refine (list_any _ _).mono ?_
  rintro e w1 ⟨v1, rfl, ho1, hb1⟩
  have HI1 := Lib.hid (Ints.owns ho1)
  have HB1 := Lib.hid hb1
  clear ho1 hb1
  go_wp2_with fail
  refine (eqInt_any _ _ _ [1, 2] _ (HI1.out.later (nb_alloc (Below.refl _ _) _)) (Ints.two w1 1 2 _)).mono ?_
  rintro e w2 ⟨rfl, rfl⟩
  rw [show decide (kinds 6 = [1, 2]) = true from by decide +kernel]
  go_wp2_with fail
  refine (count_any _ _).mono ?_
  rintro e w2 ⟨rfl, rfl⟩
  rw [show cnt 6 = 2 from by decide +kernel]
  go_wp2
  go_ret
  exact ⟨rfl, nb_alloc (nb_trans (nb_alloc (Below.refl _ _) _) HB1.out) _⟩
end Go.Proofs.Ytfjlhiolfflnnaa

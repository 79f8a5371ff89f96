/- kept of the keeping laws: a small zoo by hand. -/
import Derived.Test.YtcmpaohefihijabGreatDoorPZooAll
import Derived.Test.YtcmpaohefihijabGreatDoorKeepZoo
import Derived.Test.YtcmpaohefihijabGreatDoorOfBlock
import Derived.Test.YtcmpaohefihijabGreatDoorGroundD
namespace Go.Proofs.YtcmpaohefihijabGreatDoor
set_option maxRecDepth 8000
set_option maxRecDepth 8000
open Go.RowKit

set_option maxHeartbeats 4000000 in
theorem kept_any (w : World) : Calls Tryz.prog 4 #[] w fun e w' => e = .returned (.bool true) ∧ Below w.heap.size w w' := by
  go_enter Tryz.func4, Tryz.ntmps4
  go_wp2_with fail
  refine (zooNew_any _).mono ?_
  rintro e w1 ⟨rfl, hw1⟩
  have HI0 : Hid (PzAt w1 w.heap.size (fun b => b = w.heap.size) zNil ∧ Below w.heap.size w w1) := Lib.hid (by rw [← hw1]; exact ⟨PzAt.new w, nb_alloc (Below.refl _ _) _⟩)
  clear hw1
  go_wp2_with fail
  obtain ⟨ka, kn, kz⟩ := kept_all
  have hops : ∀ o ∈ [opSp, opSp, opAd], OpOk o := by
    intro o ho
    simp only [List.mem_cons, List.not_mem_nil, or_false] at ho
    rcases ho with rfl | rfl | rfl
    all_goals exact ⟨⟨by decide, by decide⟩, ⟨by decide, by decide⟩, ⟨by decide, by decide⟩, ⟨by decide, by decide⟩⟩
  refine (zooAll_any w.heap.size _ zNil _ [opSp, opSp, opAd] _ (HI0.out.1.later (nb_alloc (Below.refl _ _) _)) ZOk.nil (Reads.ofBlock (E := elOp) (heap_alloc_new w1 _) (by decide)) hops).mono ?_
  rintro e w3 hp
  have HOK3 : Hid (ZOk (allZ zNil [opSp, opSp, opAd])) := Lib.hid (ZOk.nil.all _)
  have hp2 := hp.from (nb_alloc (Below.refl w1.heap.size w1) _)
  rw [ka, kn, kz] at hp2
  rw [kz] at HOK3
  clear hp hops ka kn kz
  obtain ⟨rfl, F3, hz3, hk3, hm3⟩ := hp2
  have HZ3 := Lib.hid hz3
  have HB3 : Hid (Below w.heap.size w w3) := Lib.hid (HI0.out.2.trans (hk3.below HI0.out.2.size (fun b e => by omega)))
  clear hz3 hk3 hm3
  go_wp2_with fail
  refine (zooParent_any w.heap.size F3 _ 1 0 0 0 true _ HZ3.out HOK3.out ⟨by decide, by decide⟩ ⟨by decide, by decide⟩ rfl rfl).mono ?_
  rintro e w4 ⟨rfl, hb4⟩
  have HB4 : Hid (Below w.heap.size w (w4.alloc (.cells #[.int .i64 0, .int .i64 0] 34))) := Lib.hid (nb_alloc (nb_trans HB3.out hb4) _)
  clear hb4
  go_wp2
  go_ret
  exact ⟨rfl, HB4.out⟩
end Go.Proofs.YtcmpaohefihijabGreatDoor

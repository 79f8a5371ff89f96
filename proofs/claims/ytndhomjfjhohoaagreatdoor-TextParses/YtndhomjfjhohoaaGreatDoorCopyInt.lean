
/- The contract of the reference's Copy of ints. -/
import Derived.Test.YtndhomjfjhohoaaGreatDoorGroundA
namespace Go.Proofs.YtndhomjfjhohoaaGreatDoor
set_option maxRecDepth 8000
open Go.RowKit

set_option maxHeartbeats 1000000 in
theorem copyInt_any (v : Value) (zs : List Int) (w : World) (h : Ints w v zs) (h60 : zs.length ≤ 1000000000000) :
    Calls Tryz.prog 143 #[v] w fun e w' => ∃ v', e = .returned v' ∧ OwnsF elInt w' w.heap.size 3 v' zs ∧ Below w.heap.size w w' := by
  obtain ⟨i0, hi, hz0, hz1, hz2⟩ := info_parts infoInt
  obtain ⟨hm, h⟩ := h.open
  rcases h with ⟨a, cap, rfl, hz⟩ | ⟨b, off, cap, rfl, hb, hlc, hcm, hc⟩
  · obtain rfl : zs = [] := List.length_eq_zero_iff.1 (by omega)
    cases a with
    | none =>
      go_enter Tryz.func143, Tryz.ntmps143
      go_wp2
      go_ret
      exact ⟨_, rfl, OwnsF.nil _ _ _ _, Below.refl _ _⟩
    | some ad =>
      go_enter Tryz.func143, Tryz.ntmps143
      go_wp2_with (first | (at_builtin; refine wpList_append_own _ rfl _ _ 22 rfl w.heap.size 3 i0 (.int .i64 0) 1 8 Tryz.underlying22 hi hz0 hz1 hz2 rfl (by decide) _ _ _ rfl (World.ownsRow_nil w w.heap.size 3 1) ad 0 cap [] rfl rfl (fun j u hu => by simp at hu) (fun u hu => by simp at hu) (by decide) (by decide) (Nat.le_refl _) ?_))
      intro v' w2 hown hgr _
      have HB2 : Hid (Below w.heap.size w w2) := Lib.hid ((Below.refl _ _).grown hgr (Nat.le_refl _) (fun j hj => by cases hj))
      have HO2 := Lib.hid hown
      clear hown hgr
      go_wp2
      go_ret
      exact ⟨_, rfl, HO2.out, HB2.out⟩
  · go_enter Tryz.func143, Tryz.ntmps143
    go_wp2_with (first | (at_builtin; refine wpList_append_own _ rfl _ _ 22 rfl w.heap.size 3 i0 (.int .i64 0) 1 8 Tryz.underlying22 hi hz0 hz1 hz2 rfl (by decide) _ _ _ rfl (World.ownsRow_nil w w.heap.size 3 1) ⟨b, off, none⟩ zs.length cap (zs.flatMap elInt.enc) rfl (length_enc elInt zs) ?c1 ?c2 ?c3 ?c4 (Nat.le_refl _) ?_))
    case c1 =>
      intro j u hu
      rw [flatMap_int, List.getElem?_map] at hu
      obtain ⟨z, hz, rfl⟩ := Option.map_eq_some_iff.1 hu
      have hj := (List.getElem?_eq_some_iff.1 hz).1
      rw [addr_add', hc j hj, List.getD_eq_getElem?_getD, hz]; rfl
    case c2 => intro u hu; obtain ⟨x, _, hx⟩ := List.mem_flatMap.1 hu; exact elInt.one x u hx
    case c3 => omega
    case c4 => omega
    intro v' w2 hown hgr _
    have HB2 : Hid (Below w.heap.size w w2) := Lib.hid ((Below.refl _ _).grown hgr (Nat.le_refl _) (fun j hj => by cases hj))
    have HO2 := Lib.hid hown
    clear hown hgr
    go_wp2
    go_ret
    refine ⟨_, rfl, ?_, HB2.out⟩
    exact HO2.out
end Go.Proofs.YtndhomjfjhohoaaGreatDoor

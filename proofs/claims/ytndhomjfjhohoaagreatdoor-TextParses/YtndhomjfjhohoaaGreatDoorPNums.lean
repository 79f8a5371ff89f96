
/- text.readNumbers. -/
import Derived.Test.YtndhomjfjhohoaaGreatDoorPText
import Derived.Test.YtndhomjfjhohoaaGreatDoorGroundA
import Derived.Test.YtndhomjfjhohoaaGreatDoorGroundE
import Derived.Test.YtndhomjfjhohoaaGreatDoorOfBlock
namespace Go.Proofs.YtndhomjfjhohoaaGreatDoor
set_option maxRecDepth 8000
set_option maxRecDepth 8000
open Go.RowKit

def elStr : El (List UInt8) := { enc := fun x => [.string (bs x)], size := 1, zero := [], len := fun _ => rfl, pos := by decide, one := fun x u hu => by simp at hu; subst hu; rfl }
theorem atoi_some {l : List UInt8} {v : Int} (h : numA l = some v) (hl : l.length ≤ 1000000) (w : World) (hv : VarsIs w) :
    Calls Tryz.prog 146 #[.string (bs l)] w fun e w' => e = .returned (.tuple #[.int .i64 v, .nilIface]) ∧ Below w.heap.size w w' :=
  (atoi_any l (by omega) w hv).mono fun e w' ⟨u, x, he, hb, hc⟩ => by
    unfold numA at h
    rcases hc with ⟨ha, rfl⟩ | ⟨ha, -⟩
    · rw [ha] at h; cases h; exact ⟨he, hb⟩
    · cases hq : Lib.atoiAll l <;> rw [hq] at h ha <;> first | exact False.elim ha | cases h
theorem atoi_none {l : List UInt8} (h : numA l = none) (hl : l.length ≤ 1000000) (w : World) (hv : VarsIs w) :
    Calls Tryz.prog 146 #[.string (bs l)] w fun e w' => ∃ u t a, e = .returned (.tuple #[.int .i64 u, .iface t (.pointer (some a))]) ∧ Below w.heap.size w w' :=
  (atoi_any l (by omega) w hv).mono fun e w' ⟨u, x, he, hb, hc⟩ => by
    unfold numA at h
    rcases hc with ⟨ha, rfl⟩ | ⟨-, t, a, rfl⟩
    · rw [ha] at h; cases h
    · exact ⟨u, t, a, he, hb⟩
def NumsPost (w : World) (ws : List (List UInt8)) (e : Ending) (w' : World) : Prop :=
  ∃ v, e = .returned (.tuple #[v, .bool (numsA ws).isSome]) ∧ OwnsF elInt w' w.heap.size 3 v ((numsA ws).getD []) ∧ Below w.heap.size w w'
theorem numsTo_set (ns : List Int) (x : Int) (m : Nat) : (ns ++ List.replicate (m + 1) 0).set ns.length x = (ns ++ [x]) ++ List.replicate m 0 := by
  rw [List.set_append_right _ _ (Nat.le_refl _), Nat.sub_self, List.replicate_succ]; simp
set_option maxHeartbeats 2000000 in
theorem readNumbers_any (v : Value) (ws : List (List UInt8)) (w : World) (h : Reads elStr w v ws) (hl : ws.length ≤ 100000) (hb : ∀ x ∈ ws, x.length ≤ 1000000) (hv : VarsIs w) :
    Calls Tryz.prog 107 #[v] w (NumsPost w ws) := by
  obtain ⟨i0, hi, hz0, hz1, hz2⟩ := info_parts infoInt
  obtain ⟨a, c, rfl, hlc, hm, hcc⟩ := h
  unfold maxLen at hm
  have HC := Lib.hid hcc
  have HV := Lib.hid hv
  have HBL := Lib.hid hb
  generalize hn : ws.length = n at *
  have HN := Lib.hid hn
  clear hn hcc hv hb
  go_enter Tryz.func107, Tryz.ntmps107
  go_wp2_with (first | (at_make; refine wpList_make_full _ rfl _ _ 22 rfl w.heap.size 3 i0 (.int .i64 0) 1 Tryz.underlying22 hi hz0 hz1 .i64 .i64 _ _ n rfl rfl rfl rfl ?c1 ?c2 ?c3 ?_))
  case c1 => rw [hz2]; omega
  case c2 => unfold maxLen; omega
  case c3 => exact Nat.le_refl _
  intro w1 hown hgr
  have hb1 : Below w.heap.size w w1 := (Below.refl _ _).grown hgr (Nat.le_refl _) (fun k hk => by cases hk)
  clear hgr
  have HO : Hid (OwnsF elInt w1 w.heap.size 3 (.slice (some ⟨w.heap.size, 0, none⟩) n n) ([] ++ List.replicate (n - 0) 0)) := Lib.hid (by
    unfold OwnsF; rw [List.nil_append, Nat.sub_zero, List.length_replicate, flatMap_int, List.map_replicate, ← toList_madeCells_one, ← Nat.mul_one n]
    rw [Nat.mul_one]; exact hown)
  have HB1 := Lib.hid hb1
  clear hown hb1
  go_wp2
  go_loopw [14] (fun i wr => ∃ (k : Nat) (ns : List Int), k ≤ n ∧ i = .int .i64 k ∧ Hid (numsA (ws.take k) = some ns ∧ ns.length = k) ∧ Hid (OwnsF elInt wr w.heap.size 3 (.slice (some ⟨w.heap.size, 0, none⟩) n n) (ns ++ List.replicate (n - k) 0)) ∧ Hid (Below w.heap.size w wr)) (fun i _ => n - (intOf i).toNat)
  case atStart => exact ⟨0, [], by omega, rfl, Lib.hid ⟨rfl, rfl⟩, HO, HB1⟩
  case round =>
    obtain ⟨k, ns, hk, rfl, hns, hO, hB⟩ := hrel
    by_cases hlt : k < n
    · obtain ⟨b, off, rfl, hbl, hck⟩ := HC.out k hlt
      obtain ⟨y, hy⟩ : ∃ y, ws.getD k [] = y := ⟨_, rfl⟩
      have hkl : k < ws.length := by rw [HN.out]; exact hlt
      have hyk : ws[k]? = some y := by rw [← hy, List.getD_eq_getElem?_getD, List.getElem?_eq_getElem hkl]; rfl
      have hyl : y.length ≤ 1000000 := HBL.out y (List.mem_of_getElem? hyk)
      have c0 : wr.cell? ⟨b, off + k, none⟩ = some (.string { data := y.toArray }) := by
        rw [hB.out.cell (p := ⟨b, off + k, none⟩) hbl]
        have := hck 0 (by decide)
        rw [show off + k * elStr.size + 0 = off + k by simp [elStr], show ws.getD k elStr.zero = y from hy] at this
        exact this
      have hbw : b < wr.heap.size := Nat.lt_of_lt_of_le hbl hB.out.size
      have HYK := Lib.hid hyk
      clear hck hy hyk
      cases hna : numA y with
      | none =>
        have HE : Hid (numsA ws = none) := Lib.hid (numsA_bad HYK.out hna)
        have HA := Lib.hid (atoi_none hna hyl wr (HV.out.later hB.out))
        clear hna
        go_wp2_with (go_at_call 146; refine HA.out.mono ?_; rintro e w2 ⟨u, t, ad, rfl, hb2⟩)
        go_ret2
        exact ⟨_, by rw [HE.out]; rfl, by rw [HE.out]; exact OwnsF.nil _ _ _ _, nb_trans hB.out hb2⟩
      | some x =>
        have HA := Lib.hid (atoi_some hna hyl wr (HV.out.later hB.out))
        have HNX : Hid (numsA (ws.take (k + 1)) = some (ns ++ [x]) ∧ (ns ++ [x]).length = k + 1) := Lib.hid ⟨numsA_at hns.out.1 HYK.out hna, by rw [List.length_append, hns.out.2]; rfl⟩
        clear hna
        go_wp2_with (go_at_call 146; refine HA.out.mono ?_; rintro e w2 ⟨rfl, hb2⟩; refine Hid.out ?_)
        refine Lib.hid ?_
        have HB2 := Lib.hid (nb_trans hB.out hb2)
        have hO2 := hO.out.later hb2
        have hll : (ns ++ List.replicate (n - k) 0).length = n := by rw [List.length_append, List.length_replicate, hns.out.2]; omega
        obtain ⟨hcg, hfg, hwr⟩ := hO2.open1 rfl (k := k) (by omega)
        have HS : Hid (OwnsF elInt (w2.setCell ⟨w.heap.size, k, none⟩ (.int .i64 x)) w.heap.size 3 (.slice (some ⟨w.heap.size, 0, none⟩) n n) ((ns ++ [x]) ++ List.replicate (n - (k + 1)) 0)) := Lib.hid (by
          have := hO2.stored1 rfl k x (.int .i64 x) (by omega) rfl
          rw [show n - k = (n - (k + 1)) + 1 by omega] at this
          have e := numsTo_set ns x (n - (k + 1))
          rw [hns.out.2] at e
          rw [e] at this; exact this)
        have HBS : Hid (Below w.heap.size w (w2.setCell ⟨w.heap.size, k, none⟩ (.int .i64 x))) := Lib.hid (HB2.out.setCell (p := ⟨w.heap.size, _, none⟩) (Nat.le_refl _) _)
        clear c0 hb2 hO2 hll
        go_wp2
        go_roundw
        case rel => exact ⟨k + 1, ns ++ [x], by omega, by go_num, HNX, HS, HBS⟩
        case measure => simp [intOf]; omega
    · obtain rfl : k = n := by omega
      have HE : Hid (numsA ws = some ns) := Lib.hid (by have := hns.out.1; rwa [List.take_of_length_le (by rw [HN.out]; exact Nat.le_refl _)] at this)
      have HO2 : Hid (OwnsF elInt wr w.heap.size 3 (.slice (some ⟨w.heap.size, 0, none⟩) k k) ns) := Lib.hid (by have := hO.out; rw [Nat.sub_self, List.replicate_zero, List.append_nil] at this; exact this)
      go_wp2
      go_ret2
      exact ⟨_, by rw [HE.out]; rfl, by rw [HE.out]; exact HO2.out, hB.out⟩
end Go.Proofs.YtndhomjfjhohoaaGreatDoor

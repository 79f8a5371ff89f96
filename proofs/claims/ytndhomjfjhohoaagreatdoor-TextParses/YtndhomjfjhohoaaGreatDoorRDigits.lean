
/- The reference's Digits. -/
import Derived.Laws.BytesArg
import Derived.Test.YtndhomjfjhohoaaGreatDoorPText
namespace Go.Proofs.YtndhomjfjhohoaaGreatDoor
set_option maxRecDepth 8000
set_option maxRecDepth 8000
open Go Go.RowKit

theorem digits_nat : ∀ (u : Nat), u < 4611686018427387904 → ∀ (w : World), Calls Tryz.prog 31 #[.int .i64 (u : Int)] w fun e w' => e = .returned (.string (bs (Lib.decDigits u))) ∧ Below w.heap.size w w' := fun u => by
  induction u using Nat.strongRecOn with
  | _ u ih =>
    intro hu w
    by_cases h : u < 10
    · obtain ⟨c, hc⟩ : ∃ c, UInt8.ofNat (48 + u) = c := ⟨_, rfl⟩
      have HD : Hid (Lib.decDigits u = [c]) := Lib.hid (by rw [← hc]; exact Lib.decDigits_one h)
      clear ih
      go_enter Tryz.func31, Tryz.ntmps31
      have hcv := run_convert_bytes_arg (P := Tryz.prog) (w.alloc (.cells #[.int .u8 (48 + (u : Int))] 5)) 61 5 Tryz.underlying61 Tryz.underlying5 w.heap.size 0 1 1 [48 + (u : Int)] rfl (fun i hi => by
        obtain rfl : i = 0 := by omega
        rw [cell_of_row _ _ _ _ _ _ (heap_alloc_new w (.cells #[.int .u8 (48 + (u : Int))] 5))]; rfl) 9 Tryz.underlying9
      have hstr : strOfNums [48 + (u : Int)] = bs [c] := by
        rw [← hc]
        simp only [strOfNums, List.map_cons, List.map_nil]
        rw [show ((48 + (u : Int)).toNat) = 48 + u by omega]
      rw [hstr] at hcv
      clear hc hstr
      go_wp2
      go_ret
      exact ⟨by rw [HD.out]; rfl, nb_alloc (Below.refl _ _) _⟩
    · have HA : Hid (∀ W, Calls Tryz.prog 31 #[.int .i64 ((u : Int) / 10)] W fun e w' => e = .returned (.string (bs (Lib.decDigits (u / 10)))) ∧ Below W.heap.size W w') := Lib.hid (fun W => by
        have := ih (u / 10) (by omega) (by omega) W
        rwa [show ((u / 10 : Nat) : Int) = (u : Int) / 10 by omega] at this)
      have HB : Hid (∀ W, Calls Tryz.prog 31 #[.int .i64 ((u : Int) % 10)] W fun e w' => e = .returned (.string (bs (Lib.decDigits (u % 10)))) ∧ Below W.heap.size W w') := Lib.hid (fun W => by
        have := ih (u % 10) (by omega) (by omega) W
        rwa [show ((u % 10 : Nat) : Int) = (u : Int) % 10 by omega] at this)
      have HD : Hid (Lib.decDigits u = Lib.decDigits (u / 10) ++ Lib.decDigits (u % 10)) := Lib.hid (by
        rw [Lib.decDigits, dif_neg h, Lib.decDigits_one (show u % 10 < 10 by omega)])
      have hl1 : (Lib.decDigits (u / 10)).length ≤ 20 := by
        exact Nat.le_trans (dec_len (u := u / 10) (k := 19) (by omega)) (by omega)
      have hl2 : (Lib.decDigits (u % 10)).length ≤ 20 := by
        exact Nat.le_trans (dec_len (u := u % 10) (k := 19) (by omega)) (by omega)
      have hadd := add_run (P := Tryz.prog) (Lib.decDigits (u / 10)) (Lib.decDigits (u % 10)) (by omega)
      clear ih
      go_enter Tryz.func31, Tryz.ntmps31
      go_wp2_with fail
      refine (HA.out _).mono ?_
      rintro e w1 ⟨rfl, hb1⟩
      have HB1 := Lib.hid hb1
      clear hb1
      go_wp2_with fail
      refine (HB.out _).mono ?_
      rintro e w2 ⟨rfl, hb2⟩
      have HB2 := Lib.hid (nb_trans HB1.out hb2)
      clear hb2
      go_wp2
      go_ret
      exact ⟨by rw [HD.out]; rfl, HB2.out⟩
theorem digits_any (n : Int) (h : -4611686018427387904 < n ∧ n < 4611686018427387904) (w : World) : Calls Tryz.prog 31 #[.int .i64 n] w fun e w' => e = .returned (.string (bs (Lib.itoa n))) ∧ Below w.heap.size w w' := by
  by_cases hn : n < 0
  · have HA : Hid (∀ W, Calls Tryz.prog 31 #[.int .i64 (-n)] W fun e w' => e = .returned (.string (bs (Lib.decDigits n.natAbs))) ∧ Below W.heap.size W w') := Lib.hid (fun W => by
      have := digits_nat n.natAbs (by omega) W
      rwa [show ((n.natAbs : Nat) : Int) = -n by omega] at this)
    have hl1 : (Lib.decDigits n.natAbs).length ≤ 20 := by
      exact Nat.le_trans (dec_len (u := n.natAbs) (k := 19) (by omega)) (by omega)
    have hadd := add_run (P := Tryz.prog) [45] (Lib.decDigits n.natAbs) (by simp; omega)
    have HD : Hid (Lib.itoa n = 45 :: Lib.decDigits n.natAbs) := Lib.hid (by rw [Lib.itoa, if_pos hn])
    go_enter Tryz.func31, Tryz.ntmps31
    go_wp2_with fail
    refine (HA.out _).mono ?_
    rintro e w1 ⟨rfl, hb1⟩
    have HB1 := Lib.hid hb1
    clear hb1
    go_wp2
    go_ret
    exact ⟨by rw [HD.out]; rfl, HB1.out⟩
  · have := digits_nat n.toNat (by omega) w
    rwa [show ((n.toNat : Nat) : Int) = n by omega, show Lib.decDigits n.toNat = Lib.itoa n by rw [Lib.itoa, if_neg hn]] at this
end Go.Proofs.YtndhomjfjhohoaaGreatDoor

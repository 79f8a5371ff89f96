/- The contracts of Count, List and of the reference's Rest, HasKind, Kinds and Eq. -/
import Derived.Test.YtakoejopgdaknaaInts
namespace Go.Proofs.Ytakoejopgdaknaa
set_option maxRecDepth 8000
open Go.RowKit

set_option maxRecDepth 100000 in
set_option maxHeartbeats 1000000 in
theorem ones64_any (x : Int) (w : World) (h0 : 0 ≤ x) (h1 : x ≤ 255) :
    Calls Try.prog 116 #[.int .u64 x] w fun e w' => e = .returned (.int .i64 (cnt x)) ∧ w = w' := by
  have HF := Lib.hid (oc_eq x h0 h1)
  clear h0 h1
  go_enter Try.func116, Try.ntmps116
  go_wp2
  go_ret
  exact ⟨ret_int HF.out, rfl⟩

set_option maxHeartbeats 400000 in
theorem ones_any (x : Int) (w : World) (h0 : 0 ≤ x) (h1 : x ≤ 255) :
    Calls Try.prog 114 #[.int .u64 x] w fun e w' => e = .returned (.int .i64 (cnt x)) ∧ w = w' := by
  go_enter Try.func114, Try.ntmps114
  go_wp2_with (first | (go_at_call 116; refine (ones64_any _ _ (by omega) (by omega)).mono ?_; rintro e w' ⟨rfl, rfl⟩))
  go_ret
  exact ⟨rfl, rfl⟩

set_option maxHeartbeats 400000 in
theorem count_any (m : Int) (w : World) :
    Calls Try.prog 111 #[.int .i64 m] w fun e w' => e = .returned (.int .i64 (cnt m)) ∧ w = w' := by
  have HC := Lib.hid (cnt_mod m)
  have HA := Lib.hid (and_255 m)
  have b0 : 0 ≤ bits .and .i64 m 255 := by rw [HA.out]; omega
  have b1 : bits .and .i64 m 255 ≤ 255 := by rw [HA.out]; omega
  go_enter Try.func111, Try.ntmps111
  go_wp2_with fail
  refine (ones_any _ _ b0 b1).mono ?_
  rintro e w' ⟨rfl, rfl⟩
  rw [HA.out, HC.out]
  go_wp2
  go_ret
  exact ⟨rfl, rfl⟩

theorem rest_eq {n m : Int} (hm : 0 < m) : (n.tmod m < 0 → n.tmod m + m = n % m) ∧ (0 ≤ n.tmod m → n.tmod m = n % m) ∧ -m < n.tmod m ∧ n.tmod m < m := by
  have e := Int.tmod_eq_emod (a := n) (b := m)
  have h0 := Int.emod_nonneg n (show m ≠ 0 by omega)
  have h1 := Int.emod_lt_of_pos n hm
  split at e
  · omega
  · rename_i hd
    have hne : n % m ≠ 0 := fun h => hd (.inr (Int.dvd_of_emod_eq_zero h))
    omega

set_option maxHeartbeats 400000 in
theorem rest_any (n m : Int) (w : World) (hm : 0 < m) (hm' : m ≤ 1000000000000) :
    Calls Try.prog 27 #[.int .i64 n, .int .i64 m] w fun e w' => e = .returned (.int .i64 (n % m)) ∧ w = w' := by
  obtain ⟨r1, r2, b1, b2⟩ := rest_eq (n := n) hm
  have R1 := Lib.hid r1
  have R2 := Lib.hid r2
  clear r1 r2
  go_enter Try.func27, Try.ntmps27
  go_wp2
  all_goals go_ret
  · exact ⟨ret_int (R1.out ‹_›), rfl⟩
  · exact ⟨ret_int (R2.out ‹_›), rfl⟩

theorem hasKind_eq (m : Int) (k : Nat) (h : k < 8) : (m % 256 / 2 ^ k).tmod 2 = m / 2 ^ k % 2 := by
  have h0 : 0 ≤ m % 256 := by omega
  have hp := pow_pos2 k
  have hd : 0 ≤ m % 256 / 2 ^ k := Int.ediv_nonneg h0 (by omega)
  rw [Int.tmod_eq_emod_of_nonneg hd]
  match k, h with
  | 0, _ => omega
  | 1, _ => omega
  | 2, _ => omega
  | 3, _ => omega
  | 4, _ => omega
  | 5, _ => omega
  | 6, _ => omega
  | 7, _ => omega

set_option maxHeartbeats 400000 in
theorem refHasKind_any (m k : Int) (w : World) (h0 : 0 ≤ k) (h7 : k ≤ 7) :
    Calls Try.prog 25 #[.int .i64 m, .int .i64 k] w fun e w' => e = .returned (.bool (tb m k.toNat)) ∧ w = w' := by
  have HE := Lib.hid (hasKind_eq m k.toNat (by omega))
  have b0 : 0 ≤ m % 256 := by omega
  have b1 : m % 256 ≤ 255 := by omega
  obtain ⟨p1, p2⟩ := pow_le7 k.toNat (by omega)
  go_enter Try.func25, Try.ntmps25
  go_wp2_with fail
  refine (rest_any _ _ _ (by omega) (by omega)).mono ?_
  rintro e w' ⟨rfl, rfl⟩
  go_wp2_with fail
  refine (power_any _ _ (by omega) (by omega)).mono ?_
  rintro e w' ⟨rfl, rfl⟩
  go_wp2
  go_ret
  exact ⟨ret_bool (by rw [HE.out]; rfl), rfl⟩

theorem infoInt : (Try.prog.info? 3).map (fun i => (i.zero, i.size, i.bytes)) = some (some (.int .i64 0), 1, 8) := by kernel_rfl

/-- A slice of the call's own reads as its list. -/
theorem Ints.owns {w : World} {base : Nat} {e : TypeId} {v : Value} {zs : List Int} (h : w.ownsRow base e 1 v zs.length (zs.map (Value.int .i64))) : Ints w v zs := by
  obtain ⟨_, ⟨rfl, h0⟩ | ⟨g, cap, cur, rfl, hg, hh, hn, hcap, hsz, htake⟩⟩ := h
  · obtain rfl : zs = [] := List.length_eq_zero_iff.1 h0
    exact ⟨none, 0, rfl, by simp, by simp [maxLen], fun k hk => by simp at hk⟩
  · refine ⟨_, cap, rfl, hn, hcap, fun k hk => ⟨g, 0, rfl, (Array.getElem?_eq_some_iff.1 hh).1, ?_⟩⟩
    simp only [World.cell?, hh, Nat.zero_add]
    have e1 : cur[k]? = (cur.toList.take (zs.length * 1))[k]? := by simp [hk]
    have e2 : (zs.map (Value.int .i64))[k]? = some (.int .i64 (zs.getD k 0)) := by
      rw [List.getElem?_map, List.getElem?_eq_getElem hk, List.getD_eq_getElem?_getD, List.getElem?_eq_getElem hk]; rfl
    rw [e1, htake, e2]; rfl

set_option maxHeartbeats 1000000 in
theorem list_any (m : Int) (w : World) :
    Calls Try.prog 99 #[.int .i64 m] w fun e w' => ∃ v, e = .returned v ∧ w'.ownsRow w.heap.size 3 1 v (kinds m).length ((kinds m).map (Value.int .i64)) ∧ Below w.heap.size w w' := by
  obtain ⟨i0, hi, hz0, hz1, hz2⟩ := info_parts infoInt
  have HC : Hid (cnt m = ((kinds m).length : Int)) := Lib.hid rfl
  have hk8 : (kinds m).length ≤ 8 := kindsTo_len m 8
  go_enter Try.func99, Try.ntmps99
  go_wp2_with fail
  refine (count_any _ _).mono ?_
  rintro e w' ⟨rfl, rfl⟩
  rw [HC.out]
  generalize (kinds m).length = c at *
  go_wp2_with (first | (at_make; refine wpList_make_own _ rfl _ _ 26 rfl w.heap.size 3 i0 (.int .i64 0) 1 Try.underlying26 hi hz0 hz1 .i64 .i64 _ c rfl rfl rfl ?c1 ?c2 ?c3 ?_))
  case c1 => rw [hz2]; omega
  case c2 => unfold maxLen; omega
  case c3 => exact Nat.le_refl _
  intro w1 hown hgr
  have hb1 : Below w.heap.size w w1 := (Below.refl _ _).grown hgr (Nat.le_refl _) (fun k hk => by cases hk)
  clear hgr
  have HO := Lib.hid hown
  have HB1 := Lib.hid hb1
  clear hown hb1
  go_wp2
  go_loopw [3, 8] (fun v i wr => ∃ k : Nat, k ≤ 8 ∧ i = .int .i64 k ∧ Hid (wr.ownsRow w.heap.size 3 1 v (kindsTo m k).length ((kindsTo m k).map (Value.int .i64))) ∧ Hid (Below w.heap.size w wr)) (fun _ i _ => 8 - (intOf i).toNat)
  case atStart => exact ⟨0, by omega, rfl, HO.out, HB1.out⟩
  case round =>
    obtain ⟨k, hk, rfl, hO, hB⟩ := hrel
    by_cases hlt : k < 8
    · have HK := Lib.hid (show kindsTo m (k + 1) = if tb m k then kindsTo m k ++ [(k : Int)] else kindsTo m k from rfl)
      have HL := Lib.hid (kindsTo_len m k)
      generalize kindsTo m k = l at *
      cases hb : tb m k
      · rw [hb, if_neg (by simp)] at HK
        go_wp2_with (first | (go_at_call 76; refine (has_any _ _ _ (by omega) (by omega)).mono ?_; rintro e w' ⟨rfl, rfl⟩; rw [Int.toNat_natCast]))
        go_roundw
        case rel => exact ⟨k + 1, by omega, by go_num, by rw [HK.out]; exact hO, hB⟩
        case measure => simp [intOf]; omega
      · rw [hb, if_pos rfl] at HK
        go_wp2_with (first | (go_at_call 76; refine (has_any _ _ _ (by omega) (by omega)).mono ?_; rintro e w' ⟨rfl, rfl⟩; rw [Int.toNat_natCast]) | (at_builtin; refine wpList_append_own _ rfl _ _ 26 rfl w.heap.size 3 i0 (.int .i64 0) 1 8 Try.underlying26 hi hz0 hz1 hz2 rfl (by decide) _ _ _ rfl (hO.out.alloc _) ⟨wr.heap.size, 0, none⟩ 1 1 [.int .i64 (k : Int)] rfl rfl ?c1 ?c2 ?c3 ?c4 ?c5 ?_))
        case c1 => exact cell_one_new _ _ _
        case c2 => intro u hu; simp at hu; subst hu; rfl
        case c3 => have := HL.out; unfold maxLen; omega
        case c4 => have := HL.out; omega
        case c5 => have := hB.out.size; simp; omega
        intro v' w2 hown hgr _
        have HO2 := Lib.hid hown
        have HB2 : Hid (Below w.heap.size w w2) := Lib.hid ((hB.out.alloc hB.out.size _).grown hgr (by have := hB.out.size; simp; omega) (fun j hj => (hO.out.lt j hj).1))
        clear hown hgr
        go_wp2
        go_roundw
        case rel => exact ⟨k + 1, by omega, by go_num, by rw [HK.out]; simpa [Hid] using HO2.out, HB2⟩
        case measure => simp [intOf]; omega
    · obtain rfl : k = 8 := by omega
      go_wp2
      go_ret
      exact ⟨_, rfl, hO.out, hB.out⟩

theorem eq_of_getD {a b : List Int} (hl : a.length = b.length) (h : ∀ j, j < a.length → a.getD j 0 = b.getD j 0) : a = b := by
  refine List.ext_getElem hl fun j h1 h2 => ?_
  have := h j h1
  rwa [List.getD_eq_getElem?_getD, List.getD_eq_getElem?_getD, List.getElem?_eq_getElem h1, List.getElem?_eq_getElem h2] at this
theorem ne_of_getD {a b : List Int} {j : Nat} (h : a.getD j 0 ≠ b.getD j 0) : a ≠ b := fun e => h (by rw [e])

set_option maxHeartbeats 1000000 in
theorem eqInt_any (u v : Value) (xs ys : List Int) (w : World) (hx : Ints w u xs) (hy : Ints w v ys) :
    Calls Try.prog 13 #[u, v] w fun e w' => e = .returned (.bool (decide (xs = ys))) ∧ w = w' := by
  obtain ⟨hm, hx⟩ := hx.open
  obtain ⟨hm', hy⟩ := hy.open
  unfold maxLen at hm hm'
  generalize hn : xs.length = n at *
  generalize hn' : ys.length = n' at *
  have HN := Lib.hid hn
  have HN' := Lib.hid hn'
  clear hn hn'
  by_cases e : n = n'
  · subst e
    rcases hx with ⟨a, cap, rfl, hz⟩ | ⟨b, off, cap, rfl, hb, hlc, hcm, hc⟩ <;> rcases hy with ⟨a', cap', rfl, hz'⟩ | ⟨b', off', cap', rfl, hb', hlc', hcm', hc'⟩
    all_goals
      have hne : ((n : Int) != (n : Int)) = false := by simp
      go_enter Try.func13, Try.ntmps13
      go_wp2
      go_loop [14] (fun i => ∃ k : Nat, k ≤ n ∧ i = .int .i64 k ∧ Hid (∀ j, j < k → xs.getD j 0 = ys.getD j 0)) (fun i => n - (intOf i).toNat)
      case atStart => exact ⟨0, by omega, rfl, fun j hj => by omega⟩
      case round =>
        obtain ⟨k, hk, rfl, hno⟩ := hrel
        by_cases hlt : k < n
        · first
            | omega
            | (have hck := hc k hlt
               have hck' := hc' k hlt
               clear hc hc'
               have HD := Lib.hid (fun h => ne_of_getD (a := xs) (b := ys) (j := k) h)
               generalize hgx : xs.getD k 0 = x at *
               generalize hgy : ys.getD k 0 = y at *
               have HX := Lib.hid hgx
               have HY := Lib.hid hgy
               clear hgx hgy
               cases hxy : (x != y)
               · have HE : Hid (x = y) := Lib.hid (by simpa using hxy)
                 go_wp2
                 go_round
                 case rel => exact ⟨k + 1, by omega, by go_num, fun j hj => if e : j = k then by rw [e, HX.out, HY.out]; exact HE.out else hno.out j (by omega)⟩
                 case measure => simp [intOf]; omega
               · have HE : Hid (x ≠ y) := Lib.hid (by simpa using hxy)
                 go_wp2
                 go_ret
                 exact ⟨ret_bool (by rw [decide_eq_false (HD.out HE.out)]), rfl⟩)
        · obtain rfl : k = n := by omega
          go_wp2
          go_ret
          exact ⟨ret_bool (by rw [decide_eq_true (eq_of_getD (by rw [HN.out, HN'.out]) (by rw [HN.out]; exact hno.out))]), rfl⟩
  · have hne : ((n : Int) != (n' : Int)) = true := by rw [bne_iff_ne]; omega
    have HF : Hid (xs ≠ ys) := Lib.hid (fun h => e (by rw [← HN.out, ← HN'.out, h]))
    clear e
    rcases hx with ⟨a, cap, rfl, hz⟩ | ⟨b, off, cap, rfl, hb, hlc, hcm, hc⟩ <;> rcases hy with ⟨a', cap', rfl, hz'⟩ | ⟨b', off', cap', rfl, hb', hlc', hcm', hc'⟩
    all_goals
      go_enter Try.func13, Try.ntmps13
      go_wp2
      go_ret
      exact ⟨ret_bool (by rw [decide_eq_false HF.out]), rfl⟩
end Go.Proofs.Ytakoejopgdaknaa

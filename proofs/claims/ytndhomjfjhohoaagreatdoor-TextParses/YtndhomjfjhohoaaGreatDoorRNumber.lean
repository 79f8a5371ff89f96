
/- The reference's number. -/
import Derived.Laws.IdiomStrings
import Derived.Test.YtndhomjfjhohoaaGreatDoorRDigits
import Derived.Test.YtndhomjfjhohoaaGreatDoorGroundA
import Derived.Test.YtndhomjfjhohoaaGreatDoorTextR
namespace Go.Proofs.YtndhomjfjhohoaaGreatDoor
set_option maxRecDepth 8000
set_option maxRecDepth 8000
open Go Go.RowKit

def NumRPost (w : World) (l : List UInt8) (e : Ending) (w' : World) : Prop :=
  ∃ n : Int, e = .returned (.tuple #[.int .i64 n, .bool (numR l).isSome]) ∧ (∀ m, numR l = some m → n = m) ∧ Below w.heap.size w w'
theorem NumRPost.no {w w' : World} {l : List UInt8} (h : numR l = none) (hb : Below w.heap.size w w') : NumRPost w l (.returned (.tuple #[.int .i64 0, .bool false])) w' :=
  ⟨0, by rw [h]; rfl, fun m hm => (by rw [h] at hm; cases hm), hb⟩
theorem drop_bs (t : List UInt8) (k : Nat) : (bs t).extract k t.length = bs (t.drop k) := by
  apply ByteArray.ext
  simp [bs]
  exact List.take_of_length_le (by rw [List.length_drop]; exact Nat.le_refl _)
theorem decFrom_bad : ∀ {l : List UInt8} {k a m : Nat} {c : UInt8}, Lib.decFrom a (l.take k) = some m → l[k]? = some c → Lib.digitVal c = none → Lib.decFrom a l = none := fun {l k a m c} h hc hd => by
  have : l = l.take k ++ l.drop k := (List.take_append_drop k l).symm
  rw [this, dec_app, h, Option.bind_some]
  have hk := (List.getElem?_eq_some_iff.1 hc)
  obtain ⟨hk, hc⟩ := hk
  rw [List.drop_eq_getElem_cons hk, hc, Lib.decFrom, hd]
theorem decFrom_next : ∀ {l : List UInt8} {k a m d : Nat} {c : UInt8}, Lib.decFrom a (l.take k) = some m → l[k]? = some c → Lib.digitVal c = some d → Lib.decFrom a (l.take (k + 1)) = some (m * 10 + d) := fun {l k a m d c} h hc hd => by
  rw [List.take_add_one, hc, Option.toList_some, dec_app, h, Option.bind_some, Lib.decFrom, hd]; rfl
set_option maxHeartbeats 4000000 in
theorem number_any (l : List UInt8) (w : World) (hl : l.length ≤ 1000000) : Calls Tryz.prog 38 #[.string (bs l)] w (NumRPost w l) := by
  have HP := Lib.hid (hasPrefix_any 45 l w)
  have hbs : (bs l).size = l.length := bs_size l
  obtain ⟨pre, hpre⟩ : ∃ p, Lib.hasPrefix l [45] = p := ⟨_, rfl⟩
  have HPR := Lib.hid hpre
  rw [hpre] at HP
  clear hpre
  cases pre
  · have HBD : Hid (bodyD l = l ∧ signD l = 1) := Lib.hid ⟨by rw [bodyD, HPR.out]; rfl, by rw [signD, HPR.out]; rfl⟩
    go_enter Tryz.func38, Tryz.ntmps38
    go_wp2_with (go_at_call 73; refine HP.out.mono ?_; rintro e w' ⟨rfl, rfl⟩; refine Hid.out ?_)
    refine Lib.hid ?_
    obtain ⟨n, hBn⟩ : ∃ n, l.length = n := ⟨_, rfl⟩
    rw [hBn] at hbs
    go_wp2_with fail
    clear HP hbs
    refine (outside_any _ _ _ _).mono ?_
    rintro e w' ⟨rfl, rfl⟩
    rename World => w
    by_cases hin : 1 ≤ n ∧ n ≤ 10
    · have ho : (!inB (n : Int) 1 10) = false := by simp [inB]; omega
      have HNR : Hid (numR l = (Lib.decFrom 0 l).bind fun m => if Lib.itoa ((m : Int)) = l then some ((m : Int)) else none) := Lib.hid (by rw [numR, HBD.out.1, HBD.out.2, if_pos (by rw [hBn]; exact hin)]; simp only [Int.one_mul])
      have hcv := run_bytes_of_string (P := Tryz.prog) w 9 61 5 (bs l) Tryz.underlying9 Tryz.underlying61 Tryz.underlying5
      rw [show (bs l).size = n from (bs_size l).trans hBn] at hcv
      obtain ⟨cap, hcap⟩ : ∃ c, grownCap w n 0 5 = c := ⟨_, rfl⟩
      rw [hcap] at hcv
      obtain ⟨row, hrow⟩ : ∃ r, bytesRow (bs l) cap = r := ⟨_, rfl⟩
      rw [hrow] at hcv
      have HW : Hid (Below w.heap.size w (w.drew.alloc (.cells row 5 (row.size, row.size + 1)))) := Lib.hid (nb_alloc (Below.refl _ _).drew _)
      have HC : Hid (∀ (j : Nat) (c : UInt8), l[j]? = some c → (w.drew.alloc (.cells row 5 (row.size, row.size + 1))).cell? ⟨w.heap.size, j, none⟩ = some (.int .u8 (c.toNat : Int))) := Lib.hid (fun j c hc => by
        obtain ⟨hj, hc⟩ := List.getElem?_eq_some_iff.1 hc
        have hx : (w.drew.alloc (.cells row 5 (row.size, row.size + 1))).heap[w.heap.size]? = some (.cells row 5 (row.size, row.size + 1)) := heap_alloc_new w.drew _
        simp only [World.cell?, hx]
        rw [← hrow]
        have := bytesRow_at (bs l) cap j (by simpa using hj)
        rw [← hc]
        simpa [bs] using this)
      have hws : w.heap.size < (w.drew.alloc (.cells row 5 (row.size, row.size + 1))).heap.size := by simp
      generalize hW1 : w.drew.alloc (.cells row 5 (row.size, row.size + 1)) = W1 at *
      clear hW1 hcap hrow
      go_wp2
      go_loopw [6, 20] (fun s6 i wr => ∃ (k m : Nat), k ≤ n ∧ s6 = .int .i64 (m : Int) ∧ i = .int .i64 k ∧ Hid (Lib.decFrom 0 (l.take k) = some m) ∧ m < 10 ^ k ∧ wr = W1) (fun _ i _ => n - (intOf i).toNat)
      case atStart => exact ⟨0, 0, by omega, rfl, rfl, Lib.hid (by rw [List.take_zero]; rfl), by decide, rfl⟩
      case round =>
        obtain ⟨k, m, hk, rfl, rfl, hm, hm10, rfl⟩ := hrel
        have hmb : m < 10000000000 := Nat.lt_of_lt_of_le hm10 (Nat.pow_le_pow_right (by decide) (show k ≤ 10 by omega))
        by_cases hlt : k < n
        · obtain ⟨c, hc⟩ : ∃ c, l[k]? = some c := ⟨_, List.getElem?_eq_getElem (by omega)⟩
          have c0 := HC.out k c hc
          have hc256 : c.toNat < 256 := c.toNat_lt
          have HCK := Lib.hid hc
          by_cases hlo : c.toNat < 48
          · have HE : Hid (numR l = none) := Lib.hid (by rw [HNR.out, decFrom_bad hm.out hc (by rw [Lib.digitVal, if_neg (by omega)])]; rfl)
            clear hc
            generalize c.toNat = cn at *
            go_wp2
            go_ret2
            exact NumRPost.no HE.out HW.out
          · by_cases hhi : 57 < c.toNat
            · have HE : Hid (numR l = none) := Lib.hid (by rw [HNR.out, decFrom_bad hm.out hc (by rw [Lib.digitVal, if_neg (by omega)])]; rfl)
              clear hc
              generalize c.toNat = cn at *
              go_wp2
              go_ret2
              exact NumRPost.no HE.out HW.out
            · have HN : Hid (Lib.decFrom 0 (l.take (k + 1)) = some (m * 10 + (c.toNat - 48))) := Lib.hid (decFrom_next hm.out hc (by rw [Lib.digitVal, if_pos (by omega)]))
              have hm1 : m * 10 + (c.toNat - 48) < 10 ^ (k + 1) := by rw [Nat.pow_succ]; omega
              clear hc hm10
              generalize c.toNat = cn at *
              go_wp2
              go_roundw
              case rel => exact ⟨k + 1, m * 10 + (cn - 48), by omega, by go_num, by go_num, HN, hm1, trivial⟩
              case measure => simp [intOf]; omega
        · obtain rfl : k = n := by omega
          obtain ⟨hx1, hx2⟩ : -10000000000 < (m : Int) ∧ (m : Int) < 10000000000 := by omega
          have HDG := Lib.hid (digits_any ((m : Int)) ⟨by omega, by omega⟩ wr)
          have HM : Hid (Lib.decFrom 0 l = some m) := Lib.hid (by have := hm.out; rwa [List.take_of_length_le (by omega)] at this)
          go_wp2_with (go_at_call 31; refine HDG.out.mono ?_; rintro e w2 ⟨rfl, hb2⟩; refine Hid.out ?_)
          refine Lib.hid ?_
          have HB2 := Lib.hid (nb_trans HW.out hb2)
          by_cases hq : Lib.itoa ((m : Int)) = l
          · have HE : Hid (numR l = some ((m : Int))) := Lib.hid (by rw [HNR.out, HM.out, Option.bind_some, if_pos hq])
            have hqb : (Lib.itoa ((m : Int)) == l) = true := by rw [hq]; exact beq_self_eq_true l
            clear hq
            go_wp2
            go_ret2
            exact ⟨_, by rw [HE.out]; rfl, fun k hk => by rw [HE.out] at hk; exact Option.some.inj hk, HB2.out⟩
          · have HE : Hid (numR l = none) := Lib.hid (by rw [HNR.out, HM.out, Option.bind_some, if_neg hq])
            have hqb : (Lib.itoa ((m : Int)) == l) = false := by simp only [beq_eq_false_iff_ne]; exact hq
            clear hq
            go_wp2
            go_ret2
            exact ⟨_, by rw [HE.out]; rfl, fun k hk => (by rw [HE.out] at hk; cases hk), HB2.out⟩
    · have ho : (!inB (n : Int) 1 10) = true := by simp [inB]; omega
      have HE : Hid (numR l = none) := Lib.hid (by rw [numR, HBD.out.1, if_neg (by rw [hBn]; exact hin)])
      go_wp2
      go_ret2
      exact NumRPost.no HE.out (Below.refl _ _)
  · have hlen : 1 ≤ l.length := by
      rcases l with _ | ⟨c, l⟩
      · exact absurd HPR.out (by decide)
      · simp
    have HBD : Hid (bodyD l = l.drop 1 ∧ signD l = -1) := Lib.hid ⟨by rw [bodyD, HPR.out]; rfl, by rw [signD, HPR.out]; rfl⟩
    go_enter Tryz.func38, Tryz.ntmps38
    go_wp2_with (go_at_call 73; refine HP.out.mono ?_; rintro e w' ⟨rfl, rfl⟩; refine Hid.out ?_)
    refine Lib.hid ?_
    go_wp2_with fail
    rw [drop_bs]
    have hdl : (l.drop 1).length = l.length - 1 := List.length_drop
    obtain ⟨sg, hsg⟩ : ∃ s : Int, (-1 : Int) = s := ⟨_, rfl⟩
    generalize l.length - 1 = n at *
    generalize l.drop 1 = B at *
    have hBn := hdl
    have hsgc : sg = 1 ∨ sg = -1 := .inr hsg.symm
    rw [hsg] at HBD
    clear hdl HP hbs hlen
    refine (outside_any _ _ _ _).mono ?_
    rintro e w' ⟨rfl, rfl⟩
    rename World => w
    by_cases hin : 1 ≤ n ∧ n ≤ 10
    · have ho : (!inB (n : Int) 1 10) = false := by simp [inB]; omega
      have HNR : Hid (numR l = (Lib.decFrom 0 B).bind fun m => if Lib.itoa (sg * (m : Int)) = l then some (sg * (m : Int)) else none) := Lib.hid (by rw [numR, HBD.out.1, HBD.out.2, if_pos (by rw [hBn]; exact hin)])
      have hcv := run_bytes_of_string (P := Tryz.prog) w 9 61 5 (bs B) Tryz.underlying9 Tryz.underlying61 Tryz.underlying5
      rw [show (bs B).size = n from (bs_size B).trans hBn] at hcv
      obtain ⟨cap, hcap⟩ : ∃ c, grownCap w n 0 5 = c := ⟨_, rfl⟩
      rw [hcap] at hcv
      obtain ⟨row, hrow⟩ : ∃ r, bytesRow (bs B) cap = r := ⟨_, rfl⟩
      rw [hrow] at hcv
      have HW : Hid (Below w.heap.size w (w.drew.alloc (.cells row 5 (row.size, row.size + 1)))) := Lib.hid (nb_alloc (Below.refl _ _).drew _)
      have HC : Hid (∀ (j : Nat) (c : UInt8), B[j]? = some c → (w.drew.alloc (.cells row 5 (row.size, row.size + 1))).cell? ⟨w.heap.size, j, none⟩ = some (.int .u8 (c.toNat : Int))) := Lib.hid (fun j c hc => by
        obtain ⟨hj, hc⟩ := List.getElem?_eq_some_iff.1 hc
        have hx : (w.drew.alloc (.cells row 5 (row.size, row.size + 1))).heap[w.heap.size]? = some (.cells row 5 (row.size, row.size + 1)) := heap_alloc_new w.drew _
        simp only [World.cell?, hx]
        rw [← hrow]
        have := bytesRow_at (bs B) cap j (by simpa using hj)
        rw [← hc]
        simpa [bs] using this)
      have hws : w.heap.size < (w.drew.alloc (.cells row 5 (row.size, row.size + 1))).heap.size := by simp
      generalize hW1 : w.drew.alloc (.cells row 5 (row.size, row.size + 1)) = W1 at *
      clear hW1 hcap hrow
      go_wp2
      go_loopw [6, 20] (fun s6 i wr => ∃ (k m : Nat), k ≤ n ∧ s6 = .int .i64 (m : Int) ∧ i = .int .i64 k ∧ Hid (Lib.decFrom 0 (B.take k) = some m) ∧ m < 10 ^ k ∧ wr = W1) (fun _ i _ => n - (intOf i).toNat)
      case atStart => exact ⟨0, 0, by omega, rfl, rfl, Lib.hid (by rw [List.take_zero]; rfl), by decide, rfl⟩
      case round =>
        obtain ⟨k, m, hk, rfl, rfl, hm, hm10, rfl⟩ := hrel
        have hmb : m < 10000000000 := Nat.lt_of_lt_of_le hm10 (Nat.pow_le_pow_right (by decide) (show k ≤ 10 by omega))
        by_cases hlt : k < n
        · obtain ⟨c, hc⟩ : ∃ c, B[k]? = some c := ⟨_, List.getElem?_eq_getElem (by omega)⟩
          have c0 := HC.out k c hc
          have hc256 : c.toNat < 256 := c.toNat_lt
          have HCK := Lib.hid hc
          by_cases hlo : c.toNat < 48
          · have HE : Hid (numR l = none) := Lib.hid (by rw [HNR.out, decFrom_bad hm.out hc (by rw [Lib.digitVal, if_neg (by omega)])]; rfl)
            clear hc
            generalize c.toNat = cn at *
            go_wp2
            go_ret2
            exact NumRPost.no HE.out HW.out
          · by_cases hhi : 57 < c.toNat
            · have HE : Hid (numR l = none) := Lib.hid (by rw [HNR.out, decFrom_bad hm.out hc (by rw [Lib.digitVal, if_neg (by omega)])]; rfl)
              clear hc
              generalize c.toNat = cn at *
              go_wp2
              go_ret2
              exact NumRPost.no HE.out HW.out
            · have HN : Hid (Lib.decFrom 0 (B.take (k + 1)) = some (m * 10 + (c.toNat - 48))) := Lib.hid (decFrom_next hm.out hc (by rw [Lib.digitVal, if_pos (by omega)]))
              have hm1 : m * 10 + (c.toNat - 48) < 10 ^ (k + 1) := by rw [Nat.pow_succ]; omega
              clear hc hm10
              generalize c.toNat = cn at *
              go_wp2
              go_roundw
              case rel => exact ⟨k + 1, m * 10 + (cn - 48), by omega, by go_num, by go_num, HN, hm1, trivial⟩
              case measure => simp [intOf]; omega
        · obtain rfl : k = n := by omega
          obtain ⟨hx1, hx2⟩ : -10000000000 < sg * (m : Int) ∧ sg * (m : Int) < 10000000000 := by rcases hsgc with h | h <;> rw [h] <;> omega
          have HDG := Lib.hid (digits_any (sg * (m : Int)) ⟨by omega, by omega⟩ wr)
          have HM : Hid (Lib.decFrom 0 B = some m) := Lib.hid (by have := hm.out; rwa [List.take_of_length_le (by omega)] at this)
          go_wp2_with (go_at_call 31; refine HDG.out.mono ?_; rintro e w2 ⟨rfl, hb2⟩; refine Hid.out ?_)
          refine Lib.hid ?_
          have HB2 := Lib.hid (nb_trans HW.out hb2)
          by_cases hq : Lib.itoa (sg * (m : Int)) = l
          · have HE : Hid (numR l = some (sg * (m : Int))) := Lib.hid (by rw [HNR.out, HM.out, Option.bind_some, if_pos hq])
            have hqb : (Lib.itoa (sg * (m : Int)) == l) = true := by rw [hq]; exact beq_self_eq_true l
            clear hq
            go_wp2
            go_ret2
            exact ⟨_, by rw [HE.out]; rfl, fun k hk => by rw [HE.out] at hk; exact Option.some.inj hk, HB2.out⟩
          · have HE : Hid (numR l = none) := Lib.hid (by rw [HNR.out, HM.out, Option.bind_some, if_neg hq])
            have hqb : (Lib.itoa (sg * (m : Int)) == l) = false := by simp only [beq_eq_false_iff_ne]; exact hq
            clear hq
            go_wp2
            go_ret2
            exact ⟨_, by rw [HE.out]; rfl, fun k hk => (by rw [HE.out] at hk; cases hk), HB2.out⟩
    · have ho : (!inB (n : Int) 1 10) = true := by simp [inB]; omega
      have HE : Hid (numR l = none) := Lib.hid (by rw [numR, HBD.out.1, if_neg (by rw [hBn]; exact hin)])
      go_wp2
      go_ret2
      exact NumRPost.no HE.out (Below.refl _ _)
end Go.Proofs.YtndhomjfjhohoaaGreatDoor

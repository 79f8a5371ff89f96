/- The function without of the reference, with the literals of its zoo's Kill and Rows; the contract of the zoo's Rows. -/
import Derived.Test.YtlclceiebnnpgaaGreatRefZoo
import Derived.Test.YtlclceiebnnpgaaGreatRefMatches
import Derived.Test.YtlclceiebnnpgaaGreatListModel
namespace Go.Proofs.YtlclceiebnnpgaaGreat
set_option maxRecDepth 8000
open Go.RowKit

theorem filter_snoc_t {p : Rw → Bool} {xs : List Rw} {r : Rw} (h : p r = true) : (xs ++ [r]).filter p = xs.filter p ++ [r] := by simp [List.filter_append, h]
theorem filter_snoc_f {p : Rw → Bool} {xs : List Rw} {r : Rw} (h : p r = false) : (xs ++ [r]).filter p = xs.filter p := by simp [List.filter_append, h]
set_option maxHeartbeats 1000000 in
theorem zkillLit_any (r : Rw) (bx : Nat) (a b : Int) (w : World) (hbx : w.heap[bx]? = some (.cells #[.int .i64 a, .int .i64 b] 28)) :
    Calls Tryz.prog 51 #[.agg #[.int .i64 r.s, .int .i64 r.g, .int .i64 r.m, .int .i64 (r.f 0), .int .i64 (r.f 1), .int .i64 (r.f 2), .int .i64 (r.f 3), .int .i64 (r.f 4), .int .i64 (r.f 5), .int .i64 (r.f 6), .int .i64 (r.f 7)], .pointer (some ⟨bx, 0, none⟩)] w fun e w' => e = .returned (.bool (isH a b r)) ∧ Below w.heap.size w w' := by
  have hbl := (Array.getElem?_eq_some_iff.1 hbx).1
  have k0 : w.cell? ⟨bx, 0, none⟩ = some (.int .i64 a) := by rw [cell_of_row _ _ _ _ _ _ hbx]; rfl
  have k1 : w.cell? ⟨bx, 1, none⟩ = some (.int .i64 b) := by rw [cell_of_row _ _ _ _ _ _ hbx]; rfl
  have HX : Hid (Below w.heap.size w (w.alloc (.cells #[.int .i64 r.s, .int .i64 r.g, .int .i64 r.m, .int .i64 (r.f 0), .int .i64 (r.f 1), .int .i64 (r.f 2), .int .i64 (r.f 3), .int .i64 (r.f 4), .int .i64 (r.f 5), .int .i64 (r.f 6), .int .i64 (r.f 7)] 45))) := Lib.hid (nb_alloc (Below.refl _ _) _)
  clear hbx
  cases h1 : (r.s == a) <;> cases h2 : (r.g == b)
  all_goals
    have HP : Hid (isH a b r = _) := Lib.hid (show isH a b r = ((r.s == a) && (r.g == b)) from rfl)
    rw [h1, h2] at HP
    go_enter Tryz.func51, Tryz.ntmps51
    go_wp2
    go_ret
    exact ⟨by rw [HP.out]; rfl, HX.out⟩

set_option maxHeartbeats 4000000 in
theorem withoutKill_any (v : Value) (rows : List Rw) (bx : Nat) (a b : Int) (w : World) (h : Reads elRow w v rows) (h60 : rows.length ≤ 60) (hbx : w.heap[bx]? = some (.cells #[.int .i64 a, .int .i64 b] 28)) :
    Calls Tryz.prog 50 #[v, .func (.func 51) #[] #[.pointer (some ⟨bx, 0, none⟩)]] w fun e w' => ∃ v', e = .returned v' ∧ OwnsF elRow w' w.heap.size 45 v' (rows.filter (fun r => !(isH a b r))) ∧ Below w.heap.size w w' := by
  obtain ⟨i0, hi, hz0, hz1, hz2⟩ := info_parts infoRow
  obtain ⟨hm, hop⟩ := h.open
  generalize hn : rows.length = n at *
  have HN := Lib.hid hn
  have HBX := Lib.hid hbx
  clear hn h hbx
  unfold maxLen at hm
  rcases hop with ⟨ad, cap, rfl, hz⟩ | ⟨bl, off, cap, rfl, hb, hlc, hcm, hc⟩
  all_goals
    go_enter Tryz.func50, Tryz.ntmps50
    go_wp2
    go_loopw [5, 10] (fun u i wr => ∃ k : Nat, k ≤ n ∧ i = .int .i64 k ∧ Hid (OwnsF elRow wr w.heap.size 45 u ((rows.take k).filter (fun r => !(isH a b r)))) ∧ Hid (Below w.heap.size w wr)) (fun _ i _ => n - (intOf i).toNat)
    case atStart => exact ⟨0, by omega, rfl, OwnsF.nil _ _ _ _, Below.refl _ _⟩
    case round =>
      obtain ⟨k, hk, rfl, hO, hB⟩ := hrel
      by_cases hlt : k < n
      · first
          | omega
          | (have hcr : ∀ jj, jj < 11 → wr.cell? ⟨bl, off + k * 11 + jj, none⟩ = (elRow.enc (rows.getD k rowZ))[jj]? := fun jj hjj => by rw [hB.out.cell (p := ⟨bl, _, none⟩) hb]; exact hc k hlt jj hjj
             have HTK : Hid (rows.take (k + 1) = rows.take k ++ [rows.getD k rowZ]) := Lib.hid (by
               have hkl : k < rows.length := by rw [HN.out]; exact hlt
               rw [List.take_add_one, List.getElem?_eq_getElem hkl, List.getD_eq_getElem?_getD, List.getElem?_eq_getElem hkl]; rfl)
             have HLN : Hid (((rows.take k).filter (fun r => !(isH a b r))).length ≤ k) := Lib.hid (by
               have h1 := List.length_filter_le (fun r => !(isH a b r)) (rows.take k)
               rw [List.length_take] at h1
               have := Nat.min_le_left k rows.length
               omega)
             clear hc
             generalize rows.getD k rowZ = r at *
             have hbw : bl < wr.heap.size := Nat.lt_of_lt_of_le hb hB.out.size
             have c0 : wr.cell? ⟨bl, off + k * 11, none⟩ = some (.int .i64 r.s) := hcr 0 (by decide)
             have c1 : wr.cell? ⟨bl, off + k * 11 + 1, none⟩ = some (.int .i64 r.g) := hcr 1 (by decide)
             have c2 : wr.cell? ⟨bl, off + k * 11 + 2, none⟩ = some (.int .i64 r.m) := hcr 2 (by decide)
             have c3 : wr.cell? ⟨bl, off + k * 11 + 3, none⟩ = some (.int .i64 (r.f 0)) := hcr 3 (by decide)
             have c4 : wr.cell? ⟨bl, off + k * 11 + 4, none⟩ = some (.int .i64 (r.f 1)) := hcr 4 (by decide)
             have c5 : wr.cell? ⟨bl, off + k * 11 + 5, none⟩ = some (.int .i64 (r.f 2)) := hcr 5 (by decide)
             have c6 : wr.cell? ⟨bl, off + k * 11 + 6, none⟩ = some (.int .i64 (r.f 3)) := hcr 6 (by decide)
             have c7 : wr.cell? ⟨bl, off + k * 11 + 7, none⟩ = some (.int .i64 (r.f 4)) := hcr 7 (by decide)
             have c8 : wr.cell? ⟨bl, off + k * 11 + 8, none⟩ = some (.int .i64 (r.f 5)) := hcr 8 (by decide)
             have c9 : wr.cell? ⟨bl, off + k * 11 + 9, none⟩ = some (.int .i64 (r.f 6)) := hcr 9 (by decide)
             have c10 : wr.cell? ⟨bl, off + k * 11 + 10, none⟩ = some (.int .i64 (r.f 7)) := hcr 10 (by decide)
             clear hcr
             have HAR : Hid ((wr.alloc (.cells #[.int .i64 r.s, .int .i64 r.g, .int .i64 r.m, .int .i64 (r.f 0), .int .i64 (r.f 1), .int .i64 (r.f 2), .int .i64 (r.f 3), .int .i64 (r.f 4), .int .i64 (r.f 5), .int .i64 (r.f 6), .int .i64 (r.f 7)] 45)).heap[wr.heap.size]? = some (.cells #[.int .i64 r.s, .int .i64 r.g, .int .i64 r.m, .int .i64 (r.f 0), .int .i64 (r.f 1), .int .i64 (r.f 2), .int .i64 (r.f 3), .int .i64 (r.f 4), .int .i64 (r.f 5), .int .i64 (r.f 6), .int .i64 (r.f 7)] 45)) := Lib.hid (heap_alloc_new _ _)
             have HBA := Lib.hid (nb_alloc hB.out (.cells #[.int .i64 r.s, .int .i64 r.g, .int .i64 r.m, .int .i64 (r.f 0), .int .i64 (r.f 1), .int .i64 (r.f 2), .int .i64 (r.f 3), .int .i64 (r.f 4), .int .i64 (r.f 5), .int .i64 (r.f 6), .int .i64 (r.f 7)] 45))
             have HOA : Hid (OwnsF elRow (wr.alloc (.cells #[.int .i64 r.s, .int .i64 r.g, .int .i64 r.m, .int .i64 (r.f 0), .int .i64 (r.f 1), .int .i64 (r.f 2), .int .i64 (r.f 3), .int .i64 (r.f 4), .int .i64 (r.f 5), .int .i64 (r.f 6), .int .i64 (r.f 7)] 45)) w.heap.size 45 u5 ((rows.take k).filter (fun r => !(isH a b r)))) := Lib.hid (hO.out.later (nb_alloc (Below.refl _ _) _))
             obtain ⟨L, hL⟩ : ∃ L, (rows.take k).filter (fun r => !(isH a b r)) = L := ⟨_, rfl⟩
             rw [hL] at HLN HOA
             have HL := Lib.hid hL
             clear hL hO
             have hAl := (Array.getElem?_eq_some_iff.1 HAR.out).1
             go_wp2_with fail
             generalize wr.alloc (.cells #[.int .i64 r.s, .int .i64 r.g, .int .i64 r.m, .int .i64 (r.f 0), .int .i64 (r.f 1), .int .i64 (r.f 2), .int .i64 (r.f 3), .int .i64 (r.f 4), .int .i64 (r.f 5), .int .i64 (r.f 6), .int .i64 (r.f 7)] 45) = A at *
             clear c0 c1 c2 c3 c4 c5 c6 c7 c8 c9 c10
             refine (zkillLit_any r bx a b _ (by rw [HBA.out.block _ (Array.getElem?_eq_some_iff.1 HBX.out).1]; exact HBX.out)).mono ?_
             rintro e w6 ⟨rfl, hb6⟩
             have hr6 : w6.heap[wr.heap.size]? = some (.cells #[.int .i64 r.s, .int .i64 r.g, .int .i64 r.m, .int .i64 (r.f 0), .int .i64 (r.f 1), .int .i64 (r.f 2), .int .i64 (r.f 3), .int .i64 (r.f 4), .int .i64 (r.f 5), .int .i64 (r.f 6), .int .i64 (r.f 7)] 45) := by rw [hb6.block _ hAl]; exact HAR.out
             have HO6 := Lib.hid (HOA.out.later hb6)
             have HB6 := Lib.hid (nb_trans HBA.out hb6)
             have hr6l := (Array.getElem?_eq_some_iff.1 hr6).1
             have hs6 := HB6.out.size
             have k0 : w6.cell? ⟨wr.heap.size, 0, none⟩ = some (.int .i64 r.s) := by rw [cell_of_row _ _ _ _ _ _ hr6]; rfl
             have k1 : w6.cell? ⟨wr.heap.size, 1, none⟩ = some (.int .i64 r.g) := by rw [cell_of_row _ _ _ _ _ _ hr6]; rfl
             have k2 : w6.cell? ⟨wr.heap.size, 2, none⟩ = some (.int .i64 r.m) := by rw [cell_of_row _ _ _ _ _ _ hr6]; rfl
             have k3 : w6.cell? ⟨wr.heap.size, 3, none⟩ = some (.int .i64 (r.f 0)) := by rw [cell_of_row _ _ _ _ _ _ hr6]; rfl
             have k4 : w6.cell? ⟨wr.heap.size, 4, none⟩ = some (.int .i64 (r.f 1)) := by rw [cell_of_row _ _ _ _ _ _ hr6]; rfl
             have k5 : w6.cell? ⟨wr.heap.size, 5, none⟩ = some (.int .i64 (r.f 2)) := by rw [cell_of_row _ _ _ _ _ _ hr6]; rfl
             have k6 : w6.cell? ⟨wr.heap.size, 6, none⟩ = some (.int .i64 (r.f 3)) := by rw [cell_of_row _ _ _ _ _ _ hr6]; rfl
             have k7 : w6.cell? ⟨wr.heap.size, 7, none⟩ = some (.int .i64 (r.f 4)) := by rw [cell_of_row _ _ _ _ _ _ hr6]; rfl
             have k8 : w6.cell? ⟨wr.heap.size, 8, none⟩ = some (.int .i64 (r.f 5)) := by rw [cell_of_row _ _ _ _ _ _ hr6]; rfl
             have k9 : w6.cell? ⟨wr.heap.size, 9, none⟩ = some (.int .i64 (r.f 6)) := by rw [cell_of_row _ _ _ _ _ _ hr6]; rfl
             have k10 : w6.cell? ⟨wr.heap.size, 10, none⟩ = some (.int .i64 (r.f 7)) := by rw [cell_of_row _ _ _ _ _ _ hr6]; rfl
             clear hb6 hr6
             cases hp : (isH a b r)
             · have HNX : Hid ((rows.take (k + 1)).filter (fun r => !(isH a b r)) = L ++ [r]) := Lib.hid (by rw [HTK.out, filter_snoc_t (show (!(isH a b r)) = true by rw [hp]; rfl), HL.out])
               clear hp
               go_wp2_with (first | (at_builtin; refine wpList_append_own _ rfl _ _ 23 rfl w.heap.size 45 i0 _ 11 88 Tryz.underlying23 hi hz0 hz1 hz2 rfl (by decide) _ L.length (L.flatMap elRow.enc) rfl (World.ownsRow.alloc HO6.out _) ⟨w6.heap.size, 0, none⟩ 1 1 [.int .i64 r.s, .int .i64 r.g, .int .i64 r.m, .int .i64 (r.f 0), .int .i64 (r.f 1), .int .i64 (r.f 2), .int .i64 (r.f 3), .int .i64 (r.f 4), .int .i64 (r.f 5), .int .i64 (r.f 6), .int .i64 (r.f 7)] rfl rfl ?d1 ?d2 ?d3 ?d4 ?d5 ?_))
               case d1 => exact World.news_of_block (heap_alloc_new _ _)
               case d2 => exact elRow.one r
               case d3 => have := HLN.out; unfold maxLen; omega
               case d4 => have := HLN.out; omega
               case d5 => simp; omega
               intro v' w2 hown hgr _
               have HO2 : Hid (OwnsF elRow w2 w.heap.size 45 v' (L ++ [r])) := Lib.hid (OwnsF.snoc (x := r) hown)
               have HB2 : Hid (Below w.heap.size w w2) := Lib.hid ((nb_alloc HB6.out _).grown hgr (by simp; omega) (fun j hj => HO6.out.ge hj))
               clear hown hgr k0 k1 k2 k3 k4 k5 k6 k7 k8 k9 k10
               go_wp2
               go_roundw
               case rel => exact ⟨k + 1, by omega, by go_num, by rw [HNX.out]; exact HO2, HB2⟩
               case measure => simp [intOf]; omega
             · have HNX : Hid ((rows.take (k + 1)).filter (fun r => !(isH a b r)) = L) := Lib.hid (by rw [HTK.out, filter_snoc_f (show (!(isH a b r)) = false by rw [hp]; rfl), HL.out])
               clear hp k0 k1 k2 k3 k4 k5 k6 k7 k8 k9 k10
               go_wp2
               go_roundw
               case rel => exact ⟨k + 1, by omega, by go_num, by rw [HNX.out]; exact HO6, HB6⟩
               case measure => simp [intOf]; omega)
      · obtain rfl : k = n := by omega
        have HALL : Hid (rows.take k = rows) := Lib.hid (by rw [List.take_of_length_le (by rw [HN.out]; exact Nat.le_refl _)])
        rw [HALL.out] at hO
        go_wp2
        go_ret
        exact ⟨_, rfl, hO.out, hB.out⟩
end Go.Proofs.YtlclceiebnnpgaaGreat

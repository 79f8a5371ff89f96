/- The function without of the reference over bonds, with the literals of Adopt, Loosen and Gone. -/
import Derived.Test.YtlclceiebnnpgaaRefBond
namespace Go.Proofs.Ytlclceiebnnpgaa
set_option maxRecDepth 8000
open Go.RowKit

theorem filtB_t {p : Bd → Bool} {xs : List Bd} {r : Bd} (h : p r = true) : (xs ++ [r]).filter p = xs.filter p ++ [r] := by simp [List.filter_append, h]
theorem filtB_f {p : Bd → Bool} {xs : List Bd} {r : Bd} (h : p r = false) : (xs ++ [r]).filter p = xs.filter p := by simp [List.filter_append, h]

set_option maxHeartbeats 2000000 in
theorem refAdoptLit_any (x : Bd) (bx : Nat) (a b : Int) (w : World) (hbx : w.heap[bx]? = some (.cells #[.int .i64 a, .int .i64 b] 38)) :
    Calls Try.prog 36 #[.agg #[.int .i64 x.1.1, .int .i64 x.1.2, .int .i64 x.2.1, .int .i64 x.2.2], .pointer (some ⟨bx, 0, none⟩)] w fun e w' => e = .returned (.bool (decide (x.1 = (a, b)))) ∧ Below w.heap.size w w' := by
  obtain ⟨⟨x1, x2⟩, x3, x4⟩ := x
  have hbl := (Array.getElem?_eq_some_iff.1 hbx).1
  have k0 : w.cell? ⟨bx, 0, none⟩ = some (.int .i64 a) := by rw [cell_of_row _ _ _ _ _ _ hbx]; rfl
  have k1 : w.cell? ⟨bx, 1, none⟩ = some (.int .i64 b) := by rw [cell_of_row _ _ _ _ _ _ hbx]; rfl
  have HX : Hid (∀ o, Below w.heap.size w (w.alloc o)) := Lib.hid (fun o => nb_alloc (Below.refl _ _) o)
  clear hbx
  rw [eqHd]
  cases h1 : (x1 == a) <;> cases h2 : (x2 == b)
  all_goals
    go_enter Try.func36, Try.ntmps36
    go_wp2
    go_ret
    exact ⟨rfl, HX.out _⟩

set_option maxHeartbeats 2000000 in
theorem refLoosenLit_any (x : Bd) (bx : Nat) (a b : Int) (w : World) (hbx : w.heap[bx]? = some (.cells #[.int .i64 a, .int .i64 b] 38)) :
    Calls Try.prog 39 #[.agg #[.int .i64 x.1.1, .int .i64 x.1.2, .int .i64 x.2.1, .int .i64 x.2.2], .pointer (some ⟨bx, 0, none⟩)] w fun e w' => e = .returned (.bool (decide (x.1 = (a, b)))) ∧ Below w.heap.size w w' := by
  obtain ⟨⟨x1, x2⟩, x3, x4⟩ := x
  have hbl := (Array.getElem?_eq_some_iff.1 hbx).1
  have k0 : w.cell? ⟨bx, 0, none⟩ = some (.int .i64 a) := by rw [cell_of_row _ _ _ _ _ _ hbx]; rfl
  have k1 : w.cell? ⟨bx, 1, none⟩ = some (.int .i64 b) := by rw [cell_of_row _ _ _ _ _ _ hbx]; rfl
  have HX : Hid (∀ o, Below w.heap.size w (w.alloc o)) := Lib.hid (fun o => nb_alloc (Below.refl _ _) o)
  clear hbx
  rw [eqHd]
  cases h1 : (x1 == a) <;> cases h2 : (x2 == b)
  all_goals
    go_enter Try.func39, Try.ntmps39
    go_wp2
    go_ret
    exact ⟨rfl, HX.out _⟩

set_option maxHeartbeats 2000000 in
theorem refGoneLit_any (x : Bd) (bx : Nat) (a b : Int) (w : World) (hbx : w.heap[bx]? = some (.cells #[.int .i64 a, .int .i64 b] 38)) :
    Calls Try.prog 41 #[.agg #[.int .i64 x.1.1, .int .i64 x.1.2, .int .i64 x.2.1, .int .i64 x.2.2], .pointer (some ⟨bx, 0, none⟩)] w fun e w' => e = .returned (.bool (decide (x.1 = (a, b)) || decide (x.2 = (a, b)))) ∧ Below w.heap.size w w' := by
  obtain ⟨⟨x1, x2⟩, x3, x4⟩ := x
  have hbl := (Array.getElem?_eq_some_iff.1 hbx).1
  have k0 : w.cell? ⟨bx, 0, none⟩ = some (.int .i64 a) := by rw [cell_of_row _ _ _ _ _ _ hbx]; rfl
  have k1 : w.cell? ⟨bx, 1, none⟩ = some (.int .i64 b) := by rw [cell_of_row _ _ _ _ _ _ hbx]; rfl
  have HX : Hid (∀ o, Below w.heap.size w (w.alloc o)) := Lib.hid (fun o => nb_alloc (Below.refl _ _) o)
  clear hbx
  rw [eqHd, eqHd]
  cases h1 : (x1 == a) <;> cases h2 : (x2 == b) <;> cases h3 : (x3 == a) <;> cases h4 : (x4 == b)
  all_goals
    go_enter Try.func41, Try.ntmps41
    go_wp2
    go_ret
    exact ⟨rfl, HX.out _⟩

set_option maxHeartbeats 4000000 in
theorem withoutAdopt_any (v : Value) (bs : List Bd) (bx : Nat) (a b : Int) (w : World) (h : Reads elBond w v bs) (hn32 : bs.length * 32 ≤ 140737488355328) (hbx : w.heap[bx]? = some (.cells #[.int .i64 a, .int .i64 b] 38)) :
    Calls Try.prog 35 #[v, .func (.func 36) #[] #[.pointer (some ⟨bx, 0, none⟩)]] w (SelPost w (bs.filter (fun x => !(decide (x.1 = (a, b)))))) := by
  obtain ⟨i0, hi, hz0, hz1, hz2⟩ := info_parts infoBond
  obtain ⟨hm, hop⟩ := h.open
  obtain ⟨n, hn⟩ : ∃ n, bs.length = n := ⟨_, rfl⟩
  have HN := Lib.hid hn
  have HBX := Lib.hid hbx
  rw [hn] at hm hop hn32
  obtain ⟨Q, hQ⟩ : ∃ Q : Bd → Bool, (fun x : Bd => !(decide (x.1 = (a, b)))) = Q := ⟨_, rfl⟩
  have HQ := Lib.hid (fun x : Bd => (congrFun hQ x).symm)
  rw [hQ]
  clear hn h hbx hQ
  unfold maxLen at hm
  rcases hop with ⟨ad, cap, rfl, hz⟩ | ⟨bl, off, cap, rfl, hb, hlc, hcm, hc⟩
  all_goals
    go_enter Try.func35, Try.ntmps35
    go_wp2
    go_loopw [5, 10] (fun u i wr => ∃ k : Nat, k ≤ n ∧ i = .int .i64 k ∧ Hid (OwnsF elBond wr w.heap.size 44 u ((bs.take k).filter Q)) ∧ Hid (Below w.heap.size w wr)) (fun _ i _ => n - (intOf i).toNat)
    case atStart => exact ⟨0, by omega, rfl, OwnsF.nil _ _ _ _, Below.refl _ _⟩
    case round =>
      obtain ⟨k, hk, rfl, hO, hB⟩ := hrel
      by_cases hlt : k < n
      · first
          | omega
          | (have hcr : ∀ jj, jj < 4 → wr.cell? ⟨bl, off + k * 4 + jj, none⟩ = (elBond.enc (bs.getD k bdZ))[jj]? := fun jj hjj => by rw [hB.out.cell (p := ⟨bl, _, none⟩) hb]; exact hc k hlt jj hjj
             have hkl : k < bs.length := by rw [HN.out]; exact hlt
             have HTK : Hid (bs.take (k + 1) = bs.take k ++ [bs.getD k bdZ]) := Lib.hid (by rw [List.take_add_one, List.getElem?_eq_getElem hkl, List.getD_eq_getElem?_getD, List.getElem?_eq_getElem hkl]; rfl)
             have hbw : bl < wr.heap.size := Nat.lt_of_lt_of_le hb hB.out.size
             obtain ⟨y, hy⟩ : ∃ y, bs.getD k bdZ = y := ⟨_, rfl⟩
             rw [hy] at hcr HTK
             obtain ⟨⟨y1, y2⟩, y3, y4⟩ := y
             have c0 : wr.cell? ⟨bl, off + k * 4, none⟩ = some (.int .i64 y1) := hcr 0 (by decide)
             have c1 : wr.cell? ⟨bl, off + k * 4 + 1, none⟩ = some (.int .i64 y2) := hcr 1 (by decide)
             have c2 : wr.cell? ⟨bl, off + k * 4 + 2, none⟩ = some (.int .i64 y3) := hcr 2 (by decide)
             have c3 : wr.cell? ⟨bl, off + k * 4 + 3, none⟩ = some (.int .i64 y4) := hcr 3 (by decide)
             have hLk : ((bs.take k).filter Q).length ≤ k := Nat.le_trans (List.length_filter_le _ _) (by rw [List.length_take]; omega)
             obtain ⟨L, hL⟩ : ∃ L, (bs.take k).filter Q = L := ⟨_, rfl⟩
             rw [hL] at hO hLk
             have HL := Lib.hid hL
             have HAR : Hid ((wr.alloc (.cells #[.int .i64 y1, .int .i64 y2, .int .i64 y3, .int .i64 y4] 44)).heap[wr.heap.size]? = some (.cells #[.int .i64 y1, .int .i64 y2, .int .i64 y3, .int .i64 y4] 44)) := Lib.hid (heap_alloc_new _ _)
             have HBA := Lib.hid (nb_alloc hB.out (.cells #[.int .i64 y1, .int .i64 y2, .int .i64 y3, .int .i64 y4] 44))
             have HOA := Lib.hid (hO.out.later (nb_alloc (Below.refl _ _) (.cells #[.int .i64 y1, .int .i64 y2, .int .i64 y3, .int .i64 y4] 44)))
             clear hcr hc hy hL hO
             go_wp2_with fail
             generalize wr.alloc (.cells #[.int .i64 y1, .int .i64 y2, .int .i64 y3, .int .i64 y4] 44) = A at *
             clear c0 c1 c2 c3
             have hAl := (Array.getElem?_eq_some_iff.1 HAR.out).1
             refine (refAdoptLit_any ((y1, y2), (y3, y4)) bx a b _ (by rw [HBA.out.block _ (Array.getElem?_eq_some_iff.1 HBX.out).1]; exact HBX.out)).mono ?_
             rintro e w6 ⟨rfl, hb6⟩
             have hr6 : w6.heap[wr.heap.size]? = some (.cells #[.int .i64 y1, .int .i64 y2, .int .i64 y3, .int .i64 y4] 44) := by rw [hb6.block _ hAl]; exact HAR.out
             have HO6 := Lib.hid (HOA.out.later hb6)
             have HB6 := Lib.hid (nb_trans HBA.out hb6)
             have hr6l := (Array.getElem?_eq_some_iff.1 hr6).1
             have hs6 := HB6.out.size
             have k0 : w6.cell? ⟨wr.heap.size, 0, none⟩ = some (.int .i64 y1) := by rw [cell_of_row _ _ _ _ _ _ hr6]; rfl
             have k1 : w6.cell? ⟨wr.heap.size, 1, none⟩ = some (.int .i64 y2) := by rw [cell_of_row _ _ _ _ _ _ hr6]; rfl
             have k2 : w6.cell? ⟨wr.heap.size, 2, none⟩ = some (.int .i64 y3) := by rw [cell_of_row _ _ _ _ _ _ hr6]; rfl
             have k3 : w6.cell? ⟨wr.heap.size, 3, none⟩ = some (.int .i64 y4) := by rw [cell_of_row _ _ _ _ _ _ hr6]; rfl
             clear hb6 hr6
             have hqy := HQ.out ((y1, y2), (y3, y4))
             dsimp only at hqy
             obtain ⟨bv, hbv⟩ : ∃ bv, (decide (((y1, y2) : Hd) = (a, b))) = bv := ⟨_, rfl⟩
             rw [hbv] at hqy
             rw [hbv]
             cases bv
             · have HNX : Hid ((bs.take (k + 1)).filter Q = L ++ [((y1, y2), (y3, y4))]) := Lib.hid (by rw [HTK.out, filtB_t hqy, HL.out])
               clear hqy hbv
               go_wp2_with (first | (at_builtin; refine wpList_append_own _ rfl _ _ 31 rfl w.heap.size 44 i0 _ 4 32 Try.underlying31 hi hz0 hz1 hz2 rfl (by decide) _ L.length (L.flatMap elBond.enc) rfl (World.ownsRow.alloc HO6.out _) ⟨w6.heap.size, 0, none⟩ 1 1 [.int .i64 y1, .int .i64 y2, .int .i64 y3, .int .i64 y4] rfl rfl (World.news_of_block (heap_alloc_new _ _)) (elBond.one ((y1, y2), (y3, y4))) (by unfold maxLen; omega) (by omega) (by simp; omega) ?_; intro v' w2 hown hgr hnil))
               have HO2 : Hid (OwnsF elBond w2 w.heap.size 44 v' (L ++ [((y1, y2), (y3, y4))])) := Lib.hid (OwnsF.snoc (x := ((y1, y2), (y3, y4))) hown)
               have HB2 : Hid (Below w.heap.size w w2) := Lib.hid ((nb_alloc HB6.out _).grown hgr (by simp; omega) (fun j hj => HO6.out.ge hj))
               clear hown hgr hnil k0 k1 k2 k3
               go_wp2
               go_roundw
               case rel => exact ⟨k + 1, by omega, by go_num, by rw [HNX.out]; exact HO2, HB2⟩
               case measure => simp [intOf]; omega
             · have HNX : Hid ((bs.take (k + 1)).filter Q = L) := Lib.hid (by rw [HTK.out, filtB_f hqy, HL.out])
               clear hqy hbv k0 k1 k2 k3
               go_wp2
               go_roundw
               case rel => exact ⟨k + 1, by omega, by go_num, by rw [HNX.out]; exact HO6, HB6⟩
               case measure => simp [intOf]; omega)
      · obtain rfl : k = n := by omega
        rw [List.take_of_length_le (by rw [HN.out]; exact Nat.le_refl _)] at hO
        go_wp2
        go_ret
        exact ⟨_, rfl, hO.out, hB.out⟩

set_option maxHeartbeats 4000000 in
theorem withoutLoosen_any (v : Value) (bs : List Bd) (bx : Nat) (a b : Int) (w : World) (h : Reads elBond w v bs) (hn32 : bs.length * 32 ≤ 140737488355328) (hbx : w.heap[bx]? = some (.cells #[.int .i64 a, .int .i64 b] 38)) :
    Calls Try.prog 35 #[v, .func (.func 39) #[] #[.pointer (some ⟨bx, 0, none⟩)]] w (SelPost w (bs.filter (fun x => !(decide (x.1 = (a, b)))))) := by
  obtain ⟨i0, hi, hz0, hz1, hz2⟩ := info_parts infoBond
  obtain ⟨hm, hop⟩ := h.open
  obtain ⟨n, hn⟩ : ∃ n, bs.length = n := ⟨_, rfl⟩
  have HN := Lib.hid hn
  have HBX := Lib.hid hbx
  rw [hn] at hm hop hn32
  obtain ⟨Q, hQ⟩ : ∃ Q : Bd → Bool, (fun x : Bd => !(decide (x.1 = (a, b)))) = Q := ⟨_, rfl⟩
  have HQ := Lib.hid (fun x : Bd => (congrFun hQ x).symm)
  rw [hQ]
  clear hn h hbx hQ
  unfold maxLen at hm
  rcases hop with ⟨ad, cap, rfl, hz⟩ | ⟨bl, off, cap, rfl, hb, hlc, hcm, hc⟩
  all_goals
    go_enter Try.func35, Try.ntmps35
    go_wp2
    go_loopw [5, 10] (fun u i wr => ∃ k : Nat, k ≤ n ∧ i = .int .i64 k ∧ Hid (OwnsF elBond wr w.heap.size 44 u ((bs.take k).filter Q)) ∧ Hid (Below w.heap.size w wr)) (fun _ i _ => n - (intOf i).toNat)
    case atStart => exact ⟨0, by omega, rfl, OwnsF.nil _ _ _ _, Below.refl _ _⟩
    case round =>
      obtain ⟨k, hk, rfl, hO, hB⟩ := hrel
      by_cases hlt : k < n
      · first
          | omega
          | (have hcr : ∀ jj, jj < 4 → wr.cell? ⟨bl, off + k * 4 + jj, none⟩ = (elBond.enc (bs.getD k bdZ))[jj]? := fun jj hjj => by rw [hB.out.cell (p := ⟨bl, _, none⟩) hb]; exact hc k hlt jj hjj
             have hkl : k < bs.length := by rw [HN.out]; exact hlt
             have HTK : Hid (bs.take (k + 1) = bs.take k ++ [bs.getD k bdZ]) := Lib.hid (by rw [List.take_add_one, List.getElem?_eq_getElem hkl, List.getD_eq_getElem?_getD, List.getElem?_eq_getElem hkl]; rfl)
             have hbw : bl < wr.heap.size := Nat.lt_of_lt_of_le hb hB.out.size
             obtain ⟨y, hy⟩ : ∃ y, bs.getD k bdZ = y := ⟨_, rfl⟩
             rw [hy] at hcr HTK
             obtain ⟨⟨y1, y2⟩, y3, y4⟩ := y
             have c0 : wr.cell? ⟨bl, off + k * 4, none⟩ = some (.int .i64 y1) := hcr 0 (by decide)
             have c1 : wr.cell? ⟨bl, off + k * 4 + 1, none⟩ = some (.int .i64 y2) := hcr 1 (by decide)
             have c2 : wr.cell? ⟨bl, off + k * 4 + 2, none⟩ = some (.int .i64 y3) := hcr 2 (by decide)
             have c3 : wr.cell? ⟨bl, off + k * 4 + 3, none⟩ = some (.int .i64 y4) := hcr 3 (by decide)
             have hLk : ((bs.take k).filter Q).length ≤ k := Nat.le_trans (List.length_filter_le _ _) (by rw [List.length_take]; omega)
             obtain ⟨L, hL⟩ : ∃ L, (bs.take k).filter Q = L := ⟨_, rfl⟩
             rw [hL] at hO hLk
             have HL := Lib.hid hL
             have HAR : Hid ((wr.alloc (.cells #[.int .i64 y1, .int .i64 y2, .int .i64 y3, .int .i64 y4] 44)).heap[wr.heap.size]? = some (.cells #[.int .i64 y1, .int .i64 y2, .int .i64 y3, .int .i64 y4] 44)) := Lib.hid (heap_alloc_new _ _)
             have HBA := Lib.hid (nb_alloc hB.out (.cells #[.int .i64 y1, .int .i64 y2, .int .i64 y3, .int .i64 y4] 44))
             have HOA := Lib.hid (hO.out.later (nb_alloc (Below.refl _ _) (.cells #[.int .i64 y1, .int .i64 y2, .int .i64 y3, .int .i64 y4] 44)))
             clear hcr hc hy hL hO
             go_wp2_with fail
             generalize wr.alloc (.cells #[.int .i64 y1, .int .i64 y2, .int .i64 y3, .int .i64 y4] 44) = A at *
             clear c0 c1 c2 c3
             have hAl := (Array.getElem?_eq_some_iff.1 HAR.out).1
             refine (refLoosenLit_any ((y1, y2), (y3, y4)) bx a b _ (by rw [HBA.out.block _ (Array.getElem?_eq_some_iff.1 HBX.out).1]; exact HBX.out)).mono ?_
             rintro e w6 ⟨rfl, hb6⟩
             have hr6 : w6.heap[wr.heap.size]? = some (.cells #[.int .i64 y1, .int .i64 y2, .int .i64 y3, .int .i64 y4] 44) := by rw [hb6.block _ hAl]; exact HAR.out
             have HO6 := Lib.hid (HOA.out.later hb6)
             have HB6 := Lib.hid (nb_trans HBA.out hb6)
             have hr6l := (Array.getElem?_eq_some_iff.1 hr6).1
             have hs6 := HB6.out.size
             have k0 : w6.cell? ⟨wr.heap.size, 0, none⟩ = some (.int .i64 y1) := by rw [cell_of_row _ _ _ _ _ _ hr6]; rfl
             have k1 : w6.cell? ⟨wr.heap.size, 1, none⟩ = some (.int .i64 y2) := by rw [cell_of_row _ _ _ _ _ _ hr6]; rfl
             have k2 : w6.cell? ⟨wr.heap.size, 2, none⟩ = some (.int .i64 y3) := by rw [cell_of_row _ _ _ _ _ _ hr6]; rfl
             have k3 : w6.cell? ⟨wr.heap.size, 3, none⟩ = some (.int .i64 y4) := by rw [cell_of_row _ _ _ _ _ _ hr6]; rfl
             clear hb6 hr6
             have hqy := HQ.out ((y1, y2), (y3, y4))
             dsimp only at hqy
             obtain ⟨bv, hbv⟩ : ∃ bv, (decide (((y1, y2) : Hd) = (a, b))) = bv := ⟨_, rfl⟩
             rw [hbv] at hqy
             rw [hbv]
             cases bv
             · have HNX : Hid ((bs.take (k + 1)).filter Q = L ++ [((y1, y2), (y3, y4))]) := Lib.hid (by rw [HTK.out, filtB_t hqy, HL.out])
               clear hqy hbv
               go_wp2_with (first | (at_builtin; refine wpList_append_own _ rfl _ _ 31 rfl w.heap.size 44 i0 _ 4 32 Try.underlying31 hi hz0 hz1 hz2 rfl (by decide) _ L.length (L.flatMap elBond.enc) rfl (World.ownsRow.alloc HO6.out _) ⟨w6.heap.size, 0, none⟩ 1 1 [.int .i64 y1, .int .i64 y2, .int .i64 y3, .int .i64 y4] rfl rfl (World.news_of_block (heap_alloc_new _ _)) (elBond.one ((y1, y2), (y3, y4))) (by unfold maxLen; omega) (by omega) (by simp; omega) ?_; intro v' w2 hown hgr hnil))
               have HO2 : Hid (OwnsF elBond w2 w.heap.size 44 v' (L ++ [((y1, y2), (y3, y4))])) := Lib.hid (OwnsF.snoc (x := ((y1, y2), (y3, y4))) hown)
               have HB2 : Hid (Below w.heap.size w w2) := Lib.hid ((nb_alloc HB6.out _).grown hgr (by simp; omega) (fun j hj => HO6.out.ge hj))
               clear hown hgr hnil k0 k1 k2 k3
               go_wp2
               go_roundw
               case rel => exact ⟨k + 1, by omega, by go_num, by rw [HNX.out]; exact HO2, HB2⟩
               case measure => simp [intOf]; omega
             · have HNX : Hid ((bs.take (k + 1)).filter Q = L) := Lib.hid (by rw [HTK.out, filtB_f hqy, HL.out])
               clear hqy hbv k0 k1 k2 k3
               go_wp2
               go_roundw
               case rel => exact ⟨k + 1, by omega, by go_num, by rw [HNX.out]; exact HO6, HB6⟩
               case measure => simp [intOf]; omega)
      · obtain rfl : k = n := by omega
        rw [List.take_of_length_le (by rw [HN.out]; exact Nat.le_refl _)] at hO
        go_wp2
        go_ret
        exact ⟨_, rfl, hO.out, hB.out⟩

set_option maxHeartbeats 4000000 in
theorem withoutGone_any (v : Value) (bs : List Bd) (bx : Nat) (a b : Int) (w : World) (h : Reads elBond w v bs) (hn32 : bs.length * 32 ≤ 140737488355328) (hbx : w.heap[bx]? = some (.cells #[.int .i64 a, .int .i64 b] 38)) :
    Calls Try.prog 35 #[v, .func (.func 41) #[] #[.pointer (some ⟨bx, 0, none⟩)]] w (SelPost w (bs.filter (fun x => !(decide (x.1 = (a, b)) || decide (x.2 = (a, b)))))) := by
  obtain ⟨i0, hi, hz0, hz1, hz2⟩ := info_parts infoBond
  obtain ⟨hm, hop⟩ := h.open
  obtain ⟨n, hn⟩ : ∃ n, bs.length = n := ⟨_, rfl⟩
  have HN := Lib.hid hn
  have HBX := Lib.hid hbx
  rw [hn] at hm hop hn32
  obtain ⟨Q, hQ⟩ : ∃ Q : Bd → Bool, (fun x : Bd => !(decide (x.1 = (a, b)) || decide (x.2 = (a, b)))) = Q := ⟨_, rfl⟩
  have HQ := Lib.hid (fun x : Bd => (congrFun hQ x).symm)
  rw [hQ]
  clear hn h hbx hQ
  unfold maxLen at hm
  rcases hop with ⟨ad, cap, rfl, hz⟩ | ⟨bl, off, cap, rfl, hb, hlc, hcm, hc⟩
  all_goals
    go_enter Try.func35, Try.ntmps35
    go_wp2
    go_loopw [5, 10] (fun u i wr => ∃ k : Nat, k ≤ n ∧ i = .int .i64 k ∧ Hid (OwnsF elBond wr w.heap.size 44 u ((bs.take k).filter Q)) ∧ Hid (Below w.heap.size w wr)) (fun _ i _ => n - (intOf i).toNat)
    case atStart => exact ⟨0, by omega, rfl, OwnsF.nil _ _ _ _, Below.refl _ _⟩
    case round =>
      obtain ⟨k, hk, rfl, hO, hB⟩ := hrel
      by_cases hlt : k < n
      · first
          | omega
          | (have hcr : ∀ jj, jj < 4 → wr.cell? ⟨bl, off + k * 4 + jj, none⟩ = (elBond.enc (bs.getD k bdZ))[jj]? := fun jj hjj => by rw [hB.out.cell (p := ⟨bl, _, none⟩) hb]; exact hc k hlt jj hjj
             have hkl : k < bs.length := by rw [HN.out]; exact hlt
             have HTK : Hid (bs.take (k + 1) = bs.take k ++ [bs.getD k bdZ]) := Lib.hid (by rw [List.take_add_one, List.getElem?_eq_getElem hkl, List.getD_eq_getElem?_getD, List.getElem?_eq_getElem hkl]; rfl)
             have hbw : bl < wr.heap.size := Nat.lt_of_lt_of_le hb hB.out.size
             obtain ⟨y, hy⟩ : ∃ y, bs.getD k bdZ = y := ⟨_, rfl⟩
             rw [hy] at hcr HTK
             obtain ⟨⟨y1, y2⟩, y3, y4⟩ := y
             have c0 : wr.cell? ⟨bl, off + k * 4, none⟩ = some (.int .i64 y1) := hcr 0 (by decide)
             have c1 : wr.cell? ⟨bl, off + k * 4 + 1, none⟩ = some (.int .i64 y2) := hcr 1 (by decide)
             have c2 : wr.cell? ⟨bl, off + k * 4 + 2, none⟩ = some (.int .i64 y3) := hcr 2 (by decide)
             have c3 : wr.cell? ⟨bl, off + k * 4 + 3, none⟩ = some (.int .i64 y4) := hcr 3 (by decide)
             have hLk : ((bs.take k).filter Q).length ≤ k := Nat.le_trans (List.length_filter_le _ _) (by rw [List.length_take]; omega)
             obtain ⟨L, hL⟩ : ∃ L, (bs.take k).filter Q = L := ⟨_, rfl⟩
             rw [hL] at hO hLk
             have HL := Lib.hid hL
             have HAR : Hid ((wr.alloc (.cells #[.int .i64 y1, .int .i64 y2, .int .i64 y3, .int .i64 y4] 44)).heap[wr.heap.size]? = some (.cells #[.int .i64 y1, .int .i64 y2, .int .i64 y3, .int .i64 y4] 44)) := Lib.hid (heap_alloc_new _ _)
             have HBA := Lib.hid (nb_alloc hB.out (.cells #[.int .i64 y1, .int .i64 y2, .int .i64 y3, .int .i64 y4] 44))
             have HOA := Lib.hid (hO.out.later (nb_alloc (Below.refl _ _) (.cells #[.int .i64 y1, .int .i64 y2, .int .i64 y3, .int .i64 y4] 44)))
             clear hcr hc hy hL hO
             go_wp2_with fail
             generalize wr.alloc (.cells #[.int .i64 y1, .int .i64 y2, .int .i64 y3, .int .i64 y4] 44) = A at *
             clear c0 c1 c2 c3
             have hAl := (Array.getElem?_eq_some_iff.1 HAR.out).1
             refine (refGoneLit_any ((y1, y2), (y3, y4)) bx a b _ (by rw [HBA.out.block _ (Array.getElem?_eq_some_iff.1 HBX.out).1]; exact HBX.out)).mono ?_
             rintro e w6 ⟨rfl, hb6⟩
             have hr6 : w6.heap[wr.heap.size]? = some (.cells #[.int .i64 y1, .int .i64 y2, .int .i64 y3, .int .i64 y4] 44) := by rw [hb6.block _ hAl]; exact HAR.out
             have HO6 := Lib.hid (HOA.out.later hb6)
             have HB6 := Lib.hid (nb_trans HBA.out hb6)
             have hr6l := (Array.getElem?_eq_some_iff.1 hr6).1
             have hs6 := HB6.out.size
             have k0 : w6.cell? ⟨wr.heap.size, 0, none⟩ = some (.int .i64 y1) := by rw [cell_of_row _ _ _ _ _ _ hr6]; rfl
             have k1 : w6.cell? ⟨wr.heap.size, 1, none⟩ = some (.int .i64 y2) := by rw [cell_of_row _ _ _ _ _ _ hr6]; rfl
             have k2 : w6.cell? ⟨wr.heap.size, 2, none⟩ = some (.int .i64 y3) := by rw [cell_of_row _ _ _ _ _ _ hr6]; rfl
             have k3 : w6.cell? ⟨wr.heap.size, 3, none⟩ = some (.int .i64 y4) := by rw [cell_of_row _ _ _ _ _ _ hr6]; rfl
             clear hb6 hr6
             have hqy := HQ.out ((y1, y2), (y3, y4))
             dsimp only at hqy
             obtain ⟨bv, hbv⟩ : ∃ bv, (decide (((y1, y2) : Hd) = (a, b)) || decide (((y3, y4) : Hd) = (a, b))) = bv := ⟨_, rfl⟩
             rw [hbv] at hqy
             rw [hbv]
             cases bv
             · have HNX : Hid ((bs.take (k + 1)).filter Q = L ++ [((y1, y2), (y3, y4))]) := Lib.hid (by rw [HTK.out, filtB_t hqy, HL.out])
               clear hqy hbv
               go_wp2_with (first | (at_builtin; refine wpList_append_own _ rfl _ _ 31 rfl w.heap.size 44 i0 _ 4 32 Try.underlying31 hi hz0 hz1 hz2 rfl (by decide) _ L.length (L.flatMap elBond.enc) rfl (World.ownsRow.alloc HO6.out _) ⟨w6.heap.size, 0, none⟩ 1 1 [.int .i64 y1, .int .i64 y2, .int .i64 y3, .int .i64 y4] rfl rfl (World.news_of_block (heap_alloc_new _ _)) (elBond.one ((y1, y2), (y3, y4))) (by unfold maxLen; omega) (by omega) (by simp; omega) ?_; intro v' w2 hown hgr hnil))
               have HO2 : Hid (OwnsF elBond w2 w.heap.size 44 v' (L ++ [((y1, y2), (y3, y4))])) := Lib.hid (OwnsF.snoc (x := ((y1, y2), (y3, y4))) hown)
               have HB2 : Hid (Below w.heap.size w w2) := Lib.hid ((nb_alloc HB6.out _).grown hgr (by simp; omega) (fun j hj => HO6.out.ge hj))
               clear hown hgr hnil k0 k1 k2 k3
               go_wp2
               go_roundw
               case rel => exact ⟨k + 1, by omega, by go_num, by rw [HNX.out]; exact HO2, HB2⟩
               case measure => simp [intOf]; omega
             · have HNX : Hid ((bs.take (k + 1)).filter Q = L) := Lib.hid (by rw [HTK.out, filtB_f hqy, HL.out])
               clear hqy hbv k0 k1 k2 k3
               go_wp2
               go_roundw
               case rel => exact ⟨k + 1, by omega, by go_num, by rw [HNX.out]; exact HO6, HB6⟩
               case measure => simp [intOf]; omega)
      · obtain rfl : k = n := by omega
        rw [List.take_of_length_le (by rw [HN.out]; exact Nat.le_refl _)] at hO
        go_wp2
        go_ret
        exact ⟨_, rfl, hO.out, hB.out⟩
end Go.Proofs.Ytlclceiebnnpgaa

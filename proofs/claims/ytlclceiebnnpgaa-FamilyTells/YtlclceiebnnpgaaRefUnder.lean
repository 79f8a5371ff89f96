/- The contract of the reference's Under: it calls itself. -/
import Derived.Test.YtlclceiebnnpgaaRefBond
import Derived.Laws.OwnMore
namespace Go.Proofs.Ytlclceiebnnpgaa
set_option maxRecDepth 8000
open Go.RowKit

theorem flatTake (g : Hd → List Hd) (cs : List Hd) (k : Nat) (hk : k < cs.length) : (cs.take (k + 1)).flatMap (fun c => c :: g c) = (cs.take k).flatMap (fun c => c :: g c) ++ [cs.getD k (0, 0)] ++ g (cs.getD k (0, 0)) := by
  rw [List.take_add_one, List.getElem?_eq_getElem hk, List.getD_eq_getElem?_getD, List.getElem?_eq_getElem hk, List.flatMap_append]
  simp

set_option maxHeartbeats 4000000 in
theorem refUnder_any (q : Nat) (G : Nat → Prop) (bs : List Bd) (d : Hd → Nat) (M : Nat) (hs : SortedB bs) (ha : AcyBy bs d M) (hn32 : bs.length * 32 ≤ 140737488355328) : ∀ (n : Nat) (a b : Int) (w : World), d (a, b) ≤ n → BonAt w q G bs →
    Calls Try.prog 19 #[.pointer (some ⟨q, 0, none⟩), .agg #[.int .i64 a, .int .i64 b]] w (HandsPost w (under bs M (a, b))) := by
  obtain ⟨i0, hi, hz0, hz1, hz2⟩ := info_parts infoHand
  intro n
  induction n using Nat.strongRecOn with
  | ind n ih =>
  intro a b w hd h
  have HIH : Hid (∀ (c : Hd) (W : World), c ∈ kids bs (a, b) → BonAt W q G bs → Calls Try.prog 19 #[.pointer (some ⟨q, 0, none⟩), .agg #[.int .i64 c.1, .int .i64 c.2]] W (HandsPost W (under bs M c))) := Lib.hid (fun c W hc hW => ih (d c) (by have := (ha.kid hc).1; omega) c.1 c.2 W (Nat.le_refl _) hW)
  have HUE := Lib.hid (ha.under_eq (a, b))
  have HUL := Lib.hid (ha.under_len hs (a, b))
  have HX : Hid (Below w.heap.size w (w.alloc (.cells #[.int .i64 a, .int .i64 b] 38))) := Lib.hid (nb_alloc (Below.refl _ _) _)
  have HHB : Hid ((w.alloc (.cells #[.int .i64 a, .int .i64 b] 38)).heap[w.heap.size]? = some (.cells #[.int .i64 a, .int .i64 b] 38)) := Lib.hid (heap_alloc_new _ _)
  have HW := Lib.hid (h.later HX.out)
  have HN := Lib.hid hn32
  obtain ⟨U, hU⟩ : ∃ U, under bs M (a, b) = U := ⟨_, rfl⟩
  rw [hU] at HUE HUL
  rw [hU]
  clear ih h hd hU
  go_enter Try.func19, Try.ntmps19
  go_wp2_with fail
  generalize w.alloc (.cells #[.int .i64 a, .int .i64 b] 38) = X at *
  refine (refChildren_any q G bs a b _ HW.out HN.out).mono ?_
  rintro e w2 ⟨vc, rfl, ho2, hb2⟩
  obtain ⟨cs, hcs⟩ : ∃ cs, kids bs (a, b) = cs := ⟨_, rfl⟩
  rw [hcs] at ho2 HIH HUE
  have HW2 := Lib.hid (HW.out.later hb2)
  have HB2 := Lib.hid (nb_trans HX.out hb2)
  have HCO := Lib.hid ho2
  obtain ⟨hm, hop⟩ := ho2.reads.open
  unfold maxLen at hm
  obtain ⟨cn, hcn⟩ : ∃ cn, cs.length = cn := ⟨_, rfl⟩
  have HCN := Lib.hid hcn
  rw [hcn] at hm hop
  have hul : U.length * 32 ≤ 140737488355328 := by have := HUL.out; omega
  have HTL : Hid (∀ k, ((cs.take k).flatMap (fun c => c :: under bs M c)).length ≤ U.length) := Lib.hid (fun k => by
    rw [HUE.out, ← List.take_append_drop k cs]
    conv => rhs; rw [List.flatMap_append]
    rw [List.length_append, List.take_append_drop]
    omega)
  clear ho2 hb2 hcs hcn
  rcases hop with ⟨ad, cap, rfl, hz⟩ | ⟨bl, off, cap, rfl, hb, hlc, hcm, hc⟩
  all_goals
    go_wp2
    go_loopw [5, 12] (fun v5 i wr => ∃ k : Nat, k ≤ cn ∧ i = .int .i64 k ∧ Hid (OwnsF elHand wr w2.heap.size 38 v5 ((cs.take k).flatMap (fun c => c :: under bs M c))) ∧ Hid (Below w2.heap.size w2 wr)) (fun _ i _ => cn - (intOf i).toNat)
    case atStart => exact ⟨0, by omega, rfl, OwnsF.nil _ _ _ _, Below.refl _ _⟩
    case round =>
      obtain ⟨k, hk, rfl, hO, hB⟩ := hrel
      have hBs := hB.out.size
      by_cases hlt : k < cn
      · first
          | omega
          | (have hkl : k < cs.length := by rw [HCN.out]; exact hlt
             obtain ⟨c0, c1⟩ := cells2 (E := elHand) rfl hc hlt
             have hbw : bl < wr.heap.size := Nat.lt_of_lt_of_le hb hBs
             have HFT := Lib.hid (flatTake (under bs M) cs k hkl)
             have HYM := Lib.hid (memD (d := (0, 0)) hkl)
             have ht1 := HTL.out (k + 1)
             obtain ⟨y, hy⟩ : ∃ y, cs.getD k (0, 0) = y := ⟨_, rfl⟩
             have c0' : wr.cell? ⟨bl, off + k * 2, none⟩ = some (.int .i64 y.1) := by rw [hB.out.cell (p := ⟨bl, _, none⟩) hb, c0, ← hy]; rfl
             have c1' : wr.cell? ⟨bl, off + k * 2 + 1, none⟩ = some (.int .i64 y.2) := by rw [hB.out.cell (p := ⟨bl, _, none⟩) hb, c1, ← hy]; rfl
             rw [hy] at HFT HYM
             obtain ⟨y1, y2⟩ := y
             rw [HFT.out] at ht1
             simp only [List.length_append, List.length_cons, List.length_nil] at ht1
             obtain ⟨L, hL⟩ : ∃ L, (cs.take k).flatMap (fun c => c :: under bs M c) = L := ⟨_, rfl⟩
             rw [hL] at hO HFT ht1
             have HIY := Lib.hid (fun W hW => HIH.out (y1, y2) W HYM.out hW)
             obtain ⟨UY, hUY⟩ : ∃ UY, under bs M (y1, y2) = UY := ⟨_, rfl⟩
             rw [hUY] at HFT HIY ht1
             clear c0 c1 hy hc hL hUY
             go_wp2_with (first | (at_builtin; refine wpList_append_own _ rfl _ _ 51 rfl w2.heap.size 38 i0 _ 2 16 Try.underlying51 hi hz0 hz1 hz2 rfl (by decide) _ L.length (L.flatMap elHand.enc) rfl (World.ownsRow.alloc (World.ownsRow.alloc hO.out _) _) ⟨wr.heap.size + 1, 0, none⟩ 1 1 [.int .i64 y1, .int .i64 y2] rfl rfl (World.news_of_block (heap_alloc2_new _ _ _)) (elHand.one (y1, y2)) (by unfold maxLen; omega) ?d4 ?d5 ?_))
             case d4 => omega
             case d5 => omega
             intro v' w7 hown hgr hnil
             obtain ⟨g7, cap7, rfl, hmc7⟩ : ∃ g7 cap7, v' = .slice (some ⟨g7, 0, none⟩) (L.length + 1) cap7 ∧ L.length + 1 ≤ cap7 := by
               rcases (OwnsF.snoc (E := elHand) (xs := L) (x := (y1, y2)) hown).owns.form with ⟨_, e⟩ | ⟨g7, cap7, cur7, e7, _, _, h7, _⟩
               · simp at e
               · exact ⟨g7, cap7, by rw [e7]; simp, by simpa using h7⟩
             have HO7 := Lib.hid (OwnsF.snoc (E := elHand) (xs := L) (x := (y1, y2)) hown)
             have hB7 : Below w2.heap.size w2 w7 := (nb_alloc (nb_alloc hB.out _) _).grown hgr (by simp; omega) (fun j hj => hO.out.ge hj)
             have HB7 := Lib.hid hB7
             have hx7 : w7.heap[wr.heap.size]? = some (.cells #[.int .i64 y1, .int .i64 y2] 38) := by
               rw [hgr.block _ (by simp; omega) (fun e => by have := hO.out.lt e.symm; omega)]; exact heap_alloc2_old _ _ _
             have hx7l := (Array.getElem?_eq_some_iff.1 hx7).1
             have kx0 : w7.cell? ⟨wr.heap.size, 0, none⟩ = some (.int .i64 y1) := by rw [cell_of_row _ _ _ _ _ _ hx7]; rfl
             have kx1 : w7.cell? ⟨wr.heap.size, 1, none⟩ = some (.int .i64 y2) := by rw [cell_of_row _ _ _ _ _ _ hx7]; rfl
             have HLL : Hid ((L ++ [(y1, y2)]).length = L.length + 1) := Lib.hid (by simp)
             obtain ⟨L2, hL2⟩ : ∃ L2, L ++ [(y1, y2)] = L2 := ⟨_, rfl⟩
             rw [hL2] at HO7 HFT HLL
             clear hown hgr hnil hB7 hx7 c0' c1' hL2
             go_wp2_with fail
             refine (HIY.out _ (HW2.out.later HB7.out)).mono ?_
             rintro e w8 ⟨v8, rfl, ho8, hb8⟩
             have HO8 := Lib.hid (HO7.out.later hb8)
             have HB8 := Lib.hid (nb_trans HB7.out hb8)
             have hs8 := HB8.out.size
             have hll := HLL.out
             rcases ho8.owns.form with ⟨rfl, rfl⟩ | ⟨g8, cap8, cur8, rfl, hh8, hg8, hn8, hcap8, hsz8⟩
             · have hap0 := fun ty => run_append_owned_none (P := Try.prog) (w := w8) w2.heap.size 51 ty 38 i0 2 Try.underlying51 hi _ _ _ HO8.out
               have HNX : Hid (OwnsF elHand w8 w2.heap.size 38 (.slice (some ⟨g7, 0, none⟩) (L.length + 1) cap7) ((cs.take (k + 1)).flatMap (fun c => c :: under bs M c))) := Lib.hid (by rw [HFT.out, List.append_nil]; exact HO8.out)
               clear ho8 hb8 kx0 kx1
               go_wp2
               go_roundw
               case rel => exact ⟨k + 1, by omega, by go_num, HNX, HB8⟩
               case measure => simp [intOf]; omega
             · have HC8 : Hid (∀ j u, (UY.flatMap elHand.enc)[j]? = some u → w8.cell? ((⟨g8, 0, none⟩ : Addr).add j) = some u) := Lib.hid (fun j u hu => by
                 rw [addr_add', Nat.zero_add, World.ownsRow.cellAt ho8.owns j (by have := (List.getElem?_eq_some_iff.1 hu).1; rwa [length_enc] at this)]
                 exact hu)
               clear ho8 hb8 hh8 hsz8 kx0 kx1
               go_wp2_with (first | (at_builtin; refine wpList_append_own _ rfl _ _ 51 rfl w2.heap.size 38 i0 _ 2 16 Try.underlying51 hi hz0 hz1 hz2 rfl (by decide) _ L2.length (L2.flatMap elHand.enc) rfl HO8.out ⟨g8, 0, none⟩ UY.length cap8 (UY.flatMap elHand.enc) rfl (length_enc elHand UY) HC8.out (by intro u hu; obtain ⟨x, _, hx⟩ := List.mem_flatMap.1 hu; exact elHand.one x u hx) (by unfold maxLen; omega) ?d4 ?d5 ?_))
               case d4 => omega
               case d5 => omega
               intro v9 w9 hown hgr hnil
               have HNX : Hid (OwnsF elHand w9 w2.heap.size 38 v9 ((cs.take (k + 1)).flatMap (fun c => c :: under bs M c))) := Lib.hid (by
                 rw [HFT.out]; unfold OwnsF; rw [List.flatMap_append, List.length_append, HLL.out]; exact hown)
               have HB9 : Hid (Below w2.heap.size w2 w9) := Lib.hid (HB8.out.grown hgr (by omega) (fun j hj => HO8.out.ge hj))
               clear hown hgr hnil
               go_wp2
               go_roundw
               case rel => exact ⟨k + 1, by omega, by go_num, HNX, HB9⟩
               case measure => simp [intOf]; omega)
      · obtain rfl : k = cn := by omega
        rw [List.take_of_length_le (by rw [HCN.out]; exact Nat.le_refl _), ← HUE.out] at hO
        go_wp2
        go_ret
        exact ⟨_, rfl, hO.out.weaken (HB2.out.size), nb_trans HB2.out hB.out⟩
end Go.Proofs.Ytlclceiebnnpgaa


/- The contract of Spawn of the reference's zoo. -/
import Derived.Test.YtlaahlphfkadjaaGreatGroundG
import Derived.Test.YtlaahlphfkadjaaGreatRefTake
import Derived.Test.YtlaahlphfkadjaaGreatGroundD
namespace Go.Proofs.YtlaahlphfkadjaaGreat
set_option maxRecDepth 8000
open Go.RowKit

def spHeld (hb n0 : Nat) (s1 s2 m : Int) (f : Nat → Int) (x : World) : Prop := (x.cell? ⟨hb, 0, none⟩ = some (.int .i64 s1) ∧ x.cell? ⟨hb, 1, none⟩ = some (.int .i64 s2) ∧ x.cell? ⟨n0, 0, none⟩ = some (.int .i64 m) ∧ x.cell? ⟨n0, 1, none⟩ = some (.int .i64 (f 0)) ∧ x.cell? ⟨n0, 2, none⟩ = some (.int .i64 (f 1)) ∧ x.cell? ⟨n0, 3, none⟩ = some (.int .i64 (f 2)) ∧ x.cell? ⟨n0, 4, none⟩ = some (.int .i64 (f 3)) ∧ x.cell? ⟨n0, 5, none⟩ = some (.int .i64 (f 4)) ∧ x.cell? ⟨n0, 6, none⟩ = some (.int .i64 (f 5)) ∧ x.cell? ⟨n0, 7, none⟩ = some (.int .i64 (f 6)) ∧ x.cell? ⟨n0, 8, none⟩ = some (.int .i64 (f 7)))
theorem spHeld.mk' {hb n0 : Nat} {s1 s2 m : Int} {f : Nat → Int} {x : World} (e1 : x.heap[hb]? = some (.cells #[.int .i64 s1, .int .i64 s2] 43)) (e0 : x.heap[n0]? = some (.cells #[.int .i64 m, .int .i64 (f 0), .int .i64 (f 1), .int .i64 (f 2), .int .i64 (f 3), .int .i64 (f 4), .int .i64 (f 5), .int .i64 (f 6), .int .i64 (f 7)] 48)) : spHeld hb n0 s1 s2 m f x := by
  unfold spHeld
  refine ⟨?_, ?_, ?_, ?_, ?_, ?_, ?_, ?_, ?_, ?_, ?_⟩
  iterate 2 (first | (rw [cell_of_row _ _ _ _ _ _ e1]; rfl) | skip)
  all_goals (rw [cell_of_row _ _ _ _ _ _ e0]; rfl)
theorem spHeld.kept {hb n0 q : Nat} {s1 s2 m : Int} {f : Nat → Int} {x y : World} (h : spHeld hb n0 s1 s2 m f x) (hk : Kept (fun b => b = q) x y) (hqb : ¬ q = hb) (hq0 : ¬ q = n0) : spHeld hb n0 s1 s2 m f y := by
  unfold spHeld at h ⊢
  obtain ⟨h0, h1, h2, h3, h4, h5, h6, h7, h8, h9, h10⟩ := h
  exact ⟨hk.cellS h0 (fun e => hqb e.symm), hk.cellS h1 (fun e => hqb e.symm), hk.cellS h2 (fun e => hq0 e.symm), hk.cellS h3 (fun e => hq0 e.symm), hk.cellS h4 (fun e => hq0 e.symm), hk.cellS h5 (fun e => hq0 e.symm), hk.cellS h6 (fun e => hq0 e.symm), hk.cellS h7 (fun e => hq0 e.symm), hk.cellS h8 (fun e => hq0 e.symm), hk.cellS h9 (fun e => hq0 e.symm), hk.cellS h10 (fun e => hq0 e.symm)⟩
theorem sp_t {α : Type} {l : List α} {i : Nat} {a : α} : l.toArray.setIfInBounds i a = (l.set i a).toArray := List.setIfInBounds_toArray ..
theorem sp_0 {α : Type} {x : α} {l : List α} {a : α} : (x :: l).set 0 a = a :: l := List.set_cons_zero ..
theorem sp_s {α : Type} {x : α} {l : List α} {n : Nat} {a : α} : (x :: l).set (n + 1) a = x :: l.set n a := List.set_cons_succ ..
def ZSpawnPost (w : World) (q : Nat) (G : Nat → Prop) (l : List (Int × Bool)) (rows : List Rw) (vB : Value) (m : Int) (f : Nat → Int) (e : Ending) (w' : World) : Prop :=
  e = .returned (.tuple #[.agg #[.int .i64 (spawnH l m f).1, .int .i64 (spawnH l m f).2], .int .i64 (spawnE l m f)]) ∧ ∃ G', ZooAt w' q G' (spawnL l m f) (spawnR l rows m f) vB ∧ Kept G w w' ∧ Moves w G G'

set_option linter.unusedSimpArgs false in
set_option maxRecDepth 100000 in
set_option maxHeartbeats 8000000 in
theorem refSpawn_any (q : Nat) (G : Nat → Prop) (l : List (Int × Bool)) (rows : List Rw) (vB : Value) (m : Int) (f : Nat → Int) (w : World) (h : ZooAt w q G l rows vB) (ok : WOk l rows) :
    Calls Tryz.prog 40 #[.pointer (some ⟨q, 0, none⟩), .agg #[.int .i64 m, .int .i64 (f 0), .int .i64 (f 1), .int .i64 (f 2), .int .i64 (f 3), .int .i64 (f 4), .int .i64 (f 5), .int .i64 (f 6), .int .i64 (f 7)]] w (ZSpawnPost w q G l rows vB m f) := by
  obtain ⟨i0, hi, hz0, hz1, hz2⟩ := info_parts infoRow
  have hX : Below w.heap.size w ((w.alloc (.cells #[.int .i64 m, .int .i64 (f 0), .int .i64 (f 1), .int .i64 (f 2), .int .i64 (f 3), .int .i64 (f 4), .int .i64 (f 5), .int .i64 (f 6), .int .i64 (f 7)] 48)).alloc (.cells #[.int .i64 0, .int .i64 0] 43)) := nb_alloc (nb_alloc (Below.refl _ _) _) _
  have HX := Lib.hid hX
  have HX0 : Hid (((w.alloc (.cells #[.int .i64 m, .int .i64 (f 0), .int .i64 (f 1), .int .i64 (f 2), .int .i64 (f 3), .int .i64 (f 4), .int .i64 (f 5), .int .i64 (f 6), .int .i64 (f 7)] 48)).alloc (.cells #[.int .i64 0, .int .i64 0] 43)).heap[w.heap.size]? = some (.cells #[.int .i64 m, .int .i64 (f 0), .int .i64 (f 1), .int .i64 (f 2), .int .i64 (f 3), .int .i64 (f 4), .int .i64 (f 5), .int .i64 (f 6), .int .i64 (f 7)] 48)) := Lib.hid (heap_alloc2_old _ _ _)
  have HX1 : Hid (((w.alloc (.cells #[.int .i64 m, .int .i64 (f 0), .int .i64 (f 1), .int .i64 (f 2), .int .i64 (f 3), .int .i64 (f 4), .int .i64 (f 5), .int .i64 (f 6), .int .i64 (f 7)] 48)).alloc (.cells #[.int .i64 0, .int .i64 0] 43)).heap[w.heap.size + 1]? = some (.cells #[.int .i64 0, .int .i64 0] 43)) := Lib.hid (heap_alloc2_new _ _ _)
  have H0 := Lib.hid h
  have HLT := Lib.hid h.lt
  have HZO := Lib.hid (h.later hX)
  have HOK := Lib.hid ok
  clear h hX ok
  go_enter Tryz.func40, Tryz.ntmps40
  go_wp2_with fail
  generalize ((w.alloc (.cells #[.int .i64 m, .int .i64 (f 0), .int .i64 (f 1), .int .i64 (f 2), .int .i64 (f 3), .int .i64 (f 4), .int .i64 (f 5), .int .i64 (f 6), .int .i64 (f 7)] 48)).alloc (.cells #[.int .i64 0, .int .i64 0] 43)) = X at *
  refine (refBeastCheck_any _ _ _ _ _ _ _ _ _ _).mono ?_
  rintro e w1 ⟨rfl, hw1⟩
  have hb1 : Below X.heap.size X w1 := by rw [← hw1]; exact nb_alloc (Below.refl _ _) _
  have HB1 := Lib.hid hb1
  have HBW1 : Hid (Below w.heap.size w w1) := Lib.hid (nb_trans HX.out hb1)
  have hx0 : w1.heap[w.heap.size]? = some (.cells #[.int .i64 m, .int .i64 (f 0), .int .i64 (f 1), .int .i64 (f 2), .int .i64 (f 3), .int .i64 (f 4), .int .i64 (f 5), .int .i64 (f 6), .int .i64 (f 7)] 48) := by rw [hb1.block _ (Array.getElem?_eq_some_iff.1 HX0.out).1]; exact HX0.out
  have hx1 : w1.heap[w.heap.size + 1]? = some (.cells #[.int .i64 0, .int .i64 0] 43) := by rw [hb1.block _ (Array.getElem?_eq_some_iff.1 HX1.out).1]; exact HX1.out
  have hx1l := (Array.getElem?_eq_some_iff.1 hx1).1
  clear hw1 hb1
  by_cases hbe : bErr m [f 0, f 1, f 2, f 3, f 4, f 5, f 6, f 7] = 0
  · obtain ⟨c, vL0, hz⟩ := HZO.out.later HB1.out
    have HZI := Lib.hid hz
    have HBE := Lib.hid hbe
    have hql := hz.lt q hz.at_.1
    rw [hbe]
    clear hbe hz
    go_wp2_with fail
    refine (refTake_any q _ [vL0, vB] _ l _ HZI.out.slots HOK.out.slots).mono ?_
    rintro e w2 ⟨rfl, G2, hs2, hk2, hm2⟩
    obtain ⟨F2, hz2', hK2, hM2⟩ := HZI.out.slotStep hs2 hk2 hm2
    have HZ2 := Lib.hid hz2'
    have HK2 := Lib.hid hK2
    have HM2 := Lib.hid hM2
    have hnG0 : ¬ G w.heap.size := fun f' => by have := HLT.out _ f'; omega
    have hnG1 : ¬ G (w.heap.size + 1) := fun f' => by have := HLT.out _ f'; omega
    have h20 : w2.heap[w.heap.size]? = some (.cells #[.int .i64 m, .int .i64 (f 0), .int .i64 (f 1), .int .i64 (f 2), .int .i64 (f 3), .int .i64 (f 4), .int .i64 (f 5), .int .i64 (f 6), .int .i64 (f 7)] 48) := by rw [hK2.block _ (by omega) hnG0]; exact hx0
    have h21 : w2.heap[w.heap.size + 1]? = some (.cells #[.int .i64 0, .int .i64 0] 43) := by rw [hK2.block _ hx1l hnG1]; exact hx1
    have h21l := (Array.getElem?_eq_some_iff.1 h21).1
    have HN2 : Hid (¬ F2 w.heap.size ∧ ¬ F2 (w.heap.size + 1)) := Lib.hid ⟨fun f' => (hM2 _ f').elim hnG0 (fun h => by omega), fun f' => (hM2 _ f').elim hnG1 (fun h => by omega)⟩
    have H20 := Lib.hid h20
    have H21 := Lib.hid h21
    obtain ⟨⟨s1, s2⟩, hth⟩ : ∃ x, takeH l = x := ⟨_, rfl⟩
    obtain ⟨te, hte⟩ : ∃ x, takeE l = x := ⟨_, rfl⟩
    rw [hth, hte]
    have HTH := Lib.hid hth
    have HTE := Lib.hid hte
    obtain ⟨kr0, kr1⟩ := hCells (a := 0) (b := 0) h21
    have fr : ∀ j, w2.frozen? ⟨w.heap.size + 1, j, none⟩ = false := fun j => frozen_of_row _ _ _ _ _ h21
    have HBW2 : Hid (Kept G w w2) := Lib.hid ((Kept.ofBelow HBW1.out).trans hK2 (fun _ h => .inl h))
    have HMW2 : Hid (Moves w G F2) := Lib.hid (fun b hb => (hM2 b hb).imp id (fun h => by have := HBW1.out.size; omega))
    have HWS : Hid (w.heap.size + 1 < w1.heap.size) := Lib.hid hx1l
    clear hs2 hk2 hm2 hz2' hK2 hM2 h20 h21 hth hte hx0 hx1 hx1l hql
    by_cases h0 : te = 0
    · subst h0
      have hA : Below w2.heap.size w2 (w2.alloc (.cells #[.int .i64 s1, .int .i64 s2] 43)) := nb_alloc (Below.refl _ _) _
      have HA := Lib.hid hA
      have HAH : Hid ((w2.alloc (.cells #[.int .i64 s1, .int .i64 s2] 43)).heap[w2.heap.size]? = some (.cells #[.int .i64 s1, .int .i64 s2] 43)) := Lib.hid (heap_alloc_new _ _)
      have HA0 : Hid ((w2.alloc (.cells #[.int .i64 s1, .int .i64 s2] 43)).heap[w.heap.size]? = some (.cells #[.int .i64 m, .int .i64 (f 0), .int .i64 (f 1), .int .i64 (f 2), .int .i64 (f 3), .int .i64 (f 4), .int .i64 (f 5), .int .i64 (f 6), .int .i64 (f 7)] 48)) := Lib.hid (by rw [hA.block _ (by omega)]; exact H20.out)
      have HA1 : Hid ((w2.alloc (.cells #[.int .i64 s1, .int .i64 s2] 43)).heap[w.heap.size + 1]? = some (.cells #[.int .i64 0, .int .i64 0] 43)) := Lib.hid (by rw [hA.block _ h21l]; exact H21.out)
      obtain ⟨c3, vL, hz3⟩ := HZ2.out.later hA
      have HZA := Lib.hid hz3
      have HLT2 := Lib.hid HZ2.out.lt
      obtain ⟨hb, hhb⟩ : ∃ hb, w2.heap.size = hb := ⟨_, rfl⟩
      have hform := hz3.own.form
      have hown := hz3.own
      obtain ⟨n, hn⟩ : ∃ n, rows.length = n := ⟨_, rfl⟩
      have HN := Lib.hid hn
      have h60 := HOK.out.len60
      rw [hn] at h60 hform
      have HOWN := Lib.hid hown
      have hqA : q < (w2.alloc (.cells #[.int .i64 s1, .int .i64 s2] 43)).heap.size := hz3.lt q hz3.at_.1
      have hqb : ¬ q = hb := fun e => by have := HLT2.out q HZ2.out.at_; omega
      have hq0 : ¬ q = w.heap.size := fun e => HN2.out.1 (by rw [← e]; exact HZ2.out.at_)
      clear hA hz3 hown kr0 kr1
      rcases hform with ⟨rfl, hnil⟩ | ⟨g, cap, cur, rfl, -, hgl, hlc, hcm, -⟩
      · skip
        have hn0 : n = 0 := by rw [← hn, hnil]; rfl
        have HN0 := Lib.hid hn0
        clear hn0 hnil
        go_wp2
        rw [hhb] at HAH
        try rw [hhb]
        generalize w2.alloc (.cells #[.int .i64 s1, .int .i64 s2] 43) = A at *
        go_loopw [9] (fun i wr => ∃ t : Nat, t ≤ n ∧ i = .int .i64 t ∧ Hid (Below A.heap.size A wr)) (fun i _ => n - (intOf i).toNat)
        case atStart => exact ⟨0, by omega, rfl, Below.refl _ _⟩
        case round =>
          obtain ⟨t, htn, rfl, hB⟩ := hrel
          have hzr := HZA.out.later hB.out
          have cq := hzr.slots.cell2.1
          have hqr := hzr.lt q hzr.at_.1
          obtain rfl : t = 0 := by have := HN0.out; omega
          have hbef : Hid (∀ j, j < 0 → (rows.getD j rowZ).s < s1) := Lib.hid (fun j hj => by omega)
          have HNO : Hid (0 < n → ¬ (rows.getD 0 rowZ).s < s1) := Lib.hid (fun h => absurd h (by rw [HN0.out]; decide))
          clear hzr
          go_wp2_with fail
          go_quiet (fail)
          go_wp2_with fail
          clear cq
          have HBZ : Hid (Below A.heap.size A (wr.drewN nq)) := Lib.hid (nb_drewN hB.out)
          have hqZ : q < (wr.drewN nq).heap.size := hqr
          generalize wr.drewN nq = Z at *
          have HINS : Hid (insR rows (⟨s1, s2, m, f⟩ : Rw) = rows.take 0 ++ (⟨s1, s2, m, f⟩ : Rw) :: rows.drop 0) := Lib.hid (insR_at (by rw [HN.out]; exact htn) hbef.out (by rw [HN.out]; exact fun h => (by have h7 := HNO.out h; show ¬ (rows.getD 0 rowZ).s < s1; omega)))
          have HLM : Hid (([] : List Rw).length + 1 ≤ maxLen ∧ (([] : List Rw).length + 1) * 88 ≤ 140737488355328) := Lib.hid (by simp [maxLen])
          have hSZ : ∀ x, Below Z.heap.size Z x → spHeld hb w.heap.size s1 s2 m f x := fun x hx => by
            have hbx : Below A.heap.size A x := nb_trans HBZ.out hx
            exact spHeld.mk' (by rw [hbx.block _ (Array.getElem?_eq_some_iff.1 HAH.out).1]; exact HAH.out) (by rw [hbx.block _ (Array.getElem?_eq_some_iff.1 HA0.out).1]; exact HA0.out)
          have HSX := Lib.hid hSZ
          have HQX : Hid (∀ x, Below Z.heap.size Z x → x.cell? ⟨q, 2, none⟩ = some (.slice none 0 0)) := Lib.hid (fun x hx => (HZA.out.later (nb_trans HBZ.out hx)).slots.cell2.1)
          have HSX5 : Hid (∀ x, Below Z.heap.size Z x → (spHeld hb w.heap.size s1 s2 m f x ∧ x.cell? ⟨q, 2, none⟩ = some (.slice none 0 0))) := Lib.hid (fun x hx => ⟨hSZ x hx, HQX.out x hx⟩)
          have HFX : Hid (∀ x, Below Z.heap.size Z x → x.frozen? ⟨q, 2, none⟩ = false) := Lib.hid (fun x hx => (HZA.out.later (nb_trans HBZ.out hx)).slots.cell2.2.2 2)
          have HOX : Hid (∀ x, Below Z.heap.size Z x → OwnsF elRow x 0 56 (.slice none 0 0) rows) := Lib.hid (fun x hx => (HZA.out.later (nb_trans HBZ.out hx)).own)
          have HSK : Hid (∀ x y, Below Z.heap.size Z x → Kept (fun b => b = q) x y → spHeld hb w.heap.size s1 s2 m f y) := Lib.hid (fun x y hx hk => (hSZ x hx).kept hk hqb hq0)
          have HZE : Hid (∀ x v', Below Z.heap.size Z x → OwnsF elRow x Z.heap.size 56 v' (rows.take 0 ++ (⟨s1, s2, m, f⟩ : Rw) :: rows.drop 0) → ∃ G5, ZooAt (x.setCell ⟨q, 2, none⟩ v') q G5 (takeL l) (insR rows (⟨s1, s2, m, f⟩ : Rw)) vB ∧ Kept G w (x.setCell ⟨q, 2, none⟩ v') ∧ Moves w G G5 ∧ ¬ G5 (w.heap.size + 1) ∧ (x.setCell ⟨q, 2, none⟩ v').heap[w.heap.size + 1]? = some (.cells #[.int .i64 0, .int .i64 0] 43)) := Lib.hid (fun x v' hx ho => by
            have hzZ := HZA.out.later HBZ.out
            have hks : Kept (fun b => b = q) x (x.setCell ⟨q, 2, none⟩ v') := Kept.setCell (F := fun b => b = q) _ (p := ⟨q, 2, none⟩) rfl _
            have hqz := hzZ.lt q hzZ.at_.1
            have hk : Kept (fun b => b = q) Z (x.setCell ⟨q, 2, none⟩ v') := (Kept.ofBelow hx).trans hks (fun _ h => .inl h)
            obtain ⟨G5, h5, hK5, hM5⟩ := hzZ.setL (v' := v') (rows' := insR rows (⟨s1, s2, m, f⟩ : Rw)) hk (fun vg vl hq => by rw [heap_setCell_same _ _ _ _ _ _ ((hx.block q hqz).trans hq)]; rfl) (by rw [HINS.out]; exact ho.kept hks (fun k e e2 => by have := ho.ge e; omega))
            have hsA := HBZ.out.size
            have hs2 := HA.out.size
            have hsw := HBW2.out.size
            have hKZ : Kept F2 w2 (x.setCell ⟨q, 2, none⟩ v') := ((Kept.ofBelow (nb_trans HA.out HBZ.out)).trans hK5 (fun _ h => .inl h))
            have hMZ : Moves w2 F2 G5 := fun b hb' => (hM5 b hb').imp id (fun h => by omega)
            have hA1l := (Array.getElem?_eq_some_iff.1 HA1.out).1
            refine ⟨G5, h5, HBW2.out.trans hKZ (fun b hb' => HMW2.out b hb'), fun b hb' => (hMZ b hb').elim (fun h => HMW2.out b h) (fun h => .inr (by omega)), fun hg5 => (hMZ _ hg5).elim HN2.out.2 (fun h => by omega), ?_⟩
            rw [hK5.block _ (by omega) HN2.out.2, HBZ.out.block _ hA1l]; exact HA1.out)
          obtain ⟨kh0, kh1, kb0, kb1, kb2, kb3, kb4, kb5, kb6, kb7, kb8⟩ := hSZ Z (Below.refl _ _)
          have cq := HQX.out Z (Below.refl _ _)
          clear hSZ
          have HDR : Hid (rows.drop 0 = []) := Lib.hid (List.drop_of_length_le (by rw [HN.out, HN0.out]; exact Nat.le_refl _))
          have HTK0 : Hid (rows.take 0 = []) := Lib.hid (List.take_zero)
          rw [HTK0.out] at HZE HINS
          have hS0 : (fun x : World => (spHeld hb w.heap.size s1 s2 m f x ∧ x.cell? ⟨q, 2, none⟩ = some (.slice none 0 0))) Z.drew := HSX5.out _ (Below.refl _ _).drew
          refine wp_region_noPanic (wp_region_till (fun x : World => (spHeld hb w.heap.size s1 s2 m f x ∧ x.cell? ⟨q, 2, none⟩ = some (.slice none 0 0))) 22 (by kernel_rfl) ?_)
          refine Till.take (i := 0) (v := ?_) [20, 21] rfl (by kernel_rfl) (by kernel_rfl) (by kernel_rfl) (by kernel_rfl) (fun _ _ _ h => h) (Or.inl ⟨by rfl, ?_⟩) hS0 ?_
          rotate_left
          · (intro w hSw; (try dsimp only at hSw); (try unfold spHeld at hSw); go_simp; (try with_reducible rfl))
          try simp only [Act.put, sp_t, sp_0, sp_s]
          refine Till.take (i := 1) (v := ?_) [2, 3, 4, 6, 7, 12, 19] rfl (by kernel_rfl) (by kernel_rfl) (by kernel_rfl) (by kernel_rfl) (fun _ _ _ h => h) (Or.inl ⟨by rfl, ?_⟩) hS0 ?_
          rotate_left
          · (intro w hSw; (try dsimp only at hSw); (try unfold spHeld at hSw); go_simp; (try with_reducible rfl))
          try simp only [Act.put, sp_t, sp_0, sp_s]
          refine Till.take (i := 2) (v := ?_) [3, 4, 6, 7, 12, 19] rfl (by kernel_rfl) (by kernel_rfl) (by kernel_rfl) (by kernel_rfl) (fun _ _ _ h => h) (Or.inl ⟨by rfl, ?_⟩) hS0 ?_
          rotate_left
          · (intro w hSw; (try dsimp only at hSw); (try unfold spHeld at hSw); go_simp; (try with_reducible rfl))
          try simp only [Act.put, sp_t, sp_0, sp_s]
          refine Till.take (i := 3) (v := ?_) [4, 6, 7, 12, 19] rfl (by kernel_rfl) (by kernel_rfl) (by kernel_rfl) (by kernel_rfl) (fun _ _ _ h => h) (Or.inl ⟨by rfl, ?_⟩) hS0 ?_
          rotate_left
          · (intro w hSw; (try dsimp only at hSw); (try unfold spHeld at hSw); go_simp; (try with_reducible rfl))
          try simp only [Act.put, sp_t, sp_0, sp_s]
          refine Till.take (i := 4) (v := ?_) [6, 7, 12, 19] rfl (by kernel_rfl) (by kernel_rfl) (by kernel_rfl) (by kernel_rfl) (fun _ _ _ h => h) (Or.inl ⟨by rfl, ?_⟩) hS0 ?_
          rotate_left
          · (intro w hSw; (try dsimp only at hSw); (try unfold spHeld at hSw); go_simp; (try with_reducible rfl))
          try simp only [Act.put, sp_t, sp_0, sp_s]
          refine Till.take (i := 5) (v := ?_) [6, 7, 12, 19] rfl (by kernel_rfl) (by kernel_rfl) (by kernel_rfl) (by kernel_rfl) (fun _ _ _ h => h) (Or.inl ⟨by rfl, ?_⟩) hS0 ?_
          rotate_left
          · (intro w hSw; (try dsimp only at hSw); (try unfold spHeld at hSw); go_simp; (try with_reducible rfl))
          try simp only [Act.put, sp_t, sp_0, sp_s]
          refine Till.take (i := 6) (v := ?_) [7, 12, 19] rfl (by kernel_rfl) (by kernel_rfl) (by kernel_rfl) (by kernel_rfl) (fun _ _ _ h => h) (Or.inl ⟨by rfl, ?_⟩) hS0 ?_
          rotate_left
          · (intro w hSw; (try dsimp only at hSw); (try unfold spHeld at hSw); go_simp; (try with_reducible rfl))
          try simp only [Act.put, sp_t, sp_0, sp_s]
          refine Till.take (i := 8) (v := ?_) [10, 11, 12, 19] rfl (by kernel_rfl) (by kernel_rfl) (by kernel_rfl) (by kernel_rfl) (fun _ _ _ h => h) (Or.inl ⟨by rfl, ?_⟩) hS0 ?_
          rotate_left
          · (intro w hSw; (try dsimp only at hSw); (try unfold spHeld at hSw); go_simp; (try with_reducible rfl))
          try simp only [Act.put, sp_t, sp_0, sp_s]
          refine Till.take (i := 9) (v := ?_) [10, 11, 12, 19] rfl (by kernel_rfl) (by kernel_rfl) (by kernel_rfl) (by kernel_rfl) (fun _ _ _ h => h) (Or.inl ⟨by rfl, ?_⟩) hS0 ?_
          rotate_left
          · (intro w hSw; (try dsimp only at hSw); (try unfold spHeld at hSw); go_simp; (try with_reducible rfl))
          try simp only [Act.put, sp_t, sp_0, sp_s]
          refine Till.take (i := 10) (v := ?_) [11, 12, 19] rfl (by kernel_rfl) (by kernel_rfl) (by kernel_rfl) (by kernel_rfl) (fun _ _ _ h => h) (Or.inl ⟨by rfl, ?_⟩) hS0 ?_
          rotate_left
          · (intro w hSw; (try dsimp only at hSw); (try unfold spHeld at hSw); go_simp; (try with_reducible rfl))
          try simp only [Act.put, sp_t, sp_0, sp_s]
          refine Till.take (i := 13) (v := ?_) [14, 15, 16, 18, 19] rfl (by kernel_rfl) (by kernel_rfl) (by kernel_rfl) (by kernel_rfl) (fun _ _ _ h => h) (Or.inl ⟨by rfl, ?_⟩) hS0 ?_
          rotate_left
          · (intro w hSw; (try dsimp only at hSw); (try unfold spHeld at hSw); go_simp; (try with_reducible rfl))
          try simp only [Act.put, sp_t, sp_0, sp_s]
          refine Till.take (i := 14) (v := ?_) [15, 16, 18, 19] rfl (by kernel_rfl) (by kernel_rfl) (by kernel_rfl) (by kernel_rfl) (fun _ _ _ h => h) (Or.inl ⟨by rfl, ?_⟩) hS0 ?_
          rotate_left
          · (intro w hSw; (try dsimp only at hSw); (try unfold spHeld at hSw); go_simp; (try with_reducible rfl))
          try simp only [Act.put, sp_t, sp_0, sp_s]
          refine Till.take (i := 15) (v := ?_) [16, 18, 19] rfl (by kernel_rfl) (by kernel_rfl) (by kernel_rfl) (by kernel_rfl) (fun _ _ _ h => h) (Or.inl ⟨by rfl, ?_⟩) hS0 ?_
          rotate_left
          · (intro w hSw; (try dsimp only at hSw); (try unfold spHeld at hSw); go_simp; (try with_reducible rfl))
          try simp only [Act.put, sp_t, sp_0, sp_s]
          refine Till.take (i := 16) (v := ?_) [18, 19] rfl (by kernel_rfl) (by kernel_rfl) (by kernel_rfl) (by kernel_rfl) (fun _ _ _ h => h) (Or.inl ⟨by rfl, ?_⟩) hS0 ?_
          rotate_left
          · (intro w hSw; (try dsimp only at hSw); (try unfold spHeld at hSw); go_simp; (try with_reducible rfl))
          try simp only [Act.put, sp_t, sp_0, sp_s]
          refine Till.take (i := 17) (v := ?_) [18, 19] rfl (by kernel_rfl) (by kernel_rfl) (by kernel_rfl) (by kernel_rfl) (fun _ _ _ h => h) (Or.inl ⟨by rfl, ?_⟩) hS0 ?_
          rotate_left
          · (intro w hSw; (try dsimp only at hSw); (try unfold spHeld at hSw); go_simp; (try with_reducible rfl))
          try simp only [Act.put, sp_t, sp_0, sp_s]
          refine Till.take (i := 18) (v := ?_) [19] rfl (by kernel_rfl) (by kernel_rfl) (by kernel_rfl) (by kernel_rfl) (fun _ _ _ h => h) (Or.inl ⟨by rfl, ?_⟩) hS0 ?_
          rotate_left
          · (intro w hSw; (try dsimp only at hSw); (try unfold spHeld at hSw); go_simp; (try with_reducible rfl))
          try simp only [Act.put, sp_t, sp_0, sp_s]
          refine Till.ready (rs := [7, 11]) (by kernel_rfl) (by simp) (TillAll.cons rfl (fun K hK => ?_) (TillAll.cons rfl (fun K hK => ?_) TillAll.nil))
          focus
            go_simp
            go_at_call 27
            refine (copyRow_any (.slice none 0 0) ([] : List Rw) _ (OwnsF.nil _ _ _ _) (by have := HLM.out.2; omega)).mono ?_
            rintro e w1' ⟨v1, rfl, ho1, hb1⟩
            have HB1 : Hid (Below Z.heap.size Z w1') := Lib.hid (nb_trans (by first | exact (Below.refl _ _).drew | exact nb_alloc (Below.refl _ _).drew _) hb1)
            have HN1 := Lib.hid hb1
            have HO1 : Hid (OwnsF elRow w1' Z.heap.size 56 v1 ([] : List Rw)) := Lib.hid (ho1.weaken (by first | exact Nat.le_refl _ | simp))
            have hq1 : q < w1'.heap.size := Nat.lt_of_lt_of_le hqZ HB1.out.size
            clear ho1 hb1
            dsimp only
            refine hK.out _ _ (.inr (HSX5.out _ HB1.out)) ?_
            clear hK K
            try simp only [Act.put, sp_t, sp_0, sp_s]
            refine Till.ready (rs := [11]) (by kernel_rfl) (by simp) (TillAll.cons rfl (fun K hK => ?_) TillAll.nil)
            go_simp
            refine hK.out _ _ (.inr (HSX5.out _ (nb_alloc HB1.out _))) ?_
            clear hK K
            try simp only [Act.put, sp_t, sp_0, sp_s]
          rotate_left
          focus
            go_simp
            refine hK.out _ _ (.inr (HSX5.out _ (nb_alloc (Below.refl _ _).drew _))) ?_
            clear hK K
            try simp only [Act.put, sp_t, sp_0, sp_s]
            refine Till.ready (rs := [7]) (by kernel_rfl) (by simp) (TillAll.cons rfl (fun K hK => ?_) TillAll.nil)
            go_simp
            go_at_call 27
            refine (copyRow_any (.slice none 0 0) ([] : List Rw) _ (OwnsF.nil _ _ _ _) (by have := HLM.out.2; omega)).mono ?_
            rintro e w1' ⟨v1, rfl, ho1, hb1⟩
            have HB1 : Hid (Below Z.heap.size Z w1') := Lib.hid (nb_trans (by first | exact (Below.refl _ _).drew | exact nb_alloc (Below.refl _ _).drew _) hb1)
            have HN1 := Lib.hid hb1
            have HO1 : Hid (OwnsF elRow w1' Z.heap.size 56 v1 ([] : List Rw)) := Lib.hid (ho1.weaken (by first | exact Nat.le_refl _ | simp))
            have hq1 : q < w1'.heap.size := Nat.lt_of_lt_of_le hqZ HB1.out.size
            clear ho1 hb1
            dsimp only
            refine hK.out _ _ (.inr (HSX5.out _ HB1.out)) ?_
            clear hK K
            try simp only [Act.put, sp_t, sp_0, sp_s]
          all_goals
            refine Till.ready (rs := [12]) (by kernel_rfl) (by simp) (TillAll.cons rfl (fun K hK => ?_) TillAll.nil)
            refine stepZ_append (by rfl) _ _ 30 (by rfl) Z.heap.size 56 i0 _ 11 88 Tryz.underlying30 hi hz0 hz1 hz2 rfl (by decide) v1 ([] : List Rw).length (([] : List Rw).flatMap elRow.enc) (by rfl) (by first | exact HO1.out | exact World.ownsRow.alloc HO1.out _) _ 1 1 [.int .i64 s1, .int .i64 s2, .int .i64 m, .int .i64 (f 0), .int .i64 (f 1), .int .i64 (f 2), .int .i64 (f 3), .int .i64 (f 4), .int .i64 (f 5), .int .i64 (f 6), .int .i64 (f 7)] (by rfl) rfl (World.news_of_block (by first | exact heap_alloc_new _ _ | (rw [HN1.out.block _ (by simp)]; exact heap_alloc_new _ _))) (elRow.one (⟨s1, s2, m, f⟩ : Rw)) HLM.out.1 HLM.out.2 (by first | exact HB1.out.size | exact (nb_alloc HB1.out _).size) ?_
            intro v2 xb hown hgr _
            have hb2 : Below Z.heap.size Z xb := (by first | exact HB1.out.grown hgr HB1.out.size (fun j hj => HO1.out.ge hj) | exact (nb_alloc HB1.out _).grown hgr (nb_alloc HB1.out _).size (fun j hj => HO1.out.ge hj))
            have HB2 := Lib.hid hb2
            have HO2 : Hid (OwnsF elRow xb Z.heap.size 56 v2 (([] : List Rw) ++ [(⟨s1, s2, m, f⟩ : Rw)])) := Lib.hid (OwnsF.snoc (x := (⟨s1, s2, m, f⟩ : Rw)) hown)
            clear hown hgr hb2
            refine hK.out _ _ (.inr (HSX5.out _ HB2.out)) ?_
            clear hK K
            try simp only [Act.put, sp_t, sp_0, sp_s]
            refine Till.ready (rs := [19]) (by kernel_rfl) (by simp) (TillAll.cons rfl (fun K hK => ?_) TillAll.nil)
            refine stepZ_append_none (by rfl) _ _ 30 (by rfl) Z.heap.size 56 i0 11 Tryz.underlying30 hi v2 (([] : List Rw) ++ [(⟨s1, s2, m, f⟩ : Rw)]).length ((([] : List Rw) ++ [(⟨s1, s2, m, f⟩ : Rw)]).flatMap elRow.enc) (by rfl) HO2.out (by rfl) ?_
            obtain ⟨av, n3, cv, rfl⟩ : ∃ av n3 cv, v2 = .slice av n3 cv := (by obtain ⟨a1, c1, e1, -⟩ := HO2.out.reads; exact ⟨_, _, _, e1⟩)
            have HO3 : Hid (OwnsF elRow xb Z.heap.size 56 (.slice av n3 cv) (([] : List Rw) ++ (⟨s1, s2, m, f⟩ : Rw) :: rows.drop 0)) := Lib.hid (by rw [HDR.out]; exact HO2.out)
            have HB3 := HB2
            refine hK.out _ _ (.inr (HSX5.out _ HB3.out)) ?_
            clear hK K
            try simp only [Act.put, sp_t, sp_0, sp_s]
            have cq3 := HQX.out xb HB3.out
            have fq3 := HFX.out xb HB3.out
            have hq3 : q < xb.heap.size := Nat.lt_of_lt_of_le hqZ HB3.out.size
            have HS4 : Hid (spHeld hb w.heap.size s1 s2 m f ((xb.setCell ⟨q, 2, none⟩ (.slice av n3 cv)))) := Lib.hid (HSK.out _ _ HB3.out (Kept.setCell (F := fun b => b = q) _ (p := ⟨q, 2, none⟩) rfl _))
            have HZ5 := Lib.hid (HZE.out xb _ HB3.out HO3.out)
            have hS9 : (fun x : World => (spHeld hb w.heap.size s1 s2 m f x ∧ x.cell? ⟨q, 2, none⟩ = some (.slice none 0 0))) xb := HSX5.out _ HB3.out
            refine Till.take (i := 20) (v := ?_) [21] rfl (by kernel_rfl) (by kernel_rfl) (by kernel_rfl) (by kernel_rfl) (fun _ _ _ h => h) (Or.inl ⟨by rfl, ?_⟩) hS9 ?_
            rotate_left
            · (intro w hSw; (try dsimp only at hSw); (try unfold spHeld at hSw); go_simp; (try with_reducible rfl))
            try simp only [Act.put, sp_t, sp_0, sp_s]
            refine Till.take (i := 21) (v := ?_) [] rfl (by kernel_rfl) (by kernel_rfl) (by kernel_rfl) (by kernel_rfl) (fun _ _ _ h => h) (Or.inl ⟨by rfl, ?_⟩) hS9 ?_
            rotate_left
            · (intro w hSw; (try dsimp only at hSw); (try unfold spHeld at hSw); go_simp; (try with_reducible rfl))
            try simp only [Act.put, sp_t, sp_0, sp_s]
            refine Till.ready (rs := [22]) (by kernel_rfl) (by simp) (TillAll.cons rfl (fun K hK => ?_) TillAll.nil)
            go_simp
            refine hK.out _ _ (.inl rfl) ?_
            clear hK K
            try simp only [Act.put, sp_t, sp_0, sp_s]
            refine Till.done (by kernel_rfl) (NoPanic.normal ?_) _
            (first | generalize xc.setCell ⟨q, 2, none⟩ (.slice av n3 cv) = W5 at * | generalize xb.setCell ⟨q, 2, none⟩ (.slice av n3 cv) = W5 at *)
            obtain ⟨G5, hz5, hk5, hm5, hn5, hr5⟩ := HZ5.out
            have hS4 := HS4.out
            unfold spHeld at hS4
            obtain ⟨kw0, kw1, -⟩ := hS4
            obtain ⟨kr0, kr1⟩ := hCells (a := 0) (b := 0) hr5
            have fr : ∀ j, W5.frozen? ⟨w.heap.size + 1, j, none⟩ = false := fun j => frozen_of_row _ _ _ _ _ hr5
            have hrl := (Array.getElem?_eq_some_iff.1 hr5).1
            have hwl := World.block_lt_of_cell? _ _ kw0
            simp only at hwl
            have HFIN : Hid (ZSpawnPost w q G l rows vB m f (.returned (.tuple #[.agg #[.int .i64 s1, .int .i64 s2], .int .i64 0])) ((W5.setCell ⟨w.heap.size + 1, 0, none⟩ (.int .i64 s1)).setCell ⟨w.heap.size + 1, 1, none⟩ (.int .i64 s2))) := Lib.hid (by
              have hkk : Kept (fun b => b = w.heap.size + 1) W5 ((W5.setCell ⟨w.heap.size + 1, 0, none⟩ (.int .i64 s1)).setCell ⟨w.heap.size + 1, 1, none⟩ (.int .i64 s2)) := (Kept.setCell (F := fun b => b = w.heap.size + 1) _ (p := ⟨w.heap.size + 1, 0, none⟩) rfl _).trans (Kept.setCell (F := fun b => b = w.heap.size + 1) _ (p := ⟨w.heap.size + 1, 1, none⟩) rfl _) (fun _ h => .inl h)
              have hE : spawnE l m f = 0 := by rw [spawnE, if_pos HBE.out]; exact HTE.out
              refine ⟨by rw [spawnH, if_pos HBE.out, HTH.out, hE], G5, ?_, hk5.trans hkk (fun b e => .inr (by omega)), hm5⟩
              rw [spawnL, if_pos HBE.out, spawnR, if_pos hE, HTH.out]
              exact hz5.kept hkk (fun b hb' e => hn5 (by rw [← e]; exact hb')))
            clear hz5 hk5 hm5 hr5
            go_wp2
            refine bodyPost_ret (v := .tuple #[.agg #[.int .i64 s1, .int .i64 s2], .int .i64 0]) (by simp [results, Tryz.results40, go_sem, kr0, kr1]) rfl ?_
            exact HFIN.out
      · unfold maxLen at hcm
        go_wp2
        rw [hhb] at HAH
        try rw [hhb]
        generalize w2.alloc (.cells #[.int .i64 s1, .int .i64 s2] 43) = A at *
        go_loopw [9] (fun i wr => ∃ t : Nat, t ≤ n ∧ i = .int .i64 t ∧ Hid (∀ j, j < t → (rows.getD j rowZ).s < s1) ∧ Hid (Below A.heap.size A wr)) (fun i _ => n - (intOf i).toNat)
        case atStart => exact ⟨0, by omega, rfl, fun j hj => by omega, Below.refl _ _⟩
        case round =>
          obtain ⟨t, htn, rfl, hbef, hB⟩ := hrel
          have hzr := HZA.out.later hB.out
          have cq := hzr.slots.cell2.1
          have hqr := hzr.lt q hzr.at_.1
          have hgr : g < wr.heap.size := Nat.lt_of_lt_of_le hgl hB.out.size
          have hhr : wr.heap[hb]? = some (.cells #[.int .i64 s1, .int .i64 s2] 43) := by rw [hB.out.block _ (Array.getElem?_eq_some_iff.1 HAH.out).1]; exact HAH.out
          have hhl := (Array.getElem?_eq_some_iff.1 hhr).1
          have kh0 : wr.cell? ⟨hb, 0, none⟩ = some (.int .i64 s1) := by rw [cell_of_row _ _ _ _ _ _ hhr]; rfl
          have ht0 : (0 : Int) ≤ (t : Int) := by omega
          by_cases hlt : t < n
          · have hct : wr.cell? ⟨g, t * 11, none⟩ = some (.int .i64 (rows.getD t rowZ).s) := by
              have h1 := OwnsF.at11 (B := 0) (show OwnsF elRow wr 0 56 _ rows from hzr.own) (by rw [HN.out]; omega)
              obtain ⟨g', cap', e1, -, -, -, -, -, hcc⟩ := h1
              simp only [Value.slice.injEq, Option.some.injEq, Addr.mk.injEq, and_true] at e1
              obtain ⟨rfl, -, -⟩ := e1
              exact hcc t (by rw [HN.out]; exact hlt) 0 (by decide)
            have hlti : (t : Int) < (n : Int) := by omega
            have hdt : decide ((t : Int) < (n : Int)) = true := decide_eq_true hlti
            by_cases hs : (rows.getD t rowZ).s < s1
            · have HS0 := Lib.hid hs
              have hds : decide ((rows.getD t rowZ).s < s1) = true := decide_eq_true hs
              generalize hrt : (rows.getD t rowZ).s = rt at *
              have HRT := Lib.hid hrt
              clear hzr hhr hrt
              go_wp2_with fail
              go_quiet (fail)
              go_wp2
              go_roundw
              case rel => exact ⟨t + 1, by omega, by go_num, fun j hj => if e : j = t then by rw [e, HRT.out]; exact HS0.out else hbef.out j (by omega), nb_drewN hB.out⟩
              case measure => simp [intOf]; omega
            · have HS0 := Lib.hid hs
              have hds : decide ((rows.getD t rowZ).s < s1) = false := decide_eq_false hs
              generalize hrt : (rows.getD t rowZ).s = rt at *
              have HRT := Lib.hid hrt
              have HNO : Hid (t < n → ¬ (rows.getD t rowZ).s < s1) := Lib.hid (fun _ => by rw [HRT.out]; exact HS0.out)
              clear hzr hhr hrt
              go_wp2_with fail
              go_quiet (fail)
              go_wp2_with fail
              have HLT0 := Lib.hid hlt
              clear hct hds hdt kh0 cq hlti ht0 hlt
              have HBZ : Hid (Below A.heap.size A (wr.drewN nq)) := Lib.hid (nb_drewN hB.out)
              have hqZ : q < (wr.drewN nq).heap.size := hqr
              generalize wr.drewN nq = Z at *
              have HINS : Hid (insR rows (⟨s1, s2, m, f⟩ : Rw) = rows.take t ++ (⟨s1, s2, m, f⟩ : Rw) :: rows.drop t) := Lib.hid (insR_at (by rw [HN.out]; exact htn) hbef.out (by rw [HN.out]; exact fun h => (by have h7 := HNO.out h; show ¬ (rows.getD t rowZ).s < s1; omega)))
              have HLM : Hid ((rows.take t).length + 1 ≤ maxLen ∧ ((rows.take t).length + 1) * 88 ≤ 140737488355328) := Lib.hid (by rw [List.length_take, HN.out, Nat.min_eq_left htn]; unfold maxLen; omega)
              have hSZ : ∀ x, Below Z.heap.size Z x → spHeld hb w.heap.size s1 s2 m f x := fun x hx => by
                have hbx : Below A.heap.size A x := nb_trans HBZ.out hx
                exact spHeld.mk' (by rw [hbx.block _ (Array.getElem?_eq_some_iff.1 HAH.out).1]; exact HAH.out) (by rw [hbx.block _ (Array.getElem?_eq_some_iff.1 HA0.out).1]; exact HA0.out)
              have HSX := Lib.hid hSZ
              have HQX : Hid (∀ x, Below Z.heap.size Z x → x.cell? ⟨q, 2, none⟩ = some (.slice (some ⟨g, 0, none⟩) n cap)) := Lib.hid (fun x hx => (HZA.out.later (nb_trans HBZ.out hx)).slots.cell2.1)
              have HSX5 : Hid (∀ x, Below Z.heap.size Z x → (spHeld hb w.heap.size s1 s2 m f x ∧ x.cell? ⟨q, 2, none⟩ = some (.slice (some ⟨g, 0, none⟩) n cap))) := Lib.hid (fun x hx => ⟨hSZ x hx, HQX.out x hx⟩)
              have HFX : Hid (∀ x, Below Z.heap.size Z x → x.frozen? ⟨q, 2, none⟩ = false) := Lib.hid (fun x hx => (HZA.out.later (nb_trans HBZ.out hx)).slots.cell2.2.2 2)
              have HOX : Hid (∀ x, Below Z.heap.size Z x → OwnsF elRow x 0 56 (.slice (some ⟨g, 0, none⟩) n cap) rows) := Lib.hid (fun x hx => (HZA.out.later (nb_trans HBZ.out hx)).own)
              have HSK : Hid (∀ x y, Below Z.heap.size Z x → Kept (fun b => b = q) x y → spHeld hb w.heap.size s1 s2 m f y) := Lib.hid (fun x y hx hk => (hSZ x hx).kept hk hqb hq0)
              have HZE : Hid (∀ x v', Below Z.heap.size Z x → OwnsF elRow x Z.heap.size 56 v' (rows.take t ++ (⟨s1, s2, m, f⟩ : Rw) :: rows.drop t) → ∃ G5, ZooAt (x.setCell ⟨q, 2, none⟩ v') q G5 (takeL l) (insR rows (⟨s1, s2, m, f⟩ : Rw)) vB ∧ Kept G w (x.setCell ⟨q, 2, none⟩ v') ∧ Moves w G G5 ∧ ¬ G5 (w.heap.size + 1) ∧ (x.setCell ⟨q, 2, none⟩ v').heap[w.heap.size + 1]? = some (.cells #[.int .i64 0, .int .i64 0] 43)) := Lib.hid (fun x v' hx ho => by
                have hzZ := HZA.out.later HBZ.out
                have hks : Kept (fun b => b = q) x (x.setCell ⟨q, 2, none⟩ v') := Kept.setCell (F := fun b => b = q) _ (p := ⟨q, 2, none⟩) rfl _
                have hqz := hzZ.lt q hzZ.at_.1
                have hk : Kept (fun b => b = q) Z (x.setCell ⟨q, 2, none⟩ v') := (Kept.ofBelow hx).trans hks (fun _ h => .inl h)
                obtain ⟨G5, h5, hK5, hM5⟩ := hzZ.setL (v' := v') (rows' := insR rows (⟨s1, s2, m, f⟩ : Rw)) hk (fun vg vl hq => by rw [heap_setCell_same _ _ _ _ _ _ ((hx.block q hqz).trans hq)]; rfl) (by rw [HINS.out]; exact ho.kept hks (fun k e e2 => by have := ho.ge e; omega))
                have hsA := HBZ.out.size
                have hs2 := HA.out.size
                have hsw := HBW2.out.size
                have hKZ : Kept F2 w2 (x.setCell ⟨q, 2, none⟩ v') := ((Kept.ofBelow (nb_trans HA.out HBZ.out)).trans hK5 (fun _ h => .inl h))
                have hMZ : Moves w2 F2 G5 := fun b hb' => (hM5 b hb').imp id (fun h => by omega)
                have hA1l := (Array.getElem?_eq_some_iff.1 HA1.out).1
                refine ⟨G5, h5, HBW2.out.trans hKZ (fun b hb' => HMW2.out b hb'), fun b hb' => (hMZ b hb').elim (fun h => HMW2.out b h) (fun h => .inr (by omega)), fun hg5 => (hMZ _ hg5).elim HN2.out.2 (fun h => by omega), ?_⟩
                rw [hK5.block _ (by omega) HN2.out.2, HBZ.out.block _ hA1l]; exact HA1.out)
              obtain ⟨kh0, kh1, kb0, kb1, kb2, kb3, kb4, kb5, kb6, kb7, kb8⟩ := hSZ Z (Below.refl _ _)
              have cq := HQX.out Z (Below.refl _ _)
              clear hSZ
              have ht0 : (0 : Int) ≤ (t : Int) := by omega
              have htc : (t : Int) ≤ (cap : Int) := by omega
              have htn' : (t : Int) ≤ (n : Int) := by omega
              have hnc : (n : Int) ≤ (cap : Int) := by omega
              have HCX : Hid (∀ x, Below Z.heap.size Z x → ∀ j u, (rows.flatMap elRow.enc)[j]? = some u → x.cell? ⟨g, j, none⟩ = some u) := Lib.hid (fun x hx j u hu => by
                have h2 := World.ownsRow.cellAt (n := rows.length) (by have h9 := (HOX.out x hx).owns; unfold Owns at h9; have h8 := HN.out; rw [h8] at h9 ⊢; exact h9) j (by have := (List.getElem?_eq_some_iff.1 hu).1; rwa [length_enc] at this)
                rw [h2]; exact hu)
              by_cases hcq : cap = t
              · exact absurd HLT0.out (by omega)
              · have HLM2 : Hid ((rows.take t ++ [(⟨s1, s2, m, f⟩ : Rw)]).length + (n - t) ≤ maxLen ∧ ((rows.take t ++ [(⟨s1, s2, m, f⟩ : Rw)]).length + (n - t)) * 88 ≤ 140737488355328) := Lib.hid (by rw [List.length_append, List.length_take, HN.out, Nat.min_eq_left htn]; simp [maxLen]; omega)
                have hS0 : (fun x : World => (spHeld hb w.heap.size s1 s2 m f x ∧ x.cell? ⟨q, 2, none⟩ = some (.slice (some ⟨g, 0, none⟩) n cap))) Z.drew := HSX5.out _ (Below.refl _ _).drew
                refine wp_region_noPanic (wp_region_till (fun x : World => (spHeld hb w.heap.size s1 s2 m f x ∧ x.cell? ⟨q, 2, none⟩ = some (.slice (some ⟨g, 0, none⟩) n cap))) 22 (by kernel_rfl) ?_)
                refine Till.take (i := 0) (v := ?_) [20, 21] rfl (by kernel_rfl) (by kernel_rfl) (by kernel_rfl) (by kernel_rfl) (fun _ _ _ h => h) (Or.inl ⟨by rfl, ?_⟩) hS0 ?_
                rotate_left
                · (intro w hSw; (try dsimp only at hSw); (try unfold spHeld at hSw); go_simp; (try with_reducible rfl))
                try simp only [Act.put, sp_t, sp_0, sp_s]
                refine Till.take (i := 1) (v := ?_) [2, 3, 4, 6, 7, 12, 19] rfl (by kernel_rfl) (by kernel_rfl) (by kernel_rfl) (by kernel_rfl) (fun _ _ _ h => h) (Or.inl ⟨by rfl, ?_⟩) hS0 ?_
                rotate_left
                · (intro w hSw; (try dsimp only at hSw); (try unfold spHeld at hSw); go_simp; (try with_reducible rfl))
                try simp only [Act.put, sp_t, sp_0, sp_s]
                refine Till.take (i := 2) (v := ?_) [3, 4, 6, 7, 12, 19] rfl (by kernel_rfl) (by kernel_rfl) (by kernel_rfl) (by kernel_rfl) (fun _ _ _ h => h) (Or.inl ⟨by rfl, ?_⟩) hS0 ?_
                rotate_left
                · (intro w hSw; (try dsimp only at hSw); (try unfold spHeld at hSw); go_simp; (try with_reducible rfl))
                try simp only [Act.put, sp_t, sp_0, sp_s]
                refine Till.take (i := 3) (v := ?_) [4, 6, 7, 12, 19] rfl (by kernel_rfl) (by kernel_rfl) (by kernel_rfl) (by kernel_rfl) (fun _ _ _ h => h) (Or.inl ⟨by rfl, ?_⟩) hS0 ?_
                rotate_left
                · (intro w hSw; (try dsimp only at hSw); (try unfold spHeld at hSw); go_simp; (try with_reducible rfl))
                try simp only [Act.put, sp_t, sp_0, sp_s]
                refine Till.take (i := 4) (v := ?_) [6, 7, 12, 19] rfl (by kernel_rfl) (by kernel_rfl) (by kernel_rfl) (by kernel_rfl) (fun _ _ _ h => h) (Or.inl ⟨by rfl, ?_⟩) hS0 ?_
                rotate_left
                · (intro w hSw; (try dsimp only at hSw); (try unfold spHeld at hSw); go_simp; (try with_reducible rfl))
                try simp only [Act.put, sp_t, sp_0, sp_s]
                refine Till.take (i := 5) (v := ?_) [6, 7, 12, 19] rfl (by kernel_rfl) (by kernel_rfl) (by kernel_rfl) (by kernel_rfl) (fun _ _ _ h => h) (Or.inl ⟨by rfl, ?_⟩) hS0 ?_
                rotate_left
                · (intro w hSw; (try dsimp only at hSw); (try unfold spHeld at hSw); go_simp; (try with_reducible rfl))
                try simp only [Act.put, sp_t, sp_0, sp_s]
                refine Till.take (i := 6) (v := ?_) [7, 12, 19] rfl (by kernel_rfl) (by kernel_rfl) (by kernel_rfl) (by kernel_rfl) (fun _ _ _ h => h) (Or.inl ⟨by rfl, ?_⟩) hS0 ?_
                rotate_left
                · (intro w hSw; (try dsimp only at hSw); (try unfold spHeld at hSw); go_simp; (try with_reducible rfl))
                try simp only [Act.put, sp_t, sp_0, sp_s]
                refine Till.take (i := 8) (v := ?_) [10, 11, 12, 19] rfl (by kernel_rfl) (by kernel_rfl) (by kernel_rfl) (by kernel_rfl) (fun _ _ _ h => h) (Or.inl ⟨by rfl, ?_⟩) hS0 ?_
                rotate_left
                · (intro w hSw; (try dsimp only at hSw); (try unfold spHeld at hSw); go_simp; (try with_reducible rfl))
                try simp only [Act.put, sp_t, sp_0, sp_s]
                refine Till.take (i := 9) (v := ?_) [10, 11, 12, 19] rfl (by kernel_rfl) (by kernel_rfl) (by kernel_rfl) (by kernel_rfl) (fun _ _ _ h => h) (Or.inl ⟨by rfl, ?_⟩) hS0 ?_
                rotate_left
                · (intro w hSw; (try dsimp only at hSw); (try unfold spHeld at hSw); go_simp; (try with_reducible rfl))
                try simp only [Act.put, sp_t, sp_0, sp_s]
                refine Till.take (i := 10) (v := ?_) [11, 12, 19] rfl (by kernel_rfl) (by kernel_rfl) (by kernel_rfl) (by kernel_rfl) (fun _ _ _ h => h) (Or.inl ⟨by rfl, ?_⟩) hS0 ?_
                rotate_left
                · (intro w hSw; (try dsimp only at hSw); (try unfold spHeld at hSw); go_simp; (try with_reducible rfl))
                try simp only [Act.put, sp_t, sp_0, sp_s]
                refine Till.take (i := 13) (v := ?_) [14, 15, 16, 18, 19] rfl (by kernel_rfl) (by kernel_rfl) (by kernel_rfl) (by kernel_rfl) (fun _ _ _ h => h) (Or.inl ⟨by rfl, ?_⟩) hS0 ?_
                rotate_left
                · (intro w hSw; (try dsimp only at hSw); (try unfold spHeld at hSw); go_simp; (try with_reducible rfl))
                try simp only [Act.put, sp_t, sp_0, sp_s]
                refine Till.take (i := 14) (v := ?_) [15, 16, 18, 19] rfl (by kernel_rfl) (by kernel_rfl) (by kernel_rfl) (by kernel_rfl) (fun _ _ _ h => h) (Or.inl ⟨by rfl, ?_⟩) hS0 ?_
                rotate_left
                · (intro w hSw; (try dsimp only at hSw); (try unfold spHeld at hSw); go_simp; (try with_reducible rfl))
                try simp only [Act.put, sp_t, sp_0, sp_s]
                refine Till.take (i := 15) (v := ?_) [16, 18, 19] rfl (by kernel_rfl) (by kernel_rfl) (by kernel_rfl) (by kernel_rfl) (fun _ _ _ h => h) (Or.inl ⟨by rfl, ?_⟩) hS0 ?_
                rotate_left
                · (intro w hSw; (try dsimp only at hSw); (try unfold spHeld at hSw); go_simp; (try with_reducible rfl))
                try simp only [Act.put, sp_t, sp_0, sp_s]
                refine Till.take (i := 16) (v := ?_) [18, 19] rfl (by kernel_rfl) (by kernel_rfl) (by kernel_rfl) (by kernel_rfl) (fun _ _ _ h => h) (Or.inl ⟨by rfl, ?_⟩) hS0 ?_
                rotate_left
                · (intro w hSw; (try dsimp only at hSw); (try unfold spHeld at hSw); go_simp; (try with_reducible rfl))
                try simp only [Act.put, sp_t, sp_0, sp_s]
                refine Till.take (i := 17) (v := ?_) [18, 19] rfl (by kernel_rfl) (by kernel_rfl) (by kernel_rfl) (by kernel_rfl) (fun _ _ _ h => h) (Or.inl ⟨by rfl, ?_⟩) hS0 ?_
                rotate_left
                · (intro w hSw; (try dsimp only at hSw); (try unfold spHeld at hSw); go_simp; (try with_reducible rfl))
                try simp only [Act.put, sp_t, sp_0, sp_s]
                refine Till.take (i := 18) (v := ?_) [19] rfl (by kernel_rfl) (by kernel_rfl) (by kernel_rfl) (by kernel_rfl) (fun _ _ _ h => h) (Or.inl ⟨by rfl, ?_⟩) hS0 ?_
                rotate_left
                · (intro w hSw; (try dsimp only at hSw); (try unfold spHeld at hSw); go_simp; (try with_reducible rfl))
                try simp only [Act.put, sp_t, sp_0, sp_s]
                refine Till.ready (rs := [7, 11]) (by kernel_rfl) (by simp) (TillAll.cons rfl (fun K hK => ?_) (TillAll.cons rfl (fun K hK => ?_) TillAll.nil))
                focus
                  go_simp
                  go_at_call 27
                  refine (copyRow_any (.slice (some ⟨g, 0, none⟩) t cap) (rows.take t) _ (OwnsF.cutTo (n := n) (HOX.out _ (by first | exact (Below.refl _ _).drew | exact nb_alloc (Below.refl _ _).drew _)) (by rw [HN.out]; exact htn)) (by have := HLM.out.2; omega)).mono ?_
                  rintro e w1' ⟨v1, rfl, ho1, hb1⟩
                  have HB1 : Hid (Below Z.heap.size Z w1') := Lib.hid (nb_trans (by first | exact (Below.refl _ _).drew | exact nb_alloc (Below.refl _ _).drew _) hb1)
                  have HN1 := Lib.hid hb1
                  have HO1 : Hid (OwnsF elRow w1' Z.heap.size 56 v1 (rows.take t)) := Lib.hid (ho1.weaken (by first | exact Nat.le_refl _ | simp))
                  have hq1 : q < w1'.heap.size := Nat.lt_of_lt_of_le hqZ HB1.out.size
                  clear ho1 hb1
                  dsimp only
                  refine hK.out _ _ (.inr (HSX5.out _ HB1.out)) ?_
                  clear hK K
                  try simp only [Act.put, sp_t, sp_0, sp_s]
                  refine Till.ready (rs := [11]) (by kernel_rfl) (by simp) (TillAll.cons rfl (fun K hK => ?_) TillAll.nil)
                  go_simp
                  refine hK.out _ _ (.inr (HSX5.out _ (nb_alloc HB1.out _))) ?_
                  clear hK K
                  try simp only [Act.put, sp_t, sp_0, sp_s]
                rotate_left
                focus
                  go_simp
                  refine hK.out _ _ (.inr (HSX5.out _ (nb_alloc (Below.refl _ _).drew _))) ?_
                  clear hK K
                  try simp only [Act.put, sp_t, sp_0, sp_s]
                  refine Till.ready (rs := [7]) (by kernel_rfl) (by simp) (TillAll.cons rfl (fun K hK => ?_) TillAll.nil)
                  go_simp
                  go_at_call 27
                  refine (copyRow_any (.slice (some ⟨g, 0, none⟩) t cap) (rows.take t) _ (OwnsF.cutTo (n := n) (HOX.out _ (by first | exact (Below.refl _ _).drew | exact nb_alloc (Below.refl _ _).drew _)) (by rw [HN.out]; exact htn)) (by have := HLM.out.2; omega)).mono ?_
                  rintro e w1' ⟨v1, rfl, ho1, hb1⟩
                  have HB1 : Hid (Below Z.heap.size Z w1') := Lib.hid (nb_trans (by first | exact (Below.refl _ _).drew | exact nb_alloc (Below.refl _ _).drew _) hb1)
                  have HN1 := Lib.hid hb1
                  have HO1 : Hid (OwnsF elRow w1' Z.heap.size 56 v1 (rows.take t)) := Lib.hid (ho1.weaken (by first | exact Nat.le_refl _ | simp))
                  have hq1 : q < w1'.heap.size := Nat.lt_of_lt_of_le hqZ HB1.out.size
                  clear ho1 hb1
                  dsimp only
                  refine hK.out _ _ (.inr (HSX5.out _ HB1.out)) ?_
                  clear hK K
                  try simp only [Act.put, sp_t, sp_0, sp_s]
                all_goals
                  refine Till.ready (rs := [12]) (by kernel_rfl) (by simp) (TillAll.cons rfl (fun K hK => ?_) TillAll.nil)
                  refine stepZ_append (by rfl) _ _ 30 (by rfl) Z.heap.size 56 i0 _ 11 88 Tryz.underlying30 hi hz0 hz1 hz2 rfl (by decide) v1 (rows.take t).length ((rows.take t).flatMap elRow.enc) (by rfl) (by first | exact HO1.out | exact World.ownsRow.alloc HO1.out _) _ 1 1 [.int .i64 s1, .int .i64 s2, .int .i64 m, .int .i64 (f 0), .int .i64 (f 1), .int .i64 (f 2), .int .i64 (f 3), .int .i64 (f 4), .int .i64 (f 5), .int .i64 (f 6), .int .i64 (f 7)] (by rfl) rfl (World.news_of_block (by first | exact heap_alloc_new _ _ | (rw [HN1.out.block _ (by simp)]; exact heap_alloc_new _ _))) (elRow.one (⟨s1, s2, m, f⟩ : Rw)) HLM.out.1 HLM.out.2 (by first | exact HB1.out.size | exact (nb_alloc HB1.out _).size) ?_
                  intro v2 xb hown hgr _
                  have hb2 : Below Z.heap.size Z xb := (by first | exact HB1.out.grown hgr HB1.out.size (fun j hj => HO1.out.ge hj) | exact (nb_alloc HB1.out _).grown hgr (nb_alloc HB1.out _).size (fun j hj => HO1.out.ge hj))
                  have HB2 := Lib.hid hb2
                  have HO2 : Hid (OwnsF elRow xb Z.heap.size 56 v2 ((rows.take t) ++ [(⟨s1, s2, m, f⟩ : Rw)])) := Lib.hid (OwnsF.snoc (x := (⟨s1, s2, m, f⟩ : Rw)) hown)
                  clear hown hgr hb2
                  refine hK.out _ _ (.inr (HSX5.out _ HB2.out)) ?_
                  clear hK K
                  try simp only [Act.put, sp_t, sp_0, sp_s]
                  refine Till.ready (rs := [19]) (by kernel_rfl) (by simp) (TillAll.cons rfl (fun K hK => ?_) TillAll.nil)
                  refine stepZ_append (by rfl) _ _ 30 (by rfl) Z.heap.size 56 i0 _ 11 88 Tryz.underlying30 hi hz0 hz1 hz2 rfl (by decide) v2 ((rows.take t) ++ [(⟨s1, s2, m, f⟩ : Rw)]).length (((rows.take t) ++ [(⟨s1, s2, m, f⟩ : Rw)]).flatMap elRow.enc) (by rfl) HO2.out ⟨g, t * 11, none⟩ (n - t) (cap - t) ((rows.drop t).flatMap elRow.enc) (by rfl) (by rw [length_enc, List.length_drop, HN.out]; rfl) (fun j u hu => by rw [addr_add']; rw [flatMapZ_drop, List.getElem?_drop] at hu; exact HCX.out _ HB2.out _ u hu) (oneZ_rows _) HLM2.out.1 HLM2.out.2 HB2.out.size ?_
                  intro v3 xc hown hgr _
                  have HO3a : Hid (OwnsF elRow xc Z.heap.size 56 v3 ((rows.take t) ++ (⟨s1, s2, m, f⟩ : Rw) :: rows.drop t)) := Lib.hid (by have hh := hown; have e1 : rows.take t ++ (⟨s1, s2, m, f⟩ : Rw) :: rows.drop t = (rows.take t ++ [(⟨s1, s2, m, f⟩ : Rw)]) ++ rows.drop t := (by simp); have e2 : ((rows.take t ++ [(⟨s1, s2, m, f⟩ : Rw)]) ++ rows.drop t).flatMap elRow.enc = (rows.take t ++ [(⟨s1, s2, m, f⟩ : Rw)]).flatMap elRow.enc ++ (rows.drop t).flatMap elRow.enc := List.flatMap_append; have e3 : ((rows.take t ++ [(⟨s1, s2, m, f⟩ : Rw)]) ++ rows.drop t).length = (rows.take t ++ [(⟨s1, s2, m, f⟩ : Rw)]).length + (n - t) := (by rw [List.length_append, List.length_drop, HN.out]); rw [e1]; unfold OwnsF; rw [e2, e3]; exact hh)
                  have hb3 : Below Z.heap.size Z xc := HB2.out.grown hgr HB2.out.size (fun j hj => HO2.out.ge hj)
                  have HB3 := Lib.hid hb3
                  obtain ⟨av, n3, cv, rfl⟩ : ∃ av n3 cv, v3 = .slice av n3 cv := (by obtain ⟨a1, c1, e1, -⟩ := HO3a.out.reads; exact ⟨_, _, _, e1⟩)
                  have HO3 := HO3a
                  clear hown hgr hb3
                  refine hK.out _ _ (.inr (HSX5.out _ HB3.out)) ?_
                  clear hK K
                  try simp only [Act.put, sp_t, sp_0, sp_s]
                  have cq3 := HQX.out xc HB3.out
                  have fq3 := HFX.out xc HB3.out
                  have hq3 : q < xc.heap.size := Nat.lt_of_lt_of_le hqZ HB3.out.size
                  have HS4 : Hid (spHeld hb w.heap.size s1 s2 m f ((xc.setCell ⟨q, 2, none⟩ (.slice av n3 cv)))) := Lib.hid (HSK.out _ _ HB3.out (Kept.setCell (F := fun b => b = q) _ (p := ⟨q, 2, none⟩) rfl _))
                  have HZ5 := Lib.hid (HZE.out xc _ HB3.out HO3.out)
                  have hS9 : (fun x : World => (spHeld hb w.heap.size s1 s2 m f x ∧ x.cell? ⟨q, 2, none⟩ = some (.slice (some ⟨g, 0, none⟩) n cap))) xc := HSX5.out _ HB3.out
                  refine Till.take (i := 20) (v := ?_) [21] rfl (by kernel_rfl) (by kernel_rfl) (by kernel_rfl) (by kernel_rfl) (fun _ _ _ h => h) (Or.inl ⟨by rfl, ?_⟩) hS9 ?_
                  rotate_left
                  · (intro w hSw; (try dsimp only at hSw); (try unfold spHeld at hSw); go_simp; (try with_reducible rfl))
                  try simp only [Act.put, sp_t, sp_0, sp_s]
                  refine Till.take (i := 21) (v := ?_) [] rfl (by kernel_rfl) (by kernel_rfl) (by kernel_rfl) (by kernel_rfl) (fun _ _ _ h => h) (Or.inl ⟨by rfl, ?_⟩) hS9 ?_
                  rotate_left
                  · (intro w hSw; (try dsimp only at hSw); (try unfold spHeld at hSw); go_simp; (try with_reducible rfl))
                  try simp only [Act.put, sp_t, sp_0, sp_s]
                  refine Till.ready (rs := [22]) (by kernel_rfl) (by simp) (TillAll.cons rfl (fun K hK => ?_) TillAll.nil)
                  go_simp
                  refine hK.out _ _ (.inl rfl) ?_
                  clear hK K
                  try simp only [Act.put, sp_t, sp_0, sp_s]
                  refine Till.done (by kernel_rfl) (NoPanic.normal ?_) _
                  (first | generalize xc.setCell ⟨q, 2, none⟩ (.slice av n3 cv) = W5 at * | generalize xb.setCell ⟨q, 2, none⟩ (.slice av n3 cv) = W5 at *)
                  obtain ⟨G5, hz5, hk5, hm5, hn5, hr5⟩ := HZ5.out
                  have hS4 := HS4.out
                  unfold spHeld at hS4
                  obtain ⟨kw0, kw1, -⟩ := hS4
                  obtain ⟨kr0, kr1⟩ := hCells (a := 0) (b := 0) hr5
                  have fr : ∀ j, W5.frozen? ⟨w.heap.size + 1, j, none⟩ = false := fun j => frozen_of_row _ _ _ _ _ hr5
                  have hrl := (Array.getElem?_eq_some_iff.1 hr5).1
                  have hwl := World.block_lt_of_cell? _ _ kw0
                  simp only at hwl
                  have HFIN : Hid (ZSpawnPost w q G l rows vB m f (.returned (.tuple #[.agg #[.int .i64 s1, .int .i64 s2], .int .i64 0])) ((W5.setCell ⟨w.heap.size + 1, 0, none⟩ (.int .i64 s1)).setCell ⟨w.heap.size + 1, 1, none⟩ (.int .i64 s2))) := Lib.hid (by
                    have hkk : Kept (fun b => b = w.heap.size + 1) W5 ((W5.setCell ⟨w.heap.size + 1, 0, none⟩ (.int .i64 s1)).setCell ⟨w.heap.size + 1, 1, none⟩ (.int .i64 s2)) := (Kept.setCell (F := fun b => b = w.heap.size + 1) _ (p := ⟨w.heap.size + 1, 0, none⟩) rfl _).trans (Kept.setCell (F := fun b => b = w.heap.size + 1) _ (p := ⟨w.heap.size + 1, 1, none⟩) rfl _) (fun _ h => .inl h)
                    have hE : spawnE l m f = 0 := by rw [spawnE, if_pos HBE.out]; exact HTE.out
                    refine ⟨by rw [spawnH, if_pos HBE.out, HTH.out, hE], G5, ?_, hk5.trans hkk (fun b e => .inr (by omega)), hm5⟩
                    rw [spawnL, if_pos HBE.out, spawnR, if_pos hE, HTH.out]
                    exact hz5.kept hkk (fun b hb' e => hn5 (by rw [← e]; exact hb')))
                  clear hz5 hk5 hm5 hr5
                  go_wp2
                  refine bodyPost_ret (v := .tuple #[.agg #[.int .i64 s1, .int .i64 s2], .int .i64 0]) (by simp [results, Tryz.results40, go_sem, kr0, kr1]) rfl ?_
                  exact HFIN.out
          · have htn2 : t = n := by omega
            have HTN := Lib.hid htn2
            have hdt : decide ((t : Int) < (n : Int)) = false := decide_eq_false (by omega)
            have hdt2 : decide (t < n) = false := decide_eq_false hlt
            have HNO : Hid (t < n → ¬ (rows.getD t rowZ).s < s1) := Lib.hid (fun h => absurd h hlt)
            have hnl : ¬ (t : Int) < (n : Int) := by omega
            clear hzr hhr htn2 hlt
            go_wp2_with fail
            go_quiet (fail)
            go_wp2_with fail
            clear hdt hdt2 kh0 cq ht0 hnl
            have HBZ : Hid (Below A.heap.size A (wr.drewN nq)) := Lib.hid (nb_drewN hB.out)
            have hqZ : q < (wr.drewN nq).heap.size := hqr
            generalize wr.drewN nq = Z at *
            have HINS : Hid (insR rows (⟨s1, s2, m, f⟩ : Rw) = rows.take t ++ (⟨s1, s2, m, f⟩ : Rw) :: rows.drop t) := Lib.hid (insR_at (by rw [HN.out]; exact htn) hbef.out (by rw [HN.out]; exact fun h => (by have h7 := HNO.out h; show ¬ (rows.getD t rowZ).s < s1; omega)))
            have HLM : Hid ((rows.take t).length + 1 ≤ maxLen ∧ ((rows.take t).length + 1) * 88 ≤ 140737488355328) := Lib.hid (by rw [List.length_take, HN.out, Nat.min_eq_left htn]; unfold maxLen; omega)
            have hSZ : ∀ x, Below Z.heap.size Z x → spHeld hb w.heap.size s1 s2 m f x := fun x hx => by
              have hbx : Below A.heap.size A x := nb_trans HBZ.out hx
              exact spHeld.mk' (by rw [hbx.block _ (Array.getElem?_eq_some_iff.1 HAH.out).1]; exact HAH.out) (by rw [hbx.block _ (Array.getElem?_eq_some_iff.1 HA0.out).1]; exact HA0.out)
            have HSX := Lib.hid hSZ
            have HQX : Hid (∀ x, Below Z.heap.size Z x → x.cell? ⟨q, 2, none⟩ = some (.slice (some ⟨g, 0, none⟩) n cap)) := Lib.hid (fun x hx => (HZA.out.later (nb_trans HBZ.out hx)).slots.cell2.1)
            have HSX5 : Hid (∀ x, Below Z.heap.size Z x → (spHeld hb w.heap.size s1 s2 m f x ∧ x.cell? ⟨q, 2, none⟩ = some (.slice (some ⟨g, 0, none⟩) n cap))) := Lib.hid (fun x hx => ⟨hSZ x hx, HQX.out x hx⟩)
            have HFX : Hid (∀ x, Below Z.heap.size Z x → x.frozen? ⟨q, 2, none⟩ = false) := Lib.hid (fun x hx => (HZA.out.later (nb_trans HBZ.out hx)).slots.cell2.2.2 2)
            have HOX : Hid (∀ x, Below Z.heap.size Z x → OwnsF elRow x 0 56 (.slice (some ⟨g, 0, none⟩) n cap) rows) := Lib.hid (fun x hx => (HZA.out.later (nb_trans HBZ.out hx)).own)
            have HSK : Hid (∀ x y, Below Z.heap.size Z x → Kept (fun b => b = q) x y → spHeld hb w.heap.size s1 s2 m f y) := Lib.hid (fun x y hx hk => (hSZ x hx).kept hk hqb hq0)
            have HZE : Hid (∀ x v', Below Z.heap.size Z x → OwnsF elRow x Z.heap.size 56 v' (rows.take t ++ (⟨s1, s2, m, f⟩ : Rw) :: rows.drop t) → ∃ G5, ZooAt (x.setCell ⟨q, 2, none⟩ v') q G5 (takeL l) (insR rows (⟨s1, s2, m, f⟩ : Rw)) vB ∧ Kept G w (x.setCell ⟨q, 2, none⟩ v') ∧ Moves w G G5 ∧ ¬ G5 (w.heap.size + 1) ∧ (x.setCell ⟨q, 2, none⟩ v').heap[w.heap.size + 1]? = some (.cells #[.int .i64 0, .int .i64 0] 43)) := Lib.hid (fun x v' hx ho => by
              have hzZ := HZA.out.later HBZ.out
              have hks : Kept (fun b => b = q) x (x.setCell ⟨q, 2, none⟩ v') := Kept.setCell (F := fun b => b = q) _ (p := ⟨q, 2, none⟩) rfl _
              have hqz := hzZ.lt q hzZ.at_.1
              have hk : Kept (fun b => b = q) Z (x.setCell ⟨q, 2, none⟩ v') := (Kept.ofBelow hx).trans hks (fun _ h => .inl h)
              obtain ⟨G5, h5, hK5, hM5⟩ := hzZ.setL (v' := v') (rows' := insR rows (⟨s1, s2, m, f⟩ : Rw)) hk (fun vg vl hq => by rw [heap_setCell_same _ _ _ _ _ _ ((hx.block q hqz).trans hq)]; rfl) (by rw [HINS.out]; exact ho.kept hks (fun k e e2 => by have := ho.ge e; omega))
              have hsA := HBZ.out.size
              have hs2 := HA.out.size
              have hsw := HBW2.out.size
              have hKZ : Kept F2 w2 (x.setCell ⟨q, 2, none⟩ v') := ((Kept.ofBelow (nb_trans HA.out HBZ.out)).trans hK5 (fun _ h => .inl h))
              have hMZ : Moves w2 F2 G5 := fun b hb' => (hM5 b hb').imp id (fun h => by omega)
              have hA1l := (Array.getElem?_eq_some_iff.1 HA1.out).1
              refine ⟨G5, h5, HBW2.out.trans hKZ (fun b hb' => HMW2.out b hb'), fun b hb' => (hMZ b hb').elim (fun h => HMW2.out b h) (fun h => .inr (by omega)), fun hg5 => (hMZ _ hg5).elim HN2.out.2 (fun h => by omega), ?_⟩
              rw [hK5.block _ (by omega) HN2.out.2, HBZ.out.block _ hA1l]; exact HA1.out)
            obtain ⟨kh0, kh1, kb0, kb1, kb2, kb3, kb4, kb5, kb6, kb7, kb8⟩ := hSZ Z (Below.refl _ _)
            have cq := HQX.out Z (Below.refl _ _)
            clear hSZ
            have ht0 : (0 : Int) ≤ (t : Int) := by omega
            have htc : (t : Int) ≤ (cap : Int) := by omega
            have htn' : (t : Int) ≤ (n : Int) := by omega
            have hnc : (n : Int) ≤ (cap : Int) := by omega
            have HCX : Hid (∀ x, Below Z.heap.size Z x → ∀ j u, (rows.flatMap elRow.enc)[j]? = some u → x.cell? ⟨g, j, none⟩ = some u) := Lib.hid (fun x hx j u hu => by
              have h2 := World.ownsRow.cellAt (n := rows.length) (by have h9 := (HOX.out x hx).owns; unfold Owns at h9; have h8 := HN.out; rw [h8] at h9 ⊢; exact h9) j (by have := (List.getElem?_eq_some_iff.1 hu).1; rwa [length_enc] at this)
              rw [h2]; exact hu)
            by_cases hcq : cap = t
            · replace hcq := hcq.symm
              subst hcq
              have HNQ : Hid (n = t) := Lib.hid HTN.out.symm
              have HDR : Hid (rows.drop t = []) := Lib.hid (List.drop_of_length_le (by rw [HN.out, HNQ.out]; exact Nat.le_refl _))
              have HLM2 : Hid ((rows.take t ++ [(⟨s1, s2, m, f⟩ : Rw)]).length + 0 ≤ maxLen ∧ ((rows.take t ++ [(⟨s1, s2, m, f⟩ : Rw)]).length + 0) * 88 ≤ 140737488355328) := Lib.hid (by rw [List.length_append, List.length_take, HN.out, Nat.min_eq_left htn]; simp [maxLen]; omega)
              have hS0 : (fun x : World => (spHeld hb w.heap.size s1 s2 m f x ∧ x.cell? ⟨q, 2, none⟩ = some (.slice (some ⟨g, 0, none⟩) n t))) Z.drew := HSX5.out _ (Below.refl _ _).drew
              refine wp_region_noPanic (wp_region_till (fun x : World => (spHeld hb w.heap.size s1 s2 m f x ∧ x.cell? ⟨q, 2, none⟩ = some (.slice (some ⟨g, 0, none⟩) n t))) 22 (by kernel_rfl) ?_)
              refine Till.take (i := 0) (v := ?_) [20, 21] rfl (by kernel_rfl) (by kernel_rfl) (by kernel_rfl) (by kernel_rfl) (fun _ _ _ h => h) (Or.inl ⟨by rfl, ?_⟩) hS0 ?_
              rotate_left
              · (intro w hSw; (try dsimp only at hSw); (try unfold spHeld at hSw); go_simp; (try with_reducible rfl))
              try simp only [Act.put, sp_t, sp_0, sp_s]
              refine Till.take (i := 1) (v := ?_) [2, 3, 4, 6, 7, 12, 19] rfl (by kernel_rfl) (by kernel_rfl) (by kernel_rfl) (by kernel_rfl) (fun _ _ _ h => h) (Or.inl ⟨by rfl, ?_⟩) hS0 ?_
              rotate_left
              · (intro w hSw; (try dsimp only at hSw); (try unfold spHeld at hSw); go_simp; (try with_reducible rfl))
              try simp only [Act.put, sp_t, sp_0, sp_s]
              refine Till.take (i := 2) (v := ?_) [3, 4, 6, 7, 12, 19] rfl (by kernel_rfl) (by kernel_rfl) (by kernel_rfl) (by kernel_rfl) (fun _ _ _ h => h) (Or.inl ⟨by rfl, ?_⟩) hS0 ?_
              rotate_left
              · (intro w hSw; (try dsimp only at hSw); (try unfold spHeld at hSw); go_simp; (try with_reducible rfl))
              try simp only [Act.put, sp_t, sp_0, sp_s]
              refine Till.take (i := 3) (v := ?_) [4, 6, 7, 12, 19] rfl (by kernel_rfl) (by kernel_rfl) (by kernel_rfl) (by kernel_rfl) (fun _ _ _ h => h) (Or.inl ⟨by rfl, ?_⟩) hS0 ?_
              rotate_left
              · (intro w hSw; (try dsimp only at hSw); (try unfold spHeld at hSw); go_simp; (try with_reducible rfl))
              try simp only [Act.put, sp_t, sp_0, sp_s]
              refine Till.take (i := 4) (v := ?_) [6, 7, 12, 19] rfl (by kernel_rfl) (by kernel_rfl) (by kernel_rfl) (by kernel_rfl) (fun _ _ _ h => h) (Or.inl ⟨by rfl, ?_⟩) hS0 ?_
              rotate_left
              · (intro w hSw; (try dsimp only at hSw); (try unfold spHeld at hSw); go_simp; (try with_reducible rfl))
              try simp only [Act.put, sp_t, sp_0, sp_s]
              refine Till.take (i := 5) (v := ?_) [6, 7, 12, 19] rfl (by kernel_rfl) (by kernel_rfl) (by kernel_rfl) (by kernel_rfl) (fun _ _ _ h => h) (Or.inl ⟨by rfl, ?_⟩) hS0 ?_
              rotate_left
              · (intro w hSw; (try dsimp only at hSw); (try unfold spHeld at hSw); go_simp; (try with_reducible rfl))
              try simp only [Act.put, sp_t, sp_0, sp_s]
              refine Till.take (i := 6) (v := ?_) [7, 12, 19] rfl (by kernel_rfl) (by kernel_rfl) (by kernel_rfl) (by kernel_rfl) (fun _ _ _ h => h) (Or.inl ⟨by rfl, ?_⟩) hS0 ?_
              rotate_left
              · (intro w hSw; (try dsimp only at hSw); (try unfold spHeld at hSw); go_simp; (try with_reducible rfl))
              try simp only [Act.put, sp_t, sp_0, sp_s]
              refine Till.take (i := 8) (v := ?_) [10, 11, 12, 19] rfl (by kernel_rfl) (by kernel_rfl) (by kernel_rfl) (by kernel_rfl) (fun _ _ _ h => h) (Or.inl ⟨by rfl, ?_⟩) hS0 ?_
              rotate_left
              · (intro w hSw; (try dsimp only at hSw); (try unfold spHeld at hSw); go_simp; (try with_reducible rfl))
              try simp only [Act.put, sp_t, sp_0, sp_s]
              refine Till.take (i := 9) (v := ?_) [10, 11, 12, 19] rfl (by kernel_rfl) (by kernel_rfl) (by kernel_rfl) (by kernel_rfl) (fun _ _ _ h => h) (Or.inl ⟨by rfl, ?_⟩) hS0 ?_
              rotate_left
              · (intro w hSw; (try dsimp only at hSw); (try unfold spHeld at hSw); go_simp; (try with_reducible rfl))
              try simp only [Act.put, sp_t, sp_0, sp_s]
              refine Till.take (i := 10) (v := ?_) [11, 12, 19] rfl (by kernel_rfl) (by kernel_rfl) (by kernel_rfl) (by kernel_rfl) (fun _ _ _ h => h) (Or.inl ⟨by rfl, ?_⟩) hS0 ?_
              rotate_left
              · (intro w hSw; (try dsimp only at hSw); (try unfold spHeld at hSw); go_simp; (try with_reducible rfl))
              try simp only [Act.put, sp_t, sp_0, sp_s]
              refine Till.take (i := 13) (v := ?_) [14, 15, 16, 18, 19] rfl (by kernel_rfl) (by kernel_rfl) (by kernel_rfl) (by kernel_rfl) (fun _ _ _ h => h) (Or.inl ⟨by rfl, ?_⟩) hS0 ?_
              rotate_left
              · (intro w hSw; (try dsimp only at hSw); (try unfold spHeld at hSw); go_simp; (try with_reducible rfl))
              try simp only [Act.put, sp_t, sp_0, sp_s]
              refine Till.take (i := 14) (v := ?_) [15, 16, 18, 19] rfl (by kernel_rfl) (by kernel_rfl) (by kernel_rfl) (by kernel_rfl) (fun _ _ _ h => h) (Or.inl ⟨by rfl, ?_⟩) hS0 ?_
              rotate_left
              · (intro w hSw; (try dsimp only at hSw); (try unfold spHeld at hSw); go_simp; (try with_reducible rfl))
              try simp only [Act.put, sp_t, sp_0, sp_s]
              refine Till.take (i := 15) (v := ?_) [16, 18, 19] rfl (by kernel_rfl) (by kernel_rfl) (by kernel_rfl) (by kernel_rfl) (fun _ _ _ h => h) (Or.inl ⟨by rfl, ?_⟩) hS0 ?_
              rotate_left
              · (intro w hSw; (try dsimp only at hSw); (try unfold spHeld at hSw); go_simp; (try with_reducible rfl))
              try simp only [Act.put, sp_t, sp_0, sp_s]
              refine Till.take (i := 16) (v := ?_) [18, 19] rfl (by kernel_rfl) (by kernel_rfl) (by kernel_rfl) (by kernel_rfl) (fun _ _ _ h => h) (Or.inl ⟨by rfl, ?_⟩) hS0 ?_
              rotate_left
              · (intro w hSw; (try dsimp only at hSw); (try unfold spHeld at hSw); go_simp; (try with_reducible rfl))
              try simp only [Act.put, sp_t, sp_0, sp_s]
              refine Till.take (i := 17) (v := ?_) [18, 19] rfl (by kernel_rfl) (by kernel_rfl) (by kernel_rfl) (by kernel_rfl) (fun _ _ _ h => h) (Or.inl ⟨by rfl, ?_⟩) hS0 ?_
              rotate_left
              · (intro w hSw; (try dsimp only at hSw); (try unfold spHeld at hSw); go_simp; (try with_reducible rfl))
              try simp only [Act.put, sp_t, sp_0, sp_s]
              refine Till.take (i := 18) (v := ?_) [19] rfl (by kernel_rfl) (by kernel_rfl) (by kernel_rfl) (by kernel_rfl) (fun _ _ _ h => h) (Or.inl ⟨by rfl, ?_⟩) hS0 ?_
              rotate_left
              · (intro w hSw; (try dsimp only at hSw); (try unfold spHeld at hSw); go_simp; (try with_reducible rfl))
              try simp only [Act.put, sp_t, sp_0, sp_s]
              refine Till.ready (rs := [7, 11]) (by kernel_rfl) (by simp) (TillAll.cons rfl (fun K hK => ?_) (TillAll.cons rfl (fun K hK => ?_) TillAll.nil))
              focus
                go_simp
                go_at_call 27
                refine (copyRow_any (.slice (some ⟨g, 0, none⟩) t t) (rows.take t) _ (OwnsF.cutTo (n := n) (HOX.out _ (by first | exact (Below.refl _ _).drew | exact nb_alloc (Below.refl _ _).drew _)) (by rw [HN.out]; exact htn)) (by have := HLM.out.2; omega)).mono ?_
                rintro e w1' ⟨v1, rfl, ho1, hb1⟩
                have HB1 : Hid (Below Z.heap.size Z w1') := Lib.hid (nb_trans (by first | exact (Below.refl _ _).drew | exact nb_alloc (Below.refl _ _).drew _) hb1)
                have HN1 := Lib.hid hb1
                have HO1 : Hid (OwnsF elRow w1' Z.heap.size 56 v1 (rows.take t)) := Lib.hid (ho1.weaken (by first | exact Nat.le_refl _ | simp))
                have hq1 : q < w1'.heap.size := Nat.lt_of_lt_of_le hqZ HB1.out.size
                clear ho1 hb1
                dsimp only
                refine hK.out _ _ (.inr (HSX5.out _ HB1.out)) ?_
                clear hK K
                try simp only [Act.put, sp_t, sp_0, sp_s]
                refine Till.ready (rs := [11]) (by kernel_rfl) (by simp) (TillAll.cons rfl (fun K hK => ?_) TillAll.nil)
                go_simp
                refine hK.out _ _ (.inr (HSX5.out _ (nb_alloc HB1.out _))) ?_
                clear hK K
                try simp only [Act.put, sp_t, sp_0, sp_s]
              rotate_left
              focus
                go_simp
                refine hK.out _ _ (.inr (HSX5.out _ (nb_alloc (Below.refl _ _).drew _))) ?_
                clear hK K
                try simp only [Act.put, sp_t, sp_0, sp_s]
                refine Till.ready (rs := [7]) (by kernel_rfl) (by simp) (TillAll.cons rfl (fun K hK => ?_) TillAll.nil)
                go_simp
                go_at_call 27
                refine (copyRow_any (.slice (some ⟨g, 0, none⟩) t t) (rows.take t) _ (OwnsF.cutTo (n := n) (HOX.out _ (by first | exact (Below.refl _ _).drew | exact nb_alloc (Below.refl _ _).drew _)) (by rw [HN.out]; exact htn)) (by have := HLM.out.2; omega)).mono ?_
                rintro e w1' ⟨v1, rfl, ho1, hb1⟩
                have HB1 : Hid (Below Z.heap.size Z w1') := Lib.hid (nb_trans (by first | exact (Below.refl _ _).drew | exact nb_alloc (Below.refl _ _).drew _) hb1)
                have HN1 := Lib.hid hb1
                have HO1 : Hid (OwnsF elRow w1' Z.heap.size 56 v1 (rows.take t)) := Lib.hid (ho1.weaken (by first | exact Nat.le_refl _ | simp))
                have hq1 : q < w1'.heap.size := Nat.lt_of_lt_of_le hqZ HB1.out.size
                clear ho1 hb1
                dsimp only
                refine hK.out _ _ (.inr (HSX5.out _ HB1.out)) ?_
                clear hK K
                try simp only [Act.put, sp_t, sp_0, sp_s]
              all_goals
                refine Till.ready (rs := [12]) (by kernel_rfl) (by simp) (TillAll.cons rfl (fun K hK => ?_) TillAll.nil)
                refine stepZ_append (by rfl) _ _ 30 (by rfl) Z.heap.size 56 i0 _ 11 88 Tryz.underlying30 hi hz0 hz1 hz2 rfl (by decide) v1 (rows.take t).length ((rows.take t).flatMap elRow.enc) (by rfl) (by first | exact HO1.out | exact World.ownsRow.alloc HO1.out _) _ 1 1 [.int .i64 s1, .int .i64 s2, .int .i64 m, .int .i64 (f 0), .int .i64 (f 1), .int .i64 (f 2), .int .i64 (f 3), .int .i64 (f 4), .int .i64 (f 5), .int .i64 (f 6), .int .i64 (f 7)] (by rfl) rfl (World.news_of_block (by first | exact heap_alloc_new _ _ | (rw [HN1.out.block _ (by simp)]; exact heap_alloc_new _ _))) (elRow.one (⟨s1, s2, m, f⟩ : Rw)) HLM.out.1 HLM.out.2 (by first | exact HB1.out.size | exact (nb_alloc HB1.out _).size) ?_
                intro v2 xb hown hgr _
                have hb2 : Below Z.heap.size Z xb := (by first | exact HB1.out.grown hgr HB1.out.size (fun j hj => HO1.out.ge hj) | exact (nb_alloc HB1.out _).grown hgr (nb_alloc HB1.out _).size (fun j hj => HO1.out.ge hj))
                have HB2 := Lib.hid hb2
                have HO2 : Hid (OwnsF elRow xb Z.heap.size 56 v2 ((rows.take t) ++ [(⟨s1, s2, m, f⟩ : Rw)])) := Lib.hid (OwnsF.snoc (x := (⟨s1, s2, m, f⟩ : Rw)) hown)
                clear hown hgr hb2
                refine hK.out _ _ (.inr (HSX5.out _ HB2.out)) ?_
                clear hK K
                try simp only [Act.put, sp_t, sp_0, sp_s]
                refine Till.ready (rs := [19]) (by kernel_rfl) (by simp) (TillAll.cons rfl (fun K hK => ?_) TillAll.nil)
                refine stepZ_append (by rfl) _ _ 30 (by rfl) Z.heap.size 56 i0 _ 11 88 Tryz.underlying30 hi hz0 hz1 hz2 rfl (by decide) v2 ((rows.take t) ++ [(⟨s1, s2, m, f⟩ : Rw)]).length (((rows.take t) ++ [(⟨s1, s2, m, f⟩ : Rw)]).flatMap elRow.enc) (by rfl) HO2.out ⟨g, 0, none⟩ 0 0 [] (by rfl) (by rfl) (fun j u hu => by simp at hu) (by simp) HLM2.out.1 HLM2.out.2 HB2.out.size ?_
                intro v3 xc hown hgr _
                have HO3a : Hid (OwnsF elRow xc Z.heap.size 56 v3 ((rows.take t) ++ (⟨s1, s2, m, f⟩ : Rw) :: rows.drop t)) := Lib.hid (by rw [HDR.out]; have hh := hown; rw [Nat.add_zero, List.append_nil] at hh; exact hh)
                have hb3 : Below Z.heap.size Z xc := HB2.out.grown hgr HB2.out.size (fun j hj => HO2.out.ge hj)
                have HB3 := Lib.hid hb3
                obtain ⟨av, n3, cv, rfl⟩ : ∃ av n3 cv, v3 = .slice av n3 cv := (by obtain ⟨a1, c1, e1, -⟩ := HO3a.out.reads; exact ⟨_, _, _, e1⟩)
                have HO3 := HO3a
                clear hown hgr hb3
                refine hK.out _ _ (.inr (HSX5.out _ HB3.out)) ?_
                clear hK K
                try simp only [Act.put, sp_t, sp_0, sp_s]
                have cq3 := HQX.out xc HB3.out
                have fq3 := HFX.out xc HB3.out
                have hq3 : q < xc.heap.size := Nat.lt_of_lt_of_le hqZ HB3.out.size
                have HS4 : Hid (spHeld hb w.heap.size s1 s2 m f ((xc.setCell ⟨q, 2, none⟩ (.slice av n3 cv)))) := Lib.hid (HSK.out _ _ HB3.out (Kept.setCell (F := fun b => b = q) _ (p := ⟨q, 2, none⟩) rfl _))
                have HZ5 := Lib.hid (HZE.out xc _ HB3.out HO3.out)
                have hS9 : (fun x : World => (spHeld hb w.heap.size s1 s2 m f x ∧ x.cell? ⟨q, 2, none⟩ = some (.slice (some ⟨g, 0, none⟩) n t))) xc := HSX5.out _ HB3.out
                refine Till.take (i := 20) (v := ?_) [21] rfl (by kernel_rfl) (by kernel_rfl) (by kernel_rfl) (by kernel_rfl) (fun _ _ _ h => h) (Or.inl ⟨by rfl, ?_⟩) hS9 ?_
                rotate_left
                · (intro w hSw; (try dsimp only at hSw); (try unfold spHeld at hSw); go_simp; (try with_reducible rfl))
                try simp only [Act.put, sp_t, sp_0, sp_s]
                refine Till.take (i := 21) (v := ?_) [] rfl (by kernel_rfl) (by kernel_rfl) (by kernel_rfl) (by kernel_rfl) (fun _ _ _ h => h) (Or.inl ⟨by rfl, ?_⟩) hS9 ?_
                rotate_left
                · (intro w hSw; (try dsimp only at hSw); (try unfold spHeld at hSw); go_simp; (try with_reducible rfl))
                try simp only [Act.put, sp_t, sp_0, sp_s]
                refine Till.ready (rs := [22]) (by kernel_rfl) (by simp) (TillAll.cons rfl (fun K hK => ?_) TillAll.nil)
                go_simp
                refine hK.out _ _ (.inl rfl) ?_
                clear hK K
                try simp only [Act.put, sp_t, sp_0, sp_s]
                refine Till.done (by kernel_rfl) (NoPanic.normal ?_) _
                (first | generalize xc.setCell ⟨q, 2, none⟩ (.slice av n3 cv) = W5 at * | generalize xb.setCell ⟨q, 2, none⟩ (.slice av n3 cv) = W5 at *)
                obtain ⟨G5, hz5, hk5, hm5, hn5, hr5⟩ := HZ5.out
                have hS4 := HS4.out
                unfold spHeld at hS4
                obtain ⟨kw0, kw1, -⟩ := hS4
                obtain ⟨kr0, kr1⟩ := hCells (a := 0) (b := 0) hr5
                have fr : ∀ j, W5.frozen? ⟨w.heap.size + 1, j, none⟩ = false := fun j => frozen_of_row _ _ _ _ _ hr5
                have hrl := (Array.getElem?_eq_some_iff.1 hr5).1
                have hwl := World.block_lt_of_cell? _ _ kw0
                simp only at hwl
                have HFIN : Hid (ZSpawnPost w q G l rows vB m f (.returned (.tuple #[.agg #[.int .i64 s1, .int .i64 s2], .int .i64 0])) ((W5.setCell ⟨w.heap.size + 1, 0, none⟩ (.int .i64 s1)).setCell ⟨w.heap.size + 1, 1, none⟩ (.int .i64 s2))) := Lib.hid (by
                  have hkk : Kept (fun b => b = w.heap.size + 1) W5 ((W5.setCell ⟨w.heap.size + 1, 0, none⟩ (.int .i64 s1)).setCell ⟨w.heap.size + 1, 1, none⟩ (.int .i64 s2)) := (Kept.setCell (F := fun b => b = w.heap.size + 1) _ (p := ⟨w.heap.size + 1, 0, none⟩) rfl _).trans (Kept.setCell (F := fun b => b = w.heap.size + 1) _ (p := ⟨w.heap.size + 1, 1, none⟩) rfl _) (fun _ h => .inl h)
                  have hE : spawnE l m f = 0 := by rw [spawnE, if_pos HBE.out]; exact HTE.out
                  refine ⟨by rw [spawnH, if_pos HBE.out, HTH.out, hE], G5, ?_, hk5.trans hkk (fun b e => .inr (by omega)), hm5⟩
                  rw [spawnL, if_pos HBE.out, spawnR, if_pos hE, HTH.out]
                  exact hz5.kept hkk (fun b hb' e => hn5 (by rw [← e]; exact hb')))
                clear hz5 hk5 hm5 hr5
                go_wp2
                refine bodyPost_ret (v := .tuple #[.agg #[.int .i64 s1, .int .i64 s2], .int .i64 0]) (by simp [results, Tryz.results40, go_sem, kr0, kr1]) rfl ?_
                exact HFIN.out
            · have HLM2 : Hid ((rows.take t ++ [(⟨s1, s2, m, f⟩ : Rw)]).length + (n - t) ≤ maxLen ∧ ((rows.take t ++ [(⟨s1, s2, m, f⟩ : Rw)]).length + (n - t)) * 88 ≤ 140737488355328) := Lib.hid (by rw [List.length_append, List.length_take, HN.out, Nat.min_eq_left htn]; simp [maxLen]; omega)
              have hS0 : (fun x : World => (spHeld hb w.heap.size s1 s2 m f x ∧ x.cell? ⟨q, 2, none⟩ = some (.slice (some ⟨g, 0, none⟩) n cap))) Z.drew := HSX5.out _ (Below.refl _ _).drew
              refine wp_region_noPanic (wp_region_till (fun x : World => (spHeld hb w.heap.size s1 s2 m f x ∧ x.cell? ⟨q, 2, none⟩ = some (.slice (some ⟨g, 0, none⟩) n cap))) 22 (by kernel_rfl) ?_)
              refine Till.take (i := 0) (v := ?_) [20, 21] rfl (by kernel_rfl) (by kernel_rfl) (by kernel_rfl) (by kernel_rfl) (fun _ _ _ h => h) (Or.inl ⟨by rfl, ?_⟩) hS0 ?_
              rotate_left
              · (intro w hSw; (try dsimp only at hSw); (try unfold spHeld at hSw); go_simp; (try with_reducible rfl))
              try simp only [Act.put, sp_t, sp_0, sp_s]
              refine Till.take (i := 1) (v := ?_) [2, 3, 4, 6, 7, 12, 19] rfl (by kernel_rfl) (by kernel_rfl) (by kernel_rfl) (by kernel_rfl) (fun _ _ _ h => h) (Or.inl ⟨by rfl, ?_⟩) hS0 ?_
              rotate_left
              · (intro w hSw; (try dsimp only at hSw); (try unfold spHeld at hSw); go_simp; (try with_reducible rfl))
              try simp only [Act.put, sp_t, sp_0, sp_s]
              refine Till.take (i := 2) (v := ?_) [3, 4, 6, 7, 12, 19] rfl (by kernel_rfl) (by kernel_rfl) (by kernel_rfl) (by kernel_rfl) (fun _ _ _ h => h) (Or.inl ⟨by rfl, ?_⟩) hS0 ?_
              rotate_left
              · (intro w hSw; (try dsimp only at hSw); (try unfold spHeld at hSw); go_simp; (try with_reducible rfl))
              try simp only [Act.put, sp_t, sp_0, sp_s]
              refine Till.take (i := 3) (v := ?_) [4, 6, 7, 12, 19] rfl (by kernel_rfl) (by kernel_rfl) (by kernel_rfl) (by kernel_rfl) (fun _ _ _ h => h) (Or.inl ⟨by rfl, ?_⟩) hS0 ?_
              rotate_left
              · (intro w hSw; (try dsimp only at hSw); (try unfold spHeld at hSw); go_simp; (try with_reducible rfl))
              try simp only [Act.put, sp_t, sp_0, sp_s]
              refine Till.take (i := 4) (v := ?_) [6, 7, 12, 19] rfl (by kernel_rfl) (by kernel_rfl) (by kernel_rfl) (by kernel_rfl) (fun _ _ _ h => h) (Or.inl ⟨by rfl, ?_⟩) hS0 ?_
              rotate_left
              · (intro w hSw; (try dsimp only at hSw); (try unfold spHeld at hSw); go_simp; (try with_reducible rfl))
              try simp only [Act.put, sp_t, sp_0, sp_s]
              refine Till.take (i := 5) (v := ?_) [6, 7, 12, 19] rfl (by kernel_rfl) (by kernel_rfl) (by kernel_rfl) (by kernel_rfl) (fun _ _ _ h => h) (Or.inl ⟨by rfl, ?_⟩) hS0 ?_
              rotate_left
              · (intro w hSw; (try dsimp only at hSw); (try unfold spHeld at hSw); go_simp; (try with_reducible rfl))
              try simp only [Act.put, sp_t, sp_0, sp_s]
              refine Till.take (i := 6) (v := ?_) [7, 12, 19] rfl (by kernel_rfl) (by kernel_rfl) (by kernel_rfl) (by kernel_rfl) (fun _ _ _ h => h) (Or.inl ⟨by rfl, ?_⟩) hS0 ?_
              rotate_left
              · (intro w hSw; (try dsimp only at hSw); (try unfold spHeld at hSw); go_simp; (try with_reducible rfl))
              try simp only [Act.put, sp_t, sp_0, sp_s]
              refine Till.take (i := 8) (v := ?_) [10, 11, 12, 19] rfl (by kernel_rfl) (by kernel_rfl) (by kernel_rfl) (by kernel_rfl) (fun _ _ _ h => h) (Or.inl ⟨by rfl, ?_⟩) hS0 ?_
              rotate_left
              · (intro w hSw; (try dsimp only at hSw); (try unfold spHeld at hSw); go_simp; (try with_reducible rfl))
              try simp only [Act.put, sp_t, sp_0, sp_s]
              refine Till.take (i := 9) (v := ?_) [10, 11, 12, 19] rfl (by kernel_rfl) (by kernel_rfl) (by kernel_rfl) (by kernel_rfl) (fun _ _ _ h => h) (Or.inl ⟨by rfl, ?_⟩) hS0 ?_
              rotate_left
              · (intro w hSw; (try dsimp only at hSw); (try unfold spHeld at hSw); go_simp; (try with_reducible rfl))
              try simp only [Act.put, sp_t, sp_0, sp_s]
              refine Till.take (i := 10) (v := ?_) [11, 12, 19] rfl (by kernel_rfl) (by kernel_rfl) (by kernel_rfl) (by kernel_rfl) (fun _ _ _ h => h) (Or.inl ⟨by rfl, ?_⟩) hS0 ?_
              rotate_left
              · (intro w hSw; (try dsimp only at hSw); (try unfold spHeld at hSw); go_simp; (try with_reducible rfl))
              try simp only [Act.put, sp_t, sp_0, sp_s]
              refine Till.take (i := 13) (v := ?_) [14, 15, 16, 18, 19] rfl (by kernel_rfl) (by kernel_rfl) (by kernel_rfl) (by kernel_rfl) (fun _ _ _ h => h) (Or.inl ⟨by rfl, ?_⟩) hS0 ?_
              rotate_left
              · (intro w hSw; (try dsimp only at hSw); (try unfold spHeld at hSw); go_simp; (try with_reducible rfl))
              try simp only [Act.put, sp_t, sp_0, sp_s]
              refine Till.take (i := 14) (v := ?_) [15, 16, 18, 19] rfl (by kernel_rfl) (by kernel_rfl) (by kernel_rfl) (by kernel_rfl) (fun _ _ _ h => h) (Or.inl ⟨by rfl, ?_⟩) hS0 ?_
              rotate_left
              · (intro w hSw; (try dsimp only at hSw); (try unfold spHeld at hSw); go_simp; (try with_reducible rfl))
              try simp only [Act.put, sp_t, sp_0, sp_s]
              refine Till.take (i := 15) (v := ?_) [16, 18, 19] rfl (by kernel_rfl) (by kernel_rfl) (by kernel_rfl) (by kernel_rfl) (fun _ _ _ h => h) (Or.inl ⟨by rfl, ?_⟩) hS0 ?_
              rotate_left
              · (intro w hSw; (try dsimp only at hSw); (try unfold spHeld at hSw); go_simp; (try with_reducible rfl))
              try simp only [Act.put, sp_t, sp_0, sp_s]
              refine Till.take (i := 16) (v := ?_) [18, 19] rfl (by kernel_rfl) (by kernel_rfl) (by kernel_rfl) (by kernel_rfl) (fun _ _ _ h => h) (Or.inl ⟨by rfl, ?_⟩) hS0 ?_
              rotate_left
              · (intro w hSw; (try dsimp only at hSw); (try unfold spHeld at hSw); go_simp; (try with_reducible rfl))
              try simp only [Act.put, sp_t, sp_0, sp_s]
              refine Till.take (i := 17) (v := ?_) [18, 19] rfl (by kernel_rfl) (by kernel_rfl) (by kernel_rfl) (by kernel_rfl) (fun _ _ _ h => h) (Or.inl ⟨by rfl, ?_⟩) hS0 ?_
              rotate_left
              · (intro w hSw; (try dsimp only at hSw); (try unfold spHeld at hSw); go_simp; (try with_reducible rfl))
              try simp only [Act.put, sp_t, sp_0, sp_s]
              refine Till.take (i := 18) (v := ?_) [19] rfl (by kernel_rfl) (by kernel_rfl) (by kernel_rfl) (by kernel_rfl) (fun _ _ _ h => h) (Or.inl ⟨by rfl, ?_⟩) hS0 ?_
              rotate_left
              · (intro w hSw; (try dsimp only at hSw); (try unfold spHeld at hSw); go_simp; (try with_reducible rfl))
              try simp only [Act.put, sp_t, sp_0, sp_s]
              refine Till.ready (rs := [7, 11]) (by kernel_rfl) (by simp) (TillAll.cons rfl (fun K hK => ?_) (TillAll.cons rfl (fun K hK => ?_) TillAll.nil))
              focus
                go_simp
                go_at_call 27
                refine (copyRow_any (.slice (some ⟨g, 0, none⟩) t cap) (rows.take t) _ (OwnsF.cutTo (n := n) (HOX.out _ (by first | exact (Below.refl _ _).drew | exact nb_alloc (Below.refl _ _).drew _)) (by rw [HN.out]; exact htn)) (by have := HLM.out.2; omega)).mono ?_
                rintro e w1' ⟨v1, rfl, ho1, hb1⟩
                have HB1 : Hid (Below Z.heap.size Z w1') := Lib.hid (nb_trans (by first | exact (Below.refl _ _).drew | exact nb_alloc (Below.refl _ _).drew _) hb1)
                have HN1 := Lib.hid hb1
                have HO1 : Hid (OwnsF elRow w1' Z.heap.size 56 v1 (rows.take t)) := Lib.hid (ho1.weaken (by first | exact Nat.le_refl _ | simp))
                have hq1 : q < w1'.heap.size := Nat.lt_of_lt_of_le hqZ HB1.out.size
                clear ho1 hb1
                dsimp only
                refine hK.out _ _ (.inr (HSX5.out _ HB1.out)) ?_
                clear hK K
                try simp only [Act.put, sp_t, sp_0, sp_s]
                refine Till.ready (rs := [11]) (by kernel_rfl) (by simp) (TillAll.cons rfl (fun K hK => ?_) TillAll.nil)
                go_simp
                refine hK.out _ _ (.inr (HSX5.out _ (nb_alloc HB1.out _))) ?_
                clear hK K
                try simp only [Act.put, sp_t, sp_0, sp_s]
              rotate_left
              focus
                go_simp
                refine hK.out _ _ (.inr (HSX5.out _ (nb_alloc (Below.refl _ _).drew _))) ?_
                clear hK K
                try simp only [Act.put, sp_t, sp_0, sp_s]
                refine Till.ready (rs := [7]) (by kernel_rfl) (by simp) (TillAll.cons rfl (fun K hK => ?_) TillAll.nil)
                go_simp
                go_at_call 27
                refine (copyRow_any (.slice (some ⟨g, 0, none⟩) t cap) (rows.take t) _ (OwnsF.cutTo (n := n) (HOX.out _ (by first | exact (Below.refl _ _).drew | exact nb_alloc (Below.refl _ _).drew _)) (by rw [HN.out]; exact htn)) (by have := HLM.out.2; omega)).mono ?_
                rintro e w1' ⟨v1, rfl, ho1, hb1⟩
                have HB1 : Hid (Below Z.heap.size Z w1') := Lib.hid (nb_trans (by first | exact (Below.refl _ _).drew | exact nb_alloc (Below.refl _ _).drew _) hb1)
                have HN1 := Lib.hid hb1
                have HO1 : Hid (OwnsF elRow w1' Z.heap.size 56 v1 (rows.take t)) := Lib.hid (ho1.weaken (by first | exact Nat.le_refl _ | simp))
                have hq1 : q < w1'.heap.size := Nat.lt_of_lt_of_le hqZ HB1.out.size
                clear ho1 hb1
                dsimp only
                refine hK.out _ _ (.inr (HSX5.out _ HB1.out)) ?_
                clear hK K
                try simp only [Act.put, sp_t, sp_0, sp_s]
              all_goals
                refine Till.ready (rs := [12]) (by kernel_rfl) (by simp) (TillAll.cons rfl (fun K hK => ?_) TillAll.nil)
                refine stepZ_append (by rfl) _ _ 30 (by rfl) Z.heap.size 56 i0 _ 11 88 Tryz.underlying30 hi hz0 hz1 hz2 rfl (by decide) v1 (rows.take t).length ((rows.take t).flatMap elRow.enc) (by rfl) (by first | exact HO1.out | exact World.ownsRow.alloc HO1.out _) _ 1 1 [.int .i64 s1, .int .i64 s2, .int .i64 m, .int .i64 (f 0), .int .i64 (f 1), .int .i64 (f 2), .int .i64 (f 3), .int .i64 (f 4), .int .i64 (f 5), .int .i64 (f 6), .int .i64 (f 7)] (by rfl) rfl (World.news_of_block (by first | exact heap_alloc_new _ _ | (rw [HN1.out.block _ (by simp)]; exact heap_alloc_new _ _))) (elRow.one (⟨s1, s2, m, f⟩ : Rw)) HLM.out.1 HLM.out.2 (by first | exact HB1.out.size | exact (nb_alloc HB1.out _).size) ?_
                intro v2 xb hown hgr _
                have hb2 : Below Z.heap.size Z xb := (by first | exact HB1.out.grown hgr HB1.out.size (fun j hj => HO1.out.ge hj) | exact (nb_alloc HB1.out _).grown hgr (nb_alloc HB1.out _).size (fun j hj => HO1.out.ge hj))
                have HB2 := Lib.hid hb2
                have HO2 : Hid (OwnsF elRow xb Z.heap.size 56 v2 ((rows.take t) ++ [(⟨s1, s2, m, f⟩ : Rw)])) := Lib.hid (OwnsF.snoc (x := (⟨s1, s2, m, f⟩ : Rw)) hown)
                clear hown hgr hb2
                refine hK.out _ _ (.inr (HSX5.out _ HB2.out)) ?_
                clear hK K
                try simp only [Act.put, sp_t, sp_0, sp_s]
                refine Till.ready (rs := [19]) (by kernel_rfl) (by simp) (TillAll.cons rfl (fun K hK => ?_) TillAll.nil)
                refine stepZ_append (by rfl) _ _ 30 (by rfl) Z.heap.size 56 i0 _ 11 88 Tryz.underlying30 hi hz0 hz1 hz2 rfl (by decide) v2 ((rows.take t) ++ [(⟨s1, s2, m, f⟩ : Rw)]).length (((rows.take t) ++ [(⟨s1, s2, m, f⟩ : Rw)]).flatMap elRow.enc) (by rfl) HO2.out ⟨g, t * 11, none⟩ (n - t) (cap - t) ((rows.drop t).flatMap elRow.enc) (by rfl) (by rw [length_enc, List.length_drop, HN.out]; rfl) (fun j u hu => by rw [addr_add']; rw [flatMapZ_drop, List.getElem?_drop] at hu; exact HCX.out _ HB2.out _ u hu) (oneZ_rows _) HLM2.out.1 HLM2.out.2 HB2.out.size ?_
                intro v3 xc hown hgr _
                have HO3a : Hid (OwnsF elRow xc Z.heap.size 56 v3 ((rows.take t) ++ (⟨s1, s2, m, f⟩ : Rw) :: rows.drop t)) := Lib.hid (by have hh := hown; have e1 : rows.take t ++ (⟨s1, s2, m, f⟩ : Rw) :: rows.drop t = (rows.take t ++ [(⟨s1, s2, m, f⟩ : Rw)]) ++ rows.drop t := (by simp); have e2 : ((rows.take t ++ [(⟨s1, s2, m, f⟩ : Rw)]) ++ rows.drop t).flatMap elRow.enc = (rows.take t ++ [(⟨s1, s2, m, f⟩ : Rw)]).flatMap elRow.enc ++ (rows.drop t).flatMap elRow.enc := List.flatMap_append; have e3 : ((rows.take t ++ [(⟨s1, s2, m, f⟩ : Rw)]) ++ rows.drop t).length = (rows.take t ++ [(⟨s1, s2, m, f⟩ : Rw)]).length + (n - t) := (by rw [List.length_append, List.length_drop, HN.out]); rw [e1]; unfold OwnsF; rw [e2, e3]; exact hh)
                have hb3 : Below Z.heap.size Z xc := HB2.out.grown hgr HB2.out.size (fun j hj => HO2.out.ge hj)
                have HB3 := Lib.hid hb3
                obtain ⟨av, n3, cv, rfl⟩ : ∃ av n3 cv, v3 = .slice av n3 cv := (by obtain ⟨a1, c1, e1, -⟩ := HO3a.out.reads; exact ⟨_, _, _, e1⟩)
                have HO3 := HO3a
                clear hown hgr hb3
                refine hK.out _ _ (.inr (HSX5.out _ HB3.out)) ?_
                clear hK K
                try simp only [Act.put, sp_t, sp_0, sp_s]
                have cq3 := HQX.out xc HB3.out
                have fq3 := HFX.out xc HB3.out
                have hq3 : q < xc.heap.size := Nat.lt_of_lt_of_le hqZ HB3.out.size
                have HS4 : Hid (spHeld hb w.heap.size s1 s2 m f ((xc.setCell ⟨q, 2, none⟩ (.slice av n3 cv)))) := Lib.hid (HSK.out _ _ HB3.out (Kept.setCell (F := fun b => b = q) _ (p := ⟨q, 2, none⟩) rfl _))
                have HZ5 := Lib.hid (HZE.out xc _ HB3.out HO3.out)
                have hS9 : (fun x : World => (spHeld hb w.heap.size s1 s2 m f x ∧ x.cell? ⟨q, 2, none⟩ = some (.slice (some ⟨g, 0, none⟩) n cap))) xc := HSX5.out _ HB3.out
                refine Till.take (i := 20) (v := ?_) [21] rfl (by kernel_rfl) (by kernel_rfl) (by kernel_rfl) (by kernel_rfl) (fun _ _ _ h => h) (Or.inl ⟨by rfl, ?_⟩) hS9 ?_
                rotate_left
                · (intro w hSw; (try dsimp only at hSw); (try unfold spHeld at hSw); go_simp; (try with_reducible rfl))
                try simp only [Act.put, sp_t, sp_0, sp_s]
                refine Till.take (i := 21) (v := ?_) [] rfl (by kernel_rfl) (by kernel_rfl) (by kernel_rfl) (by kernel_rfl) (fun _ _ _ h => h) (Or.inl ⟨by rfl, ?_⟩) hS9 ?_
                rotate_left
                · (intro w hSw; (try dsimp only at hSw); (try unfold spHeld at hSw); go_simp; (try with_reducible rfl))
                try simp only [Act.put, sp_t, sp_0, sp_s]
                refine Till.ready (rs := [22]) (by kernel_rfl) (by simp) (TillAll.cons rfl (fun K hK => ?_) TillAll.nil)
                go_simp
                refine hK.out _ _ (.inl rfl) ?_
                clear hK K
                try simp only [Act.put, sp_t, sp_0, sp_s]
                refine Till.done (by kernel_rfl) (NoPanic.normal ?_) _
                (first | generalize xc.setCell ⟨q, 2, none⟩ (.slice av n3 cv) = W5 at * | generalize xb.setCell ⟨q, 2, none⟩ (.slice av n3 cv) = W5 at *)
                obtain ⟨G5, hz5, hk5, hm5, hn5, hr5⟩ := HZ5.out
                have hS4 := HS4.out
                unfold spHeld at hS4
                obtain ⟨kw0, kw1, -⟩ := hS4
                obtain ⟨kr0, kr1⟩ := hCells (a := 0) (b := 0) hr5
                have fr : ∀ j, W5.frozen? ⟨w.heap.size + 1, j, none⟩ = false := fun j => frozen_of_row _ _ _ _ _ hr5
                have hrl := (Array.getElem?_eq_some_iff.1 hr5).1
                have hwl := World.block_lt_of_cell? _ _ kw0
                simp only at hwl
                have HFIN : Hid (ZSpawnPost w q G l rows vB m f (.returned (.tuple #[.agg #[.int .i64 s1, .int .i64 s2], .int .i64 0])) ((W5.setCell ⟨w.heap.size + 1, 0, none⟩ (.int .i64 s1)).setCell ⟨w.heap.size + 1, 1, none⟩ (.int .i64 s2))) := Lib.hid (by
                  have hkk : Kept (fun b => b = w.heap.size + 1) W5 ((W5.setCell ⟨w.heap.size + 1, 0, none⟩ (.int .i64 s1)).setCell ⟨w.heap.size + 1, 1, none⟩ (.int .i64 s2)) := (Kept.setCell (F := fun b => b = w.heap.size + 1) _ (p := ⟨w.heap.size + 1, 0, none⟩) rfl _).trans (Kept.setCell (F := fun b => b = w.heap.size + 1) _ (p := ⟨w.heap.size + 1, 1, none⟩) rfl _) (fun _ h => .inl h)
                  have hE : spawnE l m f = 0 := by rw [spawnE, if_pos HBE.out]; exact HTE.out
                  refine ⟨by rw [spawnH, if_pos HBE.out, HTH.out, hE], G5, ?_, hk5.trans hkk (fun b e => .inr (by omega)), hm5⟩
                  rw [spawnL, if_pos HBE.out, spawnR, if_pos hE, HTH.out]
                  exact hz5.kept hkk (fun b hb' e => hn5 (by rw [← e]; exact hb')))
                clear hz5 hk5 hm5 hr5
                go_wp2
                refine bodyPost_ret (v := .tuple #[.agg #[.int .i64 s1, .int .i64 s2], .int .i64 0]) (by simp [results, Tryz.results40, go_sem, kr0, kr1]) rfl ?_
                exact HFIN.out
    · have hne : (te != 0) = true := by simpa using h0
      have HFIN : Hid (∀ W', Kept (fun b => b = w.heap.size + 1) w2 W' → ZSpawnPost w q G l rows vB m f (.returned (.tuple #[.agg #[.int .i64 s1, .int .i64 s2], .int .i64 te])) W') := Lib.hid (fun W' hk => by
        have hE : spawnE l m f = te := by rw [spawnE, if_pos HBE.out]; exact HTE.out
        refine ⟨by rw [spawnH, if_pos HBE.out, HTH.out, hE], F2, ?_, HBW2.out.trans hk (fun b e => .inr (by omega)), HMW2.out⟩
        rw [spawnL, if_pos HBE.out, spawnR, if_neg (by rw [hE]; exact h0)]
        exact HZ2.out.kept hk (fun b hb' e => HN2.out.2 (by rw [← e]; exact hb')))
      clear h0
      go_wp2
      refine bodyPost_ret (v := .tuple #[.agg #[.int .i64 s1, .int .i64 s2], .int .i64 te]) (by simp [results, Tryz.results40, go_sem, kr0, kr1, h21l]) rfl ?_
      refine HFIN.out _ ?_
      exact ((Kept.setCell (F := fun b => b = w.heap.size + 1) _ (p := ⟨w.heap.size + 1, 0, none⟩) rfl _).trans (Kept.setCell (F := fun b => b = w.heap.size + 1) _ (p := ⟨w.heap.size + 1, 1, none⟩) rfl _) (fun _ h => .inl h)).trans (Kept.alloc _ _ _) (fun _ h => .inl h)
  · obtain ⟨be, hbq⟩ : ∃ be, bErr m [f 0, f 1, f 2, f 3, f 4, f 5, f 6, f 7] = be := ⟨_, rfl⟩
    rw [hbq] at hbe ⊢
    have hne : (be != 0) = true := by simpa using hbe
    obtain ⟨kr0, kr1⟩ := hCells (a := 0) (b := 0) hx1
    have fr : ∀ j, w1.frozen? ⟨w.heap.size + 1, j, none⟩ = false := fun j => frozen_of_row _ _ _ _ _ hx1
    have HFIN : Hid (∀ W', Kept (fun b => b = w.heap.size + 1) w1 W' → ZSpawnPost w q G l rows vB m f (.returned (.tuple #[.agg #[.int .i64 0, .int .i64 0], .int .i64 be])) W') := Lib.hid (fun W' hk => by
      have hE : spawnE l m f = be := by rw [spawnE, if_neg (by rw [hbq]; exact hbe)]; exact hbq
      refine ⟨by rw [spawnH, if_neg (by rw [hbq]; exact hbe), hE], G, ?_, (Kept.ofBelow HBW1.out).trans hk (fun b e => .inr (by omega)), Moves.refl _ _⟩
      rw [spawnL, if_neg (by rw [hbq]; exact hbe), spawnR, if_neg (by rw [hE]; exact hbe)]
      exact (H0.out.later HBW1.out).kept hk (fun b hb' e => by have := HLT.out b hb'; omega))
    clear hbe hbq hx0 hx1
    go_wp2
    refine bodyPost_ret (v := .tuple #[.agg #[.int .i64 0, .int .i64 0], .int .i64 be]) (by simp [results, Tryz.results40, go_sem, kr0, kr1]) rfl ?_
    refine HFIN.out _ ?_
    exact (Kept.setCell (F := fun b => b = w.heap.size + 1) _ (p := ⟨w.heap.size + 1, 0, none⟩) rfl _).trans (Kept.setCell (F := fun b => b = w.heap.size + 1) _ (p := ⟨w.heap.size + 1, 1, none⟩) rfl _) (fun _ h => .inl h)
end Go.Proofs.YtlaahlphfkadjaaGreat

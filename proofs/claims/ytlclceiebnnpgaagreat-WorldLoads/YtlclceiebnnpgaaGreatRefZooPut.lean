/- The contracts of Put and Drop of the reference's zoo. -/
import Derived.Test.YtlclceiebnnpgaaGreatRefZoo
import Derived.Test.YtlclceiebnnpgaaGreatWorldDrop
import Derived.Deep.RegionLaw
namespace Go.Proofs.YtlclceiebnnpgaaGreat
set_option maxRecDepth 8000
open Go.RowKit

def ZPutPost (w : World) (q : Nat) (G : Nat → Prop) (l : List (Int × Bool)) (rows : List Rw) (vB : Value) (a b k n : Int) (e : Ending) (w' : World) : Prop :=
  e = .returned (.int .i64 (putWE rows a b k n)) ∧ ∃ G', ZooAt w' q G' l (putWR rows a b k n) vB ∧ Kept G w w' ∧ Moves w G G'
theorem ZPutPost.no {w w' : World} {q : Nat} {G : Nat → Prop} {l : List (Int × Bool)} {rows : List Rw} {vB : Value} {a b k n : Int} {x : Int} (h : ZooAt w q G l rows vB) (hx : putWE rows a b k n = x) (h0 : x ≠ 0) (hb : Below w.heap.size w w') : ZPutPost w q G l rows vB a b k n (.returned (.int .i64 x)) w' :=
  ⟨by rw [hx], G, by rw [putWR, hx, if_neg h0]; exact h.later hb, Kept.ofBelow hb, Moves.refl _ _⟩

set_option maxHeartbeats 4000000 in
theorem refPut_any (q : Nat) (G : Nat → Prop) (l : List (Int × Bool)) (rows : List Rw) (vB : Value) (a b k n : Int) (w : World) (h : ZooAt w q G l rows vB) (ok : WOk l rows) :
    Calls Tryz.prog 23 #[.pointer (some ⟨q, 0, none⟩), .agg #[.int .i64 a, .int .i64 b], .int .i64 k, .int .i64 n] w (ZPutPost w q G l rows vB a b k n) := by
  have hX : Below w.heap.size w (w.alloc (.cells #[.int .i64 a, .int .i64 b] 28)) := nb_alloc (Below.refl _ _) _
  have HX := Lib.hid hX
  have H0 := Lib.hid h
  have HZ := Lib.hid (h.later hX)
  have HOK := Lib.hid ok
  clear h hX ok
  go_enter Tryz.func23, Tryz.ntmps23
  go_wp2_with fail
  generalize (w.alloc (.cells #[.int .i64 a, .int .i64 b] 28)) = X at *
  refine (refAtI_any q G l rows vB a b _ HZ.out).mono ?_
  rintro e w1 ⟨rfl, hb1⟩
  have HBW := Lib.hid (nb_trans HX.out hb1)
  have HZ1 := Lib.hid (HZ.out.later hb1)
  clear hb1
  cases hh : hasH rows a b
  · have HE : Hid (putWE rows a b k n = 7) := Lib.hid (by rw [putWE, hh]; rfl)
    rw [atI_no hh]
    clear hh
    go_wp2
    go_ret
    exact ZPutPost.no H0.out HE.out (by decide) HBW.out
  · rw [atI_yes hh]
    have ht : atN rows a b < rows.length := of_decide_eq_true hh
    have HAT : Hid (atN rows a b = atN rows a b) := Lib.hid rfl
    have HHH := Lib.hid hh
    obtain ⟨t, htt⟩ : ∃ t, atN rows a b = t := ⟨_, rfl⟩
    rw [htt] at ht ⊢
    have HTT := Lib.hid htt
    have h60 := HOK.out.len60
    have ht0 : (0 : Int) ≤ (t : Int) := by omega
    have htn : ¬ (t : Int) < 0 := by omega
    clear hh htt HAT
    cases hk : inB k 0 7
    · have HE : Hid (putWE rows a b k n = 1) := Lib.hid (by rw [putWE, HHH.out, hk]; rfl)
      have HK := Lib.hid hk
      clear hk
      go_wp2_with fail
      refine (outside_any _ _ _ _).mono ?_
      rintro e w' ⟨rfl, rfl⟩
      rw [HK.out]
      go_wp2
      go_ret
      exact ZPutPost.no H0.out HE.out (by decide) HBW.out
    obtain ⟨j, hj, rfl⟩ : ∃ j : Nat, j < 8 ∧ k = (j : Int) := by have := inB_t hk; exact ⟨k.toNat, by omega, by omega⟩
    have HK := Lib.hid hk
    clear hk
    obtain ⟨r, hr⟩ : ∃ r, rows.getD t rowZ = r := ⟨_, rfl⟩
    have HR := Lib.hid hr
    have hrm := (bErr_zero (HOK.out.rowIs ht hr).ok).1
    obtain ⟨s, hs⟩ : ∃ s : Int, 2 ^ j = s := ⟨_, rfl⟩
    have hs01 := pow_le7 j hj
    rw [hs] at hs01
    have HS := Lib.hid hs
    obtain ⟨hrm0, hrm1⟩ := hrm
    obtain ⟨hs1, hs0⟩ := hs01
    have hj0 : (0 : Int) ≤ (j : Int) := by omega
    have hj8 : (j : Int) < 8 := by omega
    clear hr hs
    cases hn : inB n (-1000000000) 1000000000
    · have HE : Hid (putWE rows a b j n = 1) := Lib.hid (by rw [putWE, HHH.out, HK.out, hn]; rfl)
      have HN := Lib.hid hn
      clear hn
      go_wp2_with fail
      refine (outside_any _ _ _ _).mono ?_
      rintro e w' ⟨rfl, rfl⟩
      rw [HK.out]
      go_wp2_with fail
      refine (outside_any _ _ _ _).mono ?_
      rintro e w' ⟨rfl, rfl⟩
      rw [HN.out]
      go_wp2
      go_ret
      exact ZPutPost.no H0.out HE.out (by decide) HBW.out
    have HE0 : Hid (putWE rows a b j n = 0) := Lib.hid (by rw [putWE, HHH.out, HK.out, hn]; rfl)
    have HN := Lib.hid hn
    clear hn
    go_wp2_with fail
    refine (outside_any _ _ _ _).mono ?_
    rintro e w' ⟨rfl, rfl⟩
    rw [HK.out]
    go_wp2_with fail
    refine (outside_any _ _ _ _).mono ?_
    rintro e w' ⟨rfl, rfl⟩
    rw [HN.out]
    have hz1 := HZ1.out
    obtain ⟨c, vL, hz⟩ := hz1
    have HZI := Lib.hid hz
    have hq2 := hz.slots.cell2.1
    have hqf := hz.slots.cell2.2.2 2
    have hql := hz.lt q hz.at_.1
    clear hz
    go_wp2_with fail
    refine (copyRow_any vL rows _ (show OwnsF elRow w1 0 45 vL rows from HZI.out.own) (by omega)).mono ?_
    rintro e w2 ⟨v2, rfl, ho2, hb2⟩
    have hz2 := HZI.out.later hb2
    have HZ2 := Lib.hid hz2
    have cq2 := hz2.slots.cell2.1
    have fq2 := hz2.slots.cell2.2.2 2
    have hql2 := hz2.lt q hz2.at_.1
    have HB2 := Lib.hid hb2
    obtain ⟨g, cap, rfl, hgB, hgl, hlc, hcm, hfz, hcc⟩ := ho2.at11 (by omega)
    have HO2 := Lib.hid ho2
    have hgq : ¬ g = q := by omega
    have hqg : ¬ q = g := by omega
    have hcr := hcc t ht
    rw [HR.out] at hcr
    have cr : w2.cell? ⟨g, t * 11 + 2, none⟩ = some (.int .i64 r.m) := hcr 2 (by decide)
    have HCV : Hid (w2.cell? ⟨g, t * 11 + 2 + 1 + j, none⟩ = some (.int .i64 (r.f j))) := Lib.hid (by
      have := hcr (3 + j) (by omega)
      rw [show t * 11 + 2 + 1 + j = t * 11 + (3 + j) by omega, this]
      obtain rfl | rfl | rfl | rfl | rfl | rfl | rfl | rfl : j = 0 ∨ j = 1 ∨ j = 2 ∨ j = 3 ∨ j = 4 ∨ j = 5 ∨ j = 6 ∨ j = 7 := by omega
      all_goals rfl)
    have HFZ := Lib.hid hfz
    unfold maxLen at hcm
    have ht1 : (t : Int) < (rows.length : Int) := by omega
    -- the row set in its place
    have HSETM : Hid (∀ (W : World) (m' : Int), OwnsF elRow W w1.heap.size 45 (.slice (some ⟨g, 0, none⟩) rows.length cap) rows → OwnsF elRow ((W.setCell ⟨g, t * 11 + 2, none⟩ (.int .i64 m')).setCell ⟨g, t * 11 + 2 + 1 + j, none⟩ (.int .i64 (n))) w1.heap.size 45 (.slice (some ⟨g, 0, none⟩) rows.length cap) (rows.set t ⟨r.s, r.g, m', upd r.f j (n)⟩)) := Lib.hid (fun W m' hW => by
      have h1 := hW.stored t 2 ⟨r.s, r.g, m', r.f⟩ (.int .i64 m') ht (by decide) (by rw [show elRow.zero = rowZ from rfl, HR.out]; rfl)
      have h2 := h1.stored t (3 + j) ⟨r.s, r.g, m', upd r.f j (n)⟩ (.int .i64 (n)) (by simpa using ht) (show 3 + j < 11 by omega) (by
        rw [show elRow.zero = rowZ from rfl, getD_set_eq _ _ _ _ ht]
        obtain rfl | rfl | rfl | rfl | rfl | rfl | rfl | rfl : j = 0 ∨ j = 1 ∨ j = 2 ∨ j = 3 ∨ j = 4 ∨ j = 5 ∨ j = 6 ∨ j = 7 := by omega
        all_goals rfl)
      rw [List.set_set] at h2
      rw [show t * 11 + 2 + 1 + j = t * elRow.size + (3 + j) by rw [show elRow.size = 11 from rfl]; omega]; exact h2)
    have HSETV : Hid (∀ (W : World), OwnsF elRow W w1.heap.size 45 (.slice (some ⟨g, 0, none⟩) rows.length cap) rows → OwnsF elRow (W.setCell ⟨g, t * 11 + 2 + 1 + j, none⟩ (.int .i64 (n))) w1.heap.size 45 (.slice (some ⟨g, 0, none⟩) rows.length cap) (rows.set t ⟨r.s, r.g, r.m, upd r.f j (n)⟩)) := Lib.hid (fun W hW => by
      have h2 := hW.stored t (3 + j) ⟨r.s, r.g, r.m, upd r.f j (n)⟩ (.int .i64 (n)) ht (show 3 + j < 11 by omega) (by
        rw [show elRow.zero = rowZ from rfl, HR.out]
        obtain rfl | rfl | rfl | rfl | rfl | rfl | rfl | rfl : j = 0 ∨ j = 1 ∨ j = 2 ∨ j = 3 ∨ j = 4 ∨ j = 5 ∨ j = 6 ∨ j = 7 := by omega
        all_goals rfl)
      rw [show t * 11 + 2 + 1 + j = t * elRow.size + (3 + j) by rw [show elRow.size = 11 from rfl]; omega]; exact h2)
    have hks : Kept (fun b => b = q) w2 (w2.setCell ⟨q, 2, none⟩ (.slice (some ⟨g, 0, none⟩) rows.length cap)) := Kept.setCell (F := fun b => b = q) _ (p := ⟨q, 2, none⟩) rfl _
    have HKS := Lib.hid hks
    have HO3 : Hid (OwnsF elRow (w2.setCell ⟨q, 2, none⟩ (.slice (some ⟨g, 0, none⟩) rows.length cap)) w1.heap.size 45 (.slice (some ⟨g, 0, none⟩) rows.length cap) rows) := Lib.hid (ho2.kept hks (fun b e => by simp [Value.ownBlock] at e; omega))
    have HEND : Hid (∀ W rows', Kept (fun b => b = g) (w2.setCell ⟨q, 2, none⟩ (.slice (some ⟨g, 0, none⟩) rows.length cap)) W → OwnsF elRow W w1.heap.size 45 (.slice (some ⟨g, 0, none⟩) rows.length cap) rows' → putWR rows a b j n = rows' → ZPutPost w q G l rows vB a b j n (.returned (.int .i64 0)) W) := Lib.hid (fun W rows' hkW hoW he => by
      have hk1 : Kept (fun b => b = q) w1 W := ((Kept.ofBelow hb2).trans hks (fun _ h => .inl h)).trans hkW (fun b e => .inr (by omega))
      obtain ⟨G', hR, hK, hM⟩ := HZI.out.setL hk1 (fun vg vl hq => by
        rw [hkW.block q (by simp [World.setCell]; exact hql2) hqg, heap_setCell_same _ _ _ _ _ _ ((hb2.block q hql).trans hq)]; rfl) hoW
      exact ⟨by rw [HE0.out], G', by rw [he]; exact hR, (Kept.ofBelow HBW.out).trans hK (fun _ h => .inl h), fun b hb => (hM b hb).imp id (fun h => Nat.le_trans HBW.out.size h)⟩)
    have HQ3 : Hid ((w2.setCell ⟨q, 2, none⟩ (.slice (some ⟨g, 0, none⟩) rows.length cap)).cell? ⟨q, 2, none⟩ = some (.slice (some ⟨g, 0, none⟩) rows.length cap)) := Lib.hid (by
      obtain ⟨vg, vl, hqh, -⟩ := hz2.slots
      rw [cell_of_row _ _ _ _ _ _ (heap_setCell_same _ _ _ _ _ _ hqh)]; rfl)
    clear hz2 ho2 hb2 hcc hcr hks hq2 hqf hfz
    go_wp2_with fail
    refine (refHasKind_any _ _ _ (by omega) (by omega)).mono ?_
    rintro e w' ⟨rfl, rfl⟩
    rw [Int.toNat_natCast]
    have hq3 : (w2.setCell ⟨q, 2, none⟩ (.slice (some ⟨g, 0, none⟩) rows.length cap)).cell? ⟨q, 2, none⟩ = some (.slice (some ⟨g, 0, none⟩) rows.length cap) := HQ3.out
    have cr3 : (w2.setCell ⟨q, 2, none⟩ (.slice (some ⟨g, 0, none⟩) rows.length cap)).cell? ⟨g, t * 11 + 2, none⟩ = some (.int .i64 r.m) := HKS.out.cellS cr hgq
    have cv3 : (w2.setCell ⟨q, 2, none⟩ (.slice (some ⟨g, 0, none⟩) rows.length cap)).cell? ⟨g, t * 11 + 2 + 1 + j, none⟩ = some (.int .i64 (r.f j)) := HKS.out.cellS HCV.out hgq
    have fz3 : ∀ i, (w2.setCell ⟨q, 2, none⟩ (.slice (some ⟨g, 0, none⟩) rows.length cap)).frozen? ⟨g, i, none⟩ = false := fun i => by rw [World.frozen?_of_block (w := w2) (HKS.out.block g hgl hgq)]; exact HFZ.out i
    have hl3 : g < (w2.setCell ⟨q, 2, none⟩ (.slice (some ⟨g, 0, none⟩) rows.length cap)).heap.size := Nat.lt_of_lt_of_le hgl HKS.out.size
    have hlq3 : q < (w2.setCell ⟨q, 2, none⟩ (.slice (some ⟨g, 0, none⟩) rows.length cap)).heap.size := Nat.lt_of_lt_of_le hql2 HKS.out.size
    generalize w2.setCell ⟨q, 2, none⟩ (.slice (some ⟨g, 0, none⟩) rows.length cap) = W at *
    clear cr cq2 fq2 hgl hql2
    cases htb : tb r.m j
    · have HPE : Hid (putWR rows a b j n = rows.set t ⟨r.s, r.g, r.m + s, upd r.f j n⟩) := Lib.hid (by rw [putWR, if_pos HE0.out, HTT.out, HR.out, Int.toNat_natCast, putK, htb, HS.out]; rfl)
      have hfz2 := fz3 (t * 11 + 2)
      have hfzv := fz3 (t * 11 + 2 + 1 + j)
      have HF1 : Hid (ZPutPost w q G l rows vB a b j n (.returned (.int .i64 0)) ((W.drew.setCell ⟨g, t * 11 + 2, none⟩ (.int .i64 (r.m + s))).setCell ⟨g, t * 11 + 2 + 1 + j, none⟩ (.int .i64 (n)))) := Lib.hid (HEND.out _ _ ((((Kept.ofBelow (F := fun b => b = g) (Below.refl _ _).drew).trans (Kept.setCell (F := fun b => b = g) _ (p := ⟨g, t * 11 + 2, none⟩) rfl _) (fun _ h => .inl h))).trans (Kept.setCell (F := fun b => b = g) _ (p := ⟨g, t * 11 + 2 + 1 + j, none⟩) rfl _) (fun _ h => .inl h)) (HSETM.out _ _ (HO3.out.later (Below.refl _ _).drew)) HPE.out)
      have hno : ¬ t * 11 + 2 + 1 + j = t * 11 + 2 := by omega
      have hno2 : ¬ t * 11 + 2 = t * 11 + 2 + 1 + j := by omega
      clear htb
      go_wp2_with fail
      go_region_law (first | (go_simp; go_at_call 56; refine (power_any _ _ (by omega) (by omega)).mono ?_; rintro e w' ⟨rfl, rfl⟩; rw [Int.toNat_natCast, HS.out]))
      all_goals
        go_wp2
        go_ret
        exact HF1.out
    · have HPE : Hid (putWR rows a b j n = rows.set t ⟨r.s, r.g, r.m, upd r.f j n⟩) := Lib.hid (by rw [putWR, if_pos HE0.out, HTT.out, HR.out, Int.toNat_natCast, putK, htb]; rfl)
      have HF1 : Hid (ZPutPost w q G l rows vB a b j n (.returned (.int .i64 0)) (W.setCell ⟨g, t * 11 + 2 + 1 + j, none⟩ (.int .i64 n))) := Lib.hid (HEND.out _ _ (Kept.setCell (F := fun b => b = g) _ (p := ⟨g, t * 11 + 2 + 1 + j, none⟩) rfl _) (HSETV.out _ HO3.out) HPE.out)
      clear htb
      go_wp2
      go_ret
      exact HF1.out

def ZDropPost (w : World) (q : Nat) (G : Nat → Prop) (l : List (Int × Bool)) (rows : List Rw) (vB : Value) (a b k : Int) (e : Ending) (w' : World) : Prop :=
  e = .returned (.int .i64 (dropE rows a b k)) ∧ ∃ G', ZooAt w' q G' l (dropR rows a b k) vB ∧ Kept G w w' ∧ Moves w G G'
theorem ZDropPost.no {w w' : World} {q : Nat} {G : Nat → Prop} {l : List (Int × Bool)} {rows : List Rw} {vB : Value} {a b k : Int} {x : Int} (h : ZooAt w q G l rows vB) (hx : dropE rows a b k = x) (h0 : x ≠ 0) (hb : Below w.heap.size w w') : ZDropPost w q G l rows vB a b k (.returned (.int .i64 x)) w' :=
  ⟨by rw [hx], G, by rw [dropR, hx, if_neg h0]; exact h.later hb, Kept.ofBelow hb, Moves.refl _ _⟩

set_option maxHeartbeats 4000000 in
theorem refDrop_any (q : Nat) (G : Nat → Prop) (l : List (Int × Bool)) (rows : List Rw) (vB : Value) (a b k : Int) (w : World) (h : ZooAt w q G l rows vB) (ok : WOk l rows) :
    Calls Tryz.prog 25 #[.pointer (some ⟨q, 0, none⟩), .agg #[.int .i64 a, .int .i64 b], .int .i64 k] w (ZDropPost w q G l rows vB a b k) := by
  have hX : Below w.heap.size w (w.alloc (.cells #[.int .i64 a, .int .i64 b] 28)) := nb_alloc (Below.refl _ _) _
  have HX := Lib.hid hX
  have H0 := Lib.hid h
  have HZ := Lib.hid (h.later hX)
  have HOK := Lib.hid ok
  clear h hX ok
  go_enter Tryz.func25, Tryz.ntmps25
  go_wp2_with fail
  generalize (w.alloc (.cells #[.int .i64 a, .int .i64 b] 28)) = X at *
  refine (refAtI_any q G l rows vB a b _ HZ.out).mono ?_
  rintro e w1 ⟨rfl, hb1⟩
  have HBW := Lib.hid (nb_trans HX.out hb1)
  have HZ1 := Lib.hid (HZ.out.later hb1)
  clear hb1
  cases hh : hasH rows a b
  · have HE : Hid (dropE rows a b k = 7) := Lib.hid (by rw [dropE, hh]; rfl)
    rw [atI_no hh]
    clear hh
    go_wp2
    go_ret
    exact ZDropPost.no H0.out HE.out (by decide) HBW.out
  · rw [atI_yes hh]
    have ht : atN rows a b < rows.length := of_decide_eq_true hh
    have HAT : Hid (atN rows a b = atN rows a b) := Lib.hid rfl
    have HHH := Lib.hid hh
    obtain ⟨t, htt⟩ : ∃ t, atN rows a b = t := ⟨_, rfl⟩
    rw [htt] at ht ⊢
    have HTT := Lib.hid htt
    have h60 := HOK.out.len60
    have ht0 : (0 : Int) ≤ (t : Int) := by omega
    have htn : ¬ (t : Int) < 0 := by omega
    clear hh htt HAT
    cases hk : inB k 0 7
    · have HE : Hid (dropE rows a b k = 1) := Lib.hid (by rw [dropE, HHH.out, hk]; rfl)
      have HK := Lib.hid hk
      clear hk
      go_wp2_with fail
      refine (outside_any _ _ _ _).mono ?_
      rintro e w' ⟨rfl, rfl⟩
      rw [HK.out]
      go_wp2
      go_ret
      exact ZDropPost.no H0.out HE.out (by decide) HBW.out
    obtain ⟨j, hj, rfl⟩ : ∃ j : Nat, j < 8 ∧ k = (j : Int) := by have := inB_t hk; exact ⟨k.toNat, by omega, by omega⟩
    have HK := Lib.hid hk
    clear hk
    obtain ⟨r, hr⟩ : ∃ r, rows.getD t rowZ = r := ⟨_, rfl⟩
    have HR := Lib.hid hr
    have hrm := (bErr_zero (HOK.out.rowIs ht hr).ok).1
    obtain ⟨s, hs⟩ : ∃ s : Int, 2 ^ j = s := ⟨_, rfl⟩
    have hs01 := pow_le7 j hj
    rw [hs] at hs01
    have HS := Lib.hid hs
    obtain ⟨hrm0, hrm1⟩ := hrm
    obtain ⟨hs1, hs0⟩ := hs01
    have hj0 : (0 : Int) ≤ (j : Int) := by omega
    have hj8 : (j : Int) < 8 := by omega
    clear hr hs
    go_wp2_with fail
    refine (outside_any _ _ _ _).mono ?_
    rintro e w' ⟨rfl, rfl⟩
    rw [HK.out]
    have hz0 := HZ1.out
    obtain ⟨c0, vL0, hz0⟩ := hz0
    have hq20 := hz0.slots.cell2.1
    have hql0 := hz0.lt q hz0.at_.1
    obtain ⟨g0, cap0, rfl, -, hgl0, hlc0, hcm0, -, hcc0⟩ := OwnsF.at11 (B := 0) hz0.own (by omega)
    have cr0 : w1.cell? ⟨g0, t * 11 + 2, none⟩ = some (.int .i64 r.m) := by rw [hcc0 t ht 2 (by decide), HR.out]; rfl
    have ht1 : (t : Int) < (rows.length : Int) := by omega
    unfold maxLen at hcm0
    clear hz0 hcc0
    go_wp2_with fail
    refine (refHasKind_any _ _ _ (by omega) (by omega)).mono ?_
    rintro e w' ⟨rfl, rfl⟩
    rw [Int.toNat_natCast]
    clear cr0 hq20 hlc0 hcm0 ht1 hql0 hgl0
    cases htb : tb r.m j
    · have HE : Hid (dropE rows a b j = 5) := Lib.hid (by rw [dropE, HHH.out, HK.out, HTT.out, HR.out, Int.toNat_natCast, htb]; rfl)
      clear htb
      go_wp2
      go_ret
      exact ZDropPost.no H0.out HE.out (by decide) HBW.out
    have HE0 : Hid (dropE rows a b j = 0) := Lib.hid (by rw [dropE, HHH.out, HK.out, HTT.out, HR.out, Int.toNat_natCast, htb]; rfl)
    have HTB := Lib.hid htb
    have hsr : s ≤ r.m := by
      have := (bit_out r.m j hrm0 hrm1 hj htb).1.1
      rw [HS.out] at this; omega
    clear htb
    have hz1 := HZ1.out
    obtain ⟨c, vL, hz⟩ := hz1
    have HZI := Lib.hid hz
    have hq2 := hz.slots.cell2.1
    have hqf := hz.slots.cell2.2.2 2
    have hql := hz.lt q hz.at_.1
    clear hz
    go_wp2_with fail
    refine (copyRow_any vL rows _ (show OwnsF elRow w1 0 45 vL rows from HZI.out.own) (by omega)).mono ?_
    rintro e w2 ⟨v2, rfl, ho2, hb2⟩
    have hz2 := HZI.out.later hb2
    have HZ2 := Lib.hid hz2
    have cq2 := hz2.slots.cell2.1
    have fq2 := hz2.slots.cell2.2.2 2
    have hql2 := hz2.lt q hz2.at_.1
    have HB2 := Lib.hid hb2
    obtain ⟨g, cap, rfl, hgB, hgl, hlc, hcm, hfz, hcc⟩ := ho2.at11 (by omega)
    have HO2 := Lib.hid ho2
    have hgq : ¬ g = q := by omega
    have hqg : ¬ q = g := by omega
    have hcr := hcc t ht
    rw [HR.out] at hcr
    have cr : w2.cell? ⟨g, t * 11 + 2, none⟩ = some (.int .i64 r.m) := hcr 2 (by decide)
    have HCV : Hid (w2.cell? ⟨g, t * 11 + 2 + 1 + j, none⟩ = some (.int .i64 (r.f j))) := Lib.hid (by
      have := hcr (3 + j) (by omega)
      rw [show t * 11 + 2 + 1 + j = t * 11 + (3 + j) by omega, this]
      obtain rfl | rfl | rfl | rfl | rfl | rfl | rfl | rfl : j = 0 ∨ j = 1 ∨ j = 2 ∨ j = 3 ∨ j = 4 ∨ j = 5 ∨ j = 6 ∨ j = 7 := by omega
      all_goals rfl)
    have HFZ := Lib.hid hfz
    unfold maxLen at hcm
    have ht1 : (t : Int) < (rows.length : Int) := by omega
    -- the row set in its place
    have HSETM : Hid (∀ (W : World) (m' : Int), OwnsF elRow W w1.heap.size 45 (.slice (some ⟨g, 0, none⟩) rows.length cap) rows → OwnsF elRow ((W.setCell ⟨g, t * 11 + 2, none⟩ (.int .i64 m')).setCell ⟨g, t * 11 + 2 + 1 + j, none⟩ (.int .i64 (0))) w1.heap.size 45 (.slice (some ⟨g, 0, none⟩) rows.length cap) (rows.set t ⟨r.s, r.g, m', upd r.f j (0)⟩)) := Lib.hid (fun W m' hW => by
      have h1 := hW.stored t 2 ⟨r.s, r.g, m', r.f⟩ (.int .i64 m') ht (by decide) (by rw [show elRow.zero = rowZ from rfl, HR.out]; rfl)
      have h2 := h1.stored t (3 + j) ⟨r.s, r.g, m', upd r.f j (0)⟩ (.int .i64 (0)) (by simpa using ht) (show 3 + j < 11 by omega) (by
        rw [show elRow.zero = rowZ from rfl, getD_set_eq _ _ _ _ ht]
        obtain rfl | rfl | rfl | rfl | rfl | rfl | rfl | rfl : j = 0 ∨ j = 1 ∨ j = 2 ∨ j = 3 ∨ j = 4 ∨ j = 5 ∨ j = 6 ∨ j = 7 := by omega
        all_goals rfl)
      rw [List.set_set] at h2
      rw [show t * 11 + 2 + 1 + j = t * elRow.size + (3 + j) by rw [show elRow.size = 11 from rfl]; omega]; exact h2)
    have HSETV : Hid (∀ (W : World), OwnsF elRow W w1.heap.size 45 (.slice (some ⟨g, 0, none⟩) rows.length cap) rows → OwnsF elRow (W.setCell ⟨g, t * 11 + 2 + 1 + j, none⟩ (.int .i64 (0))) w1.heap.size 45 (.slice (some ⟨g, 0, none⟩) rows.length cap) (rows.set t ⟨r.s, r.g, r.m, upd r.f j (0)⟩)) := Lib.hid (fun W hW => by
      have h2 := hW.stored t (3 + j) ⟨r.s, r.g, r.m, upd r.f j (0)⟩ (.int .i64 (0)) ht (show 3 + j < 11 by omega) (by
        rw [show elRow.zero = rowZ from rfl, HR.out]
        obtain rfl | rfl | rfl | rfl | rfl | rfl | rfl | rfl : j = 0 ∨ j = 1 ∨ j = 2 ∨ j = 3 ∨ j = 4 ∨ j = 5 ∨ j = 6 ∨ j = 7 := by omega
        all_goals rfl)
      rw [show t * 11 + 2 + 1 + j = t * elRow.size + (3 + j) by rw [show elRow.size = 11 from rfl]; omega]; exact h2)
    have hks : Kept (fun b => b = q) w2 (w2.setCell ⟨q, 2, none⟩ (.slice (some ⟨g, 0, none⟩) rows.length cap)) := Kept.setCell (F := fun b => b = q) _ (p := ⟨q, 2, none⟩) rfl _
    have HKS := Lib.hid hks
    have HO3 : Hid (OwnsF elRow (w2.setCell ⟨q, 2, none⟩ (.slice (some ⟨g, 0, none⟩) rows.length cap)) w1.heap.size 45 (.slice (some ⟨g, 0, none⟩) rows.length cap) rows) := Lib.hid (ho2.kept hks (fun b e => by simp [Value.ownBlock] at e; omega))
    have HEND : Hid (∀ W rows', Kept (fun b => b = g) (w2.setCell ⟨q, 2, none⟩ (.slice (some ⟨g, 0, none⟩) rows.length cap)) W → OwnsF elRow W w1.heap.size 45 (.slice (some ⟨g, 0, none⟩) rows.length cap) rows' → dropR rows a b j = rows' → ZDropPost w q G l rows vB a b j (.returned (.int .i64 0)) W) := Lib.hid (fun W rows' hkW hoW he => by
      have hk1 : Kept (fun b => b = q) w1 W := ((Kept.ofBelow hb2).trans hks (fun _ h => .inl h)).trans hkW (fun b e => .inr (by omega))
      obtain ⟨G', hR, hK, hM⟩ := HZI.out.setL hk1 (fun vg vl hq => by
        rw [hkW.block q (by simp [World.setCell]; exact hql2) hqg, heap_setCell_same _ _ _ _ _ _ ((hb2.block q hql).trans hq)]; rfl) hoW
      exact ⟨by rw [HE0.out], G', by rw [he]; exact hR, (Kept.ofBelow HBW.out).trans hK (fun _ h => .inl h), fun b hb => (hM b hb).imp id (fun h => Nat.le_trans HBW.out.size h)⟩)
    have HQ3 : Hid ((w2.setCell ⟨q, 2, none⟩ (.slice (some ⟨g, 0, none⟩) rows.length cap)).cell? ⟨q, 2, none⟩ = some (.slice (some ⟨g, 0, none⟩) rows.length cap)) := Lib.hid (by
      obtain ⟨vg, vl, hqh, -⟩ := hz2.slots
      rw [cell_of_row _ _ _ _ _ _ (heap_setCell_same _ _ _ _ _ _ hqh)]; rfl)
    clear hz2 ho2 hb2 hcc hcr hks hq2 hqf hfz
    have hq3 : (w2.setCell ⟨q, 2, none⟩ (.slice (some ⟨g, 0, none⟩) rows.length cap)).cell? ⟨q, 2, none⟩ = some (.slice (some ⟨g, 0, none⟩) rows.length cap) := HQ3.out
    have cr3 : (w2.setCell ⟨q, 2, none⟩ (.slice (some ⟨g, 0, none⟩) rows.length cap)).cell? ⟨g, t * 11 + 2, none⟩ = some (.int .i64 r.m) := HKS.out.cellS cr hgq
    have cv3 : (w2.setCell ⟨q, 2, none⟩ (.slice (some ⟨g, 0, none⟩) rows.length cap)).cell? ⟨g, t * 11 + 2 + 1 + j, none⟩ = some (.int .i64 (r.f j)) := HKS.out.cellS HCV.out hgq
    have fz3 : ∀ i, (w2.setCell ⟨q, 2, none⟩ (.slice (some ⟨g, 0, none⟩) rows.length cap)).frozen? ⟨g, i, none⟩ = false := fun i => by rw [World.frozen?_of_block (w := w2) (HKS.out.block g hgl hgq)]; exact HFZ.out i
    have hl3 : g < (w2.setCell ⟨q, 2, none⟩ (.slice (some ⟨g, 0, none⟩) rows.length cap)).heap.size := Nat.lt_of_lt_of_le hgl HKS.out.size
    have hlq3 : q < (w2.setCell ⟨q, 2, none⟩ (.slice (some ⟨g, 0, none⟩) rows.length cap)).heap.size := Nat.lt_of_lt_of_le hql2 HKS.out.size
    go_wp2_with fail
    generalize w2.setCell ⟨q, 2, none⟩ (.slice (some ⟨g, 0, none⟩) rows.length cap) = W at *
    clear cr cq2 fq2 hgl hql2
    have HPE : Hid (dropR rows a b j = rows.set t ⟨r.s, r.g, r.m - s, upd r.f j 0⟩) := Lib.hid (by rw [dropR, if_pos HE0.out, HTT.out, HR.out, Int.toNat_natCast, dropK, HS.out])
    have hfz2 := fz3 (t * 11 + 2)
    have hfzv := fz3 (t * 11 + 2 + 1 + j)
    have HF1 : Hid (ZDropPost w q G l rows vB a b j (.returned (.int .i64 0)) ((W.drew.setCell ⟨g, t * 11 + 2, none⟩ (.int .i64 (r.m - s))).setCell ⟨g, t * 11 + 2 + 1 + j, none⟩ (.int .i64 (0)))) := Lib.hid (HEND.out _ _ ((((Kept.ofBelow (F := fun b => b = g) (Below.refl _ _).drew).trans (Kept.setCell (F := fun b => b = g) _ (p := ⟨g, t * 11 + 2, none⟩) rfl _) (fun _ h => .inl h))).trans (Kept.setCell (F := fun b => b = g) _ (p := ⟨g, t * 11 + 2 + 1 + j, none⟩) rfl _) (fun _ h => .inl h)) (HSETM.out _ _ (HO3.out.later (Below.refl _ _).drew)) HPE.out)
    have hno : ¬ t * 11 + 2 + 1 + j = t * 11 + 2 := by omega
    have hno2 : ¬ t * 11 + 2 = t * 11 + 2 + 1 + j := by omega
    go_region_law (first | (go_simp; go_at_call 56; refine (power_any _ _ (by omega) (by omega)).mono ?_; rintro e w' ⟨rfl, rfl⟩; rw [Int.toNat_natCast, HS.out]))
    all_goals
      go_wp2
      go_ret
      exact HF1.out
end Go.Proofs.YtlclceiebnnpgaaGreat

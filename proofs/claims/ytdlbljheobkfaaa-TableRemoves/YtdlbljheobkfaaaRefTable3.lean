/- The contracts of Remove and Set of the reference's table. -/
import Derived.Test.YtdlbljheobkfaaaRefTable2
namespace Go.Proofs.Ytdlbljheobkfaaa
open Go.RowKit

theorem OwnsF.same {α : Type} {E : El α} {w : World} {B : Nat} {T : TypeId} {v : Value} {xs : List α} {k : Nat} {x y : α} (h : OwnsF E w B T v (xs.set k x)) (e : E.enc x = E.enc y) : OwnsF E w B T v (xs.set k y) := by
  unfold OwnsF at h ⊢
  rw [List.flatMap_def, List.map_set, e, ← List.map_set, ← List.flatMap_def, List.length_set] at h
  rw [List.length_set]; exact h

/-- A row is written as a whole. -/
theorem OwnsF.stored11 {w : World} {B : Nat} {T : TypeId} {g n cap : Nat} {xs : List Rw} (h : OwnsF elRow w B T (.slice (some ⟨g, 0, none⟩) n cap) xs) (k : Nat) (x : Rw) (hk : k < xs.length) :
    OwnsF elRow (((((((((((w.setCell ⟨g, k * 11, none⟩ (.int .i64 x.s)).setCell ⟨g, k * 11 + 1, none⟩ (.int .i64 x.g)).setCell ⟨g, k * 11 + 2, none⟩ (.int .i64 x.m)).setCell ⟨g, k * 11 + 3, none⟩ (.int .i64 (x.f 0))).setCell ⟨g, k * 11 + 4, none⟩ (.int .i64 (x.f 1))).setCell ⟨g, k * 11 + 5, none⟩ (.int .i64 (x.f 2))).setCell ⟨g, k * 11 + 6, none⟩ (.int .i64 (x.f 3))).setCell ⟨g, k * 11 + 7, none⟩ (.int .i64 (x.f 4))).setCell ⟨g, k * 11 + 8, none⟩ (.int .i64 (x.f 5))).setCell ⟨g, k * 11 + 9, none⟩ (.int .i64 (x.f 6))).setCell ⟨g, k * 11 + 10, none⟩ (.int .i64 (x.f 7))) B T (.slice (some ⟨g, 0, none⟩) n cap) (xs.set k x) := by
  have o0 := h.stored k 0 ⟨x.s, (xs.getD k rowZ).g, (xs.getD k rowZ).m, (xs.getD k rowZ).f⟩ (.int .i64 x.s) (hk) (by decide) (rfl)
  have o1 := o0.stored k 1 ⟨x.s, x.g, (xs.getD k rowZ).m, (xs.getD k rowZ).f⟩ (.int .i64 x.g) (by simpa using hk) (by decide) (by rw [show elRow.zero = rowZ from rfl, getD_set_eq _ _ _ _ hk]; rfl)
  rw [List.set_set] at o1
  have o2 := o1.stored k 2 ⟨x.s, x.g, x.m, (xs.getD k rowZ).f⟩ (.int .i64 x.m) (by simpa using hk) (by decide) (by rw [show elRow.zero = rowZ from rfl, getD_set_eq _ _ _ _ hk]; rfl)
  rw [List.set_set] at o2
  have o3 := o2.stored k 3 ⟨x.s, x.g, x.m, (upd (xs.getD k rowZ).f 0 (x.f 0))⟩ (.int .i64 (x.f 0)) (by simpa using hk) (by decide) (by rw [show elRow.zero = rowZ from rfl, getD_set_eq _ _ _ _ hk]; rfl)
  rw [List.set_set] at o3
  have o4 := o3.stored k 4 ⟨x.s, x.g, x.m, (upd (upd (xs.getD k rowZ).f 0 (x.f 0)) 1 (x.f 1))⟩ (.int .i64 (x.f 1)) (by simpa using hk) (by decide) (by rw [show elRow.zero = rowZ from rfl, getD_set_eq _ _ _ _ hk]; rfl)
  rw [List.set_set] at o4
  have o5 := o4.stored k 5 ⟨x.s, x.g, x.m, (upd (upd (upd (xs.getD k rowZ).f 0 (x.f 0)) 1 (x.f 1)) 2 (x.f 2))⟩ (.int .i64 (x.f 2)) (by simpa using hk) (by decide) (by rw [show elRow.zero = rowZ from rfl, getD_set_eq _ _ _ _ hk]; rfl)
  rw [List.set_set] at o5
  have o6 := o5.stored k 6 ⟨x.s, x.g, x.m, (upd (upd (upd (upd (xs.getD k rowZ).f 0 (x.f 0)) 1 (x.f 1)) 2 (x.f 2)) 3 (x.f 3))⟩ (.int .i64 (x.f 3)) (by simpa using hk) (by decide) (by rw [show elRow.zero = rowZ from rfl, getD_set_eq _ _ _ _ hk]; rfl)
  rw [List.set_set] at o6
  have o7 := o6.stored k 7 ⟨x.s, x.g, x.m, (upd (upd (upd (upd (upd (xs.getD k rowZ).f 0 (x.f 0)) 1 (x.f 1)) 2 (x.f 2)) 3 (x.f 3)) 4 (x.f 4))⟩ (.int .i64 (x.f 4)) (by simpa using hk) (by decide) (by rw [show elRow.zero = rowZ from rfl, getD_set_eq _ _ _ _ hk]; rfl)
  rw [List.set_set] at o7
  have o8 := o7.stored k 8 ⟨x.s, x.g, x.m, (upd (upd (upd (upd (upd (upd (xs.getD k rowZ).f 0 (x.f 0)) 1 (x.f 1)) 2 (x.f 2)) 3 (x.f 3)) 4 (x.f 4)) 5 (x.f 5))⟩ (.int .i64 (x.f 5)) (by simpa using hk) (by decide) (by rw [show elRow.zero = rowZ from rfl, getD_set_eq _ _ _ _ hk]; rfl)
  rw [List.set_set] at o8
  have o9 := o8.stored k 9 ⟨x.s, x.g, x.m, (upd (upd (upd (upd (upd (upd (upd (xs.getD k rowZ).f 0 (x.f 0)) 1 (x.f 1)) 2 (x.f 2)) 3 (x.f 3)) 4 (x.f 4)) 5 (x.f 5)) 6 (x.f 6))⟩ (.int .i64 (x.f 6)) (by simpa using hk) (by decide) (by rw [show elRow.zero = rowZ from rfl, getD_set_eq _ _ _ _ hk]; rfl)
  rw [List.set_set] at o9
  have o10 := o9.stored k 10 ⟨x.s, x.g, x.m, (upd (upd (upd (upd (upd (upd (upd (upd (xs.getD k rowZ).f 0 (x.f 0)) 1 (x.f 1)) 2 (x.f 2)) 3 (x.f 3)) 4 (x.f 4)) 5 (x.f 5)) 6 (x.f 6)) 7 (x.f 7))⟩ (.int .i64 (x.f 7)) (by simpa using hk) (by decide) (by rw [show elRow.zero = rowZ from rfl, getD_set_eq _ _ _ _ hk]; rfl)
  rw [List.set_set] at o10
  exact o10.same rfl

theorem kept_set11 {F : Nat → Prop} {a w : World} (h : Kept F a w) (g k : Nat) (x : Rw) (hb : F g ∨ a.heap.size ≤ g) : Kept F a (((((((((((w.setCell ⟨g, k * 11, none⟩ (.int .i64 x.s)).setCell ⟨g, k * 11 + 1, none⟩ (.int .i64 x.g)).setCell ⟨g, k * 11 + 2, none⟩ (.int .i64 x.m)).setCell ⟨g, k * 11 + 3, none⟩ (.int .i64 (x.f 0))).setCell ⟨g, k * 11 + 4, none⟩ (.int .i64 (x.f 1))).setCell ⟨g, k * 11 + 5, none⟩ (.int .i64 (x.f 2))).setCell ⟨g, k * 11 + 6, none⟩ (.int .i64 (x.f 3))).setCell ⟨g, k * 11 + 7, none⟩ (.int .i64 (x.f 4))).setCell ⟨g, k * 11 + 8, none⟩ (.int .i64 (x.f 5))).setCell ⟨g, k * 11 + 9, none⟩ (.int .i64 (x.f 6))).setCell ⟨g, k * 11 + 10, none⟩ (.int .i64 (x.f 7))) := by
  iterate 11 (refine kept_set ?_ _ _ _ hb)
  exact h
theorem putV_enc (r : Rw) (j : Nat) (n : Int) (h : j < 8) : elRow.enc (putV r j n) = (elRow.enc r).set (3 + j) (.int .i64 n) := by
  obtain rfl | rfl | rfl | rfl | rfl | rfl | rfl | rfl : j = 0 ∨ j = 1 ∨ j = 2 ∨ j = 3 ∨ j = 4 ∨ j = 5 ∨ j = 6 ∨ j = 7 := by omega
  all_goals rfl
theorem row_get (r : Rw) (j : Nat) (h : j < 8) : (elRow.enc r)[3 + j]? = some (.int .i64 (r.f j)) := by
  obtain rfl | rfl | rfl | rfl | rfl | rfl | rfl | rfl : j = 0 ∨ j = 1 ∨ j = 2 ∨ j = 3 ∨ j = 4 ∨ j = 5 ∨ j = 6 ∨ j = 7 := by omega
  all_goals rfl

theorem RSetPost.no {w : World} {q : Nat} {G : Nat → Prop} {m : Int} {rows : List Rw} {i k n x : Int} (h : RefTab w q G m rows) (hx : setE m rows i k n = x) (h0 : x ≠ 0) : RSetPost w q G m rows i k n (.returned (.int .i64 x)) w := by
  subst hx
  refine ⟨rfl, G, ?_, Kept.refl _ _, Moves.refl _ _⟩
  rw [setL, if_neg h0]; exact h

set_option maxHeartbeats 2000000 in
theorem refSet_any (q : Nat) (G : Nat → Prop) (m : Int) (rows : List Rw) (i k n : Int) (w : World) (h : RefTab w q G m rows) (hl : rows.length * 88 ≤ 140737488355328) :
    Calls Try.prog 13 #[.pointer (some ⟨q, 0, none⟩), .int .i64 i, .int .i64 k, .int .i64 n] w (RSetPost w q G m rows i k n) := by
  have HT := Lib.hid h
  obtain ⟨v, hc, -⟩ := h
  have hql := hc.lt
  have cq := hc.cell
  have fq := hc.frz 1
  have c0 := RefTab.cell0 hc
  have HC := Lib.hid hc
  obtain ⟨a, cap, hv, _, hcm, _⟩ := hc.own.reads
  have hll : rows.length ≤ maxLen := by omega
  unfold maxLen at hll
  rw [hv] at cq
  clear hc
  cases hi : inB i 0 (rows.length - 1)
  · have HP := Lib.hid (RSetPost.no (i := i) (k := k) (n := n) HT.out (by rw [setE, hi]; rfl) (show (5 : Int) ≠ 0 by decide))
    have HI := Lib.hid hi
    clear hi hv
    go_enter Try.func13, Try.ntmps13
    go_wp2_with fail
    refine (outside_any _ _ _ _).mono ?_
    rintro e w' ⟨rfl, rfl⟩
    rw [HI.out]
    go_wp2
    go_ret
    exact HP.out
  · have HI := Lib.hid hi
    cases hk : inB k 0 7
    · have hE : colE m k = 1 := by rw [colE, hk]; rfl
      have HP := Lib.hid (RSetPost.no (i := i) (k := k) (n := n) HT.out (by rw [setE, hi, if_pos rfl, if_neg (by rw [hE]; decide), hE]) (show (1 : Int) ≠ 0 by decide))
      have HK := Lib.hid hk
      clear hi hk hv hE
      go_enter Try.func13, Try.ntmps13
      go_wp2_with fail
      refine (outside_any _ _ _ _).mono ?_
      rintro e w' ⟨rfl, rfl⟩
      rw [HI.out]
      go_wp2_with fail
      refine (outside_any _ _ _ _).mono ?_
      rintro e w' ⟨rfl, rfl⟩
      rw [HK.out]
      go_wp2
      go_ret
      exact HP.out
    · have HK := Lib.hid hk
      obtain ⟨b1, b2⟩ := inB_t hk
      obtain ⟨j, rfl⟩ := Int.eq_ofNat_of_zero_le b1
      cases ht : tb m j
      · have hE : colE m j = 5 := by rw [colE, hk, Int.toNat_natCast, ht]; rfl
        have HP := Lib.hid (RSetPost.no (i := i) (k := j) (n := n) HT.out (by rw [setE, hi, if_pos rfl, if_neg (by rw [hE]; decide), hE]) (show (5 : Int) ≠ 0 by decide))
        have HTB := Lib.hid ht
        clear hi hk hv ht hE
        go_enter Try.func13, Try.ntmps13
        go_wp2_with fail
        refine (outside_any _ _ _ _).mono ?_
        rintro e w' ⟨rfl, rfl⟩
        rw [HI.out]
        go_wp2_with fail
        refine (outside_any _ _ _ _).mono ?_
        rintro e w' ⟨rfl, rfl⟩
        rw [HK.out]
        go_wp2_with fail
        refine (refHasKind_any _ _ _ (by omega) (by omega)).mono ?_
        rintro e w' ⟨rfl, rfl⟩
        rw [Int.toNat_natCast, HTB.out]
        go_wp2
        go_ret
        exact HP.out
      · have hE : colE m j = 0 := by rw [colE, hk, Int.toNat_natCast, ht]; rfl
        have HTB := Lib.hid ht
        cases hn : inB n (-1000000000) 1000000000
        · have HP := Lib.hid (RSetPost.no (i := i) (k := j) (n := n) HT.out (by rw [setE, hi, if_pos rfl, if_pos hE, hn]; rfl) (show (1 : Int) ≠ 0 by decide))
          have HNN := Lib.hid hn
          clear hi hk hv ht hE hn
          go_enter Try.func13, Try.ntmps13
          go_wp2_with fail
          refine (outside_any _ _ _ _).mono ?_
          rintro e w' ⟨rfl, rfl⟩
          rw [HI.out]
          go_wp2_with fail
          refine (outside_any _ _ _ _).mono ?_
          rintro e w' ⟨rfl, rfl⟩
          rw [HK.out]
          go_wp2_with fail
          refine (refHasKind_any _ _ _ (by omega) (by omega)).mono ?_
          rintro e w' ⟨rfl, rfl⟩
          rw [Int.toNat_natCast, HTB.out]
          go_wp2_with fail
          refine (outside_any _ _ _ _).mono ?_
          rintro e w' ⟨rfl, rfl⟩
          rw [HNN.out]
          go_wp2
          go_ret
          exact HP.out
        · have HNN := Lib.hid hn
          obtain ⟨i1, i2⟩ := inB_t hi
          obtain ⟨t, rfl⟩ := Int.eq_ofNat_of_zero_le i1
          have htl : t < rows.length := by omega
          have HE0 : Hid (setE m rows t j n = 0) := Lib.hid (by rw [setE, hi, if_pos rfl, if_pos hE, hn]; rfl)
          clear hi hk ht hE hn
          have hj8 : j < 8 := by omega
          subst hv
          go_enter Try.func13, Try.ntmps13
          go_wp2_with fail
          refine (outside_any _ _ _ _).mono ?_
          rintro e w' ⟨rfl, rfl⟩
          rw [HI.out]
          go_wp2_with fail
          refine (outside_any _ _ _ _).mono ?_
          rintro e w' ⟨rfl, rfl⟩
          rw [HK.out]
          go_wp2_with fail
          refine (refHasKind_any _ _ _ (by omega) (by omega)).mono ?_
          rintro e w' ⟨rfl, rfl⟩
          rw [Int.toNat_natCast, HTB.out]
          go_wp2_with fail
          refine (outside_any _ _ _ _).mono ?_
          rintro e w' ⟨rfl, rfl⟩
          rw [HNN.out]
          go_wp2_with fail
          refine (copyRow_any _ rows _ HC.out.own hl).mono ?_
          rintro e w1 ⟨v1, rfl, ho1, hb1⟩
          have hc1 := HC.out.later hb1
          have cq1 := hc1.cell
          have fq1 := hc1.frz 1
          have hq1 := hc1.lt
          obtain ⟨g, cap1, rfl, hgB, hgl, hlc, hcm1, hfz, hcc⟩ := ho1.at11 (by omega)
          have hgq : ¬ g = q := by omega
          have hqg : ¬ q = g := by omega
          have hcv := hcc t htl (3 + j) (by omega)
          rw [row_get _ j hj8] at hcv
          have fcv := hfz (t * 11 + (3 + j))
          have hks : Kept (fun b => b = q) w1 (w1.setCell ⟨q, 1, none⟩ (.slice (some ⟨g, 0, none⟩) rows.length cap1)) := Kept.setCell (F := fun b => b = q) _ (p := ⟨q, 1, none⟩) rfl _
          have ho2 := (ho1.kept hks (fun b e => by simp [Value.ownBlock] at e; omega)).stored t (3 + j) (putV (rows.getD t rowZ) j n) (.int .i64 n) htl (show 3 + j < 11 by omega) (putV_enc _ j n hj8)
          rw [show elRow.size = 11 from rfl] at ho2
          have hW : Kept (fun b => b = q) w ((w1.setCell ⟨q, 1, none⟩ (.slice (some ⟨g, 0, none⟩) rows.length cap1)).setCell ⟨g, t * 11 + (3 + j), none⟩ (.int .i64 n)) := ((Kept.ofBelow hb1).trans hks (fun _ h => .inl h)).trans (Kept.setCell (F := fun b => b = g) _ (p := ⟨g, t * 11 + (3 + j), none⟩) rfl _) (fun b e => .inr (by omega))
          have hqh : ((w1.setCell ⟨q, 1, none⟩ (.slice (some ⟨g, 0, none⟩) rows.length cap1)).setCell ⟨g, t * 11 + (3 + j), none⟩ (.int .i64 n)).heap[q]? = some (.cells #[.int .i64 m, .slice (some ⟨g, 0, none⟩) rows.length cap1] 30) := by
            rw [heap_setCell_other _ _ _ _ hqg, heap_setCell_same _ _ _ _ _ _ hc1.heap]; rfl
          have HEND : Hid (RSetPost w q G m rows t j n (.returned (.int .i64 0)) ((w1.setCell ⟨q, 1, none⟩ (.slice (some ⟨g, 0, none⟩) rows.length cap1)).setCell ⟨g, t * 11 + (3 + j), none⟩ (.int .i64 n))) := Lib.hid (by
            obtain ⟨G', hR, hK, hM⟩ := HT.out.step hW hqh ho2
            exact ⟨by rw [HE0.out], G', by rw [setL, if_pos HE0.out, Int.toNat_natCast, Int.toNat_natCast]; exact hR, hK, hM⟩)
          clear hc1 ho1 hb1 hcc hfz hks ho2 hW hqh cq fq
          unfold maxLen at hcm1
          rw [show t * 11 + (3 + j) = t * 11 + 2 + 1 + j by omega] at hcv fcv HEND
          go_wp2
          go_ret
          exact HEND.out
end Go.Proofs.Ytdlbljheobkfaaa

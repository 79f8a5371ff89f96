
/- Package text: numbers and rows as lines. -/
import Derived.Test.YtndhomjfjhohoaaGreatDoorTextShelf
import Derived.Test.YtndhomjfjhohoaaGreatDoorTextE
import Derived.Test.YtndhomjfjhohoaaGreatDoorGroundA
namespace Go.Proofs.YtndhomjfjhohoaaGreatDoor
set_option maxRecDepth 8000
open Go.RowKit

theorem numW_len {n : Int} (h : I64 n) : (numW n).length ≤ 22 := by
  have := Lib.itoa_length_le n h.1 h.2
  simp [numW]; omega
theorem lnW_len (w : List UInt8) : ∀ {ns : List Int}, (∀ n ∈ ns, I64 n) → (lnW w ns).length ≤ w.length + 22 * ns.length
  | [], _ => by simp [lnW]
  | n :: ns, h => by
    have h1 := numW_len (h n (by simp))
    have h2 := lnW_len w (ns := ns) (fun x hx => h x (by simp [hx]))
    simp [lnW] at h2 ⊢; omega
set_option maxHeartbeats 1000000 in
theorem withNumbers_any (word : List UInt8) (v : Value) (ns : List Int) (w : World) (hr : Ints w v ns) (hi : ∀ n ∈ ns, I64 n) (hl : word.length + 22 * ns.length ≤ 1000000000) (hv : VarsIs w) :
    Calls Tryz.prog 61 #[.string (bs word), v] w fun e w' => e = .returned (.string (bs (lnW word ns))) ∧ Below w.heap.size w w' := by
  obtain ⟨hm, h⟩ := hr.open
  unfold maxLen at hm
  have HI := Lib.hid hi
  have HV := Lib.hid hv
  have HL := Lib.hid hl
  generalize hn : ns.length = N at *
  have HN := Lib.hid hn
  clear hn hi hl hv
  rcases h with ⟨a, cap, rfl, hz⟩ | ⟨b, off, cap, rfl, hb, hlc, hcm, hc⟩
  all_goals
    go_enter Tryz.func61, Tryz.ntmps61
    go_wp2
    go_loopw [0, 9] (fun s0 i wr => ∃ (k : Nat) (A : List UInt8), k ≤ N ∧ s0 = .string (bs A) ∧ i = .int .i64 k ∧ Hid (A = lnW word (ns.take k)) ∧ Hid (Below w.heap.size w wr)) (fun _ i _ => N - (intOf i).toNat)
    case atStart => exact ⟨0, word, by omega, rfl, rfl, Lib.hid (by simp [lnW]), Lib.hid (Below.refl _ _)⟩
    case round =>
      obtain ⟨k, A, hk, rfl, rfl, hA, hB⟩ := hrel
      by_cases hlt : k < N
      · first
          | omega
          | (have hck : wr.cell? ⟨b, off + k, none⟩ = some (.int .i64 (ns.getD k 0)) := by rw [hB.out.cell (p := ⟨b, off + k, none⟩) hb]; exact hc k hlt
             have HC := Lib.hid hc
             clear hc
             have hmem : ns.getD k 0 ∈ ns := getD_mem (by rw [HN.out]; exact hlt)
             have HT : Hid (ns.take (k + 1) = ns.take k ++ [ns.getD k 0]) := Lib.hid (take_snoc (by rw [HN.out]; exact hlt))
             have hAl : A.length ≤ word.length + 22 * N := by
               have := lnW_len word (ns := ns.take k) (fun n hn => HI.out n (List.mem_of_mem_take hn))
               rw [List.length_take, HN.out] at this
               rw [hA.out]; omega
             have h64 := HI.out _ hmem
             generalize ns.getD k 0 = y at *
             obtain ⟨D, hD⟩ : ∃ D, Lib.itoa y = D := ⟨_, rfl⟩
             have hDl : D.length ≤ 21 := by rw [← hD]; exact Lib.itoa_length_le y h64.1 h64.2
             obtain ⟨E, hE⟩ : ∃ E, 32 :: D = E := ⟨_, rfl⟩
             obtain ⟨C, hC⟩ : ∃ C, A ++ E = C := ⟨_, rfl⟩
             have h1 : ∀ x : World, (Op.stringOp .add { data := #[32] } { data := D.toArray }).run Tryz.prog x = .ok (.string { data := E.toArray }) x := fun x => by have := add_run (P := Tryz.prog) [32] D (by simp; omega) x; rw [List.singleton_append, hE] at this; exact this
             have hll := HL.out
             have h2 : ∀ x : World, (Op.stringOp .add { data := A.toArray } { data := E.toArray }).run Tryz.prog x = .ok (.string { data := C.toArray }) x := fun x => by have := add_run (P := Tryz.prog) A E (by rw [← hE]; simp; omega) x; rw [hC] at this; exact this
             have HCC : Hid (C = lnW word (ns.take (k + 1))) := Lib.hid (by rw [HT.out, lnW_snoc, ← hA.out, ← hC, ← hE, ← hD]; rfl)
             have hit := itoa_any y h64 wr (HV.out.later hB.out)
             rw [hD] at hit
             have HIT := Lib.hid hit
             clear hit hC hE hD hll hmem
             go_wp2_with (go_at_call 95; refine HIT.out.mono ?_; rintro e w2 ⟨rfl, hb2⟩)
             have HB2 : Hid (Below w.heap.size w w2) := Lib.hid (nb_trans hB.out hb2)
             clear hb2 hck
             go_wp2
             go_roundw
             case rel => exact ⟨k + 1, C, by omega, rfl, by go_num, HCC, HB2⟩
             case measure => simp [intOf]; omega)
      · obtain rfl : k = N := by omega
        have HE : Hid (A = lnW word ns) := Lib.hid (by rw [hA.out, ← HN.out, List.take_length])
        go_wp2
        go_ret
        have he := HE.out
        subst he
        exact ⟨rfl, hB.out⟩
theorem kvW_len {f : Nat → Int} {k : Int} (h : I64 k) (hf : I64 (f k.toNat)) : (kvW f k).length ≤ 44 := by
  have h1 := Lib.itoa_length_le k h.1 h.2
  have h2 := Lib.itoa_length_le _ hf.1 hf.2
  simp [kvW, numW]; omega
theorem kvs_len {f : Nat → Int} : ∀ {ks : List Int}, (∀ k ∈ ks, I64 k ∧ I64 (f k.toNat)) → (ks.flatMap (kvW f)).length ≤ 44 * ks.length
  | [], _ => by simp
  | k :: ks, h => by
    have h1 := kvW_len (h k (by simp)).1 (h k (by simp)).2
    have h2 := kvs_len (ks := ks) (fun x hx => h x (by simp [hx]))
    simp at h2 ⊢; omega
/-- the text of a list of numbers that lie in a new block -/
theorem Ints.ofNew {w : World} {g : Nat} {T : TypeId} {xs : List Int} (h : w.heap[g]? = some (.cells (xs.map (Value.int .i64)).toArray T (0, 0))) (hl : xs.length ≤ 100) : Ints w (.slice (some ⟨g, 0, none⟩) xs.length xs.length) xs := by
  refine ⟨_, _, rfl, Nat.le_refl _, by unfold maxLen; omega, fun k hk => ⟨g, 0, rfl, (Array.getElem?_eq_some_iff.1 h).1, ?_⟩⟩
  rw [cell_of_row _ _ _ _ _ _ h, Nat.zero_add, List.getElem?_toArray, List.getElem?_map, List.getElem?_eq_getElem hk, List.getD_eq_getElem?_getD, List.getElem?_eq_getElem hk]; rfl
set_option maxHeartbeats 4000000 in
theorem rowLine_any (r : Rw) (w : World) (hr : I64 r.s ∧ I64 r.g ∧ ∀ k, k < 8 → I64 (r.f k)) (hv : VarsIs w) :
    Calls Tryz.prog 62 #[.agg #[.int .i64 r.s, .int .i64 r.g, .int .i64 r.m, .int .i64 (r.f 0), .int .i64 (r.f 1), .int .i64 (r.f 2), .int .i64 (r.f 3), .int .i64 (r.f 4), .int .i64 (r.f 5), .int .i64 (r.f 6), .int .i64 (r.f 7)]] w fun e w' => e = .returned (.string (bs (rowLn r))) ∧ Below w.heap.size w w' := by
  have hX : Below w.heap.size w (w.alloc (.cells #[.int .i64 r.s, .int .i64 r.g, .int .i64 r.m, .int .i64 (r.f 0), .int .i64 (r.f 1), .int .i64 (r.f 2), .int .i64 (r.f 3), .int .i64 (r.f 4), .int .i64 (r.f 5), .int .i64 (r.f 6), .int .i64 (r.f 7)] 54)) := nb_alloc (Below.refl _ _) _
  have hxb : (w.alloc (.cells #[.int .i64 r.s, .int .i64 r.g, .int .i64 r.m, .int .i64 (r.f 0), .int .i64 (r.f 1), .int .i64 (r.f 2), .int .i64 (r.f 3), .int .i64 (r.f 4), .int .i64 (r.f 5), .int .i64 (r.f 6), .int .i64 (r.f 7)] 54)).heap[w.heap.size]? = some (.cells #[.int .i64 r.s, .int .i64 r.g, .int .i64 r.m, .int .i64 (r.f 0), .int .i64 (r.f 1), .int .i64 (r.f 2), .int .i64 (r.f 3), .int .i64 (r.f 4), .int .i64 (r.f 5), .int .i64 (r.f 6), .int .i64 (r.f 7)] 54) := heap_alloc_new _ _
  have HX := Lib.hid hX
  have HXB := Lib.hid hxb
  have HR := Lib.hid hr
  have HV := Lib.hid hv
  have HN0 : Hid (Calls Tryz.prog 61 #[.string (bs rowW), .slice (some ⟨w.heap.size + 1, 0, none⟩) 2 2] ((w.alloc (.cells #[.int .i64 r.s, .int .i64 r.g, .int .i64 r.m, .int .i64 (r.f 0), .int .i64 (r.f 1), .int .i64 (r.f 2), .int .i64 (r.f 3), .int .i64 (r.f 4), .int .i64 (r.f 5), .int .i64 (r.f 6), .int .i64 (r.f 7)] 54)).alloc (.cells #[.int .i64 r.s, .int .i64 r.g] 3)) fun e w' => e = .returned (.string (bs (lnW rowW [r.s, r.g]))) ∧ Below ((w.alloc (.cells #[.int .i64 r.s, .int .i64 r.g, .int .i64 r.m, .int .i64 (r.f 0), .int .i64 (r.f 1), .int .i64 (r.f 2), .int .i64 (r.f 3), .int .i64 (r.f 4), .int .i64 (r.f 5), .int .i64 (r.f 6), .int .i64 (r.f 7)] 54)).alloc (.cells #[.int .i64 r.s, .int .i64 r.g] 3)).heap.size ((w.alloc (.cells #[.int .i64 r.s, .int .i64 r.g, .int .i64 r.m, .int .i64 (r.f 0), .int .i64 (r.f 1), .int .i64 (r.f 2), .int .i64 (r.f 3), .int .i64 (r.f 4), .int .i64 (r.f 5), .int .i64 (r.f 6), .int .i64 (r.f 7)] 54)).alloc (.cells #[.int .i64 r.s, .int .i64 r.g] 3)) w') :=
    Lib.hid (withNumbers_any rowW _ [r.s, r.g] _ (Ints.ofNew (xs := [r.s, r.g]) (by have := heap_alloc_new (w.alloc (.cells #[.int .i64 r.s, .int .i64 r.g, .int .i64 r.m, .int .i64 (r.f 0), .int .i64 (r.f 1), .int .i64 (r.f 2), .int .i64 (r.f 3), .int .i64 (r.f 4), .int .i64 (r.f 5), .int .i64 (r.f 6), .int .i64 (r.f 7)] 54)) (.cells #[.int .i64 r.s, .int .i64 r.g] 3); rw [World.size_alloc] at this; exact this) (by simp)) (by intro n hn; simp at hn; rcases hn with rfl | rfl; exact hr.1; exact hr.2.1) (by simp [rowW]) (hv.later (nb_alloc hX _)))
  clear hr hv hX hxb
  go_enter Tryz.func62, Tryz.ntmps62
  go_wp2_with fail
  refine HN0.out.mono ?_
  rintro e w1 ⟨rfl, hb1⟩
  have HB1 : Hid (Below w.heap.size w w1) := Lib.hid (nb_trans (nb_trans HX.out (nb_alloc (Below.refl _ _) _)) hb1)
  have hx1 : w1.heap[w.heap.size]? = some (.cells #[.int .i64 r.s, .int .i64 r.g, .int .i64 r.m, .int .i64 (r.f 0), .int .i64 (r.f 1), .int .i64 (r.f 2), .int .i64 (r.f 3), .int .i64 (r.f 4), .int .i64 (r.f 5), .int .i64 (r.f 6), .int .i64 (r.f 7)] 54) := by
    have h0 : ((w.alloc (.cells #[.int .i64 r.s, .int .i64 r.g, .int .i64 r.m, .int .i64 (r.f 0), .int .i64 (r.f 1), .int .i64 (r.f 2), .int .i64 (r.f 3), .int .i64 (r.f 4), .int .i64 (r.f 5), .int .i64 (r.f 6), .int .i64 (r.f 7)] 54)).alloc (.cells #[.int .i64 r.s, .int .i64 r.g] 3)).heap[w.heap.size]? = some (.cells #[.int .i64 r.s, .int .i64 r.g, .int .i64 r.m, .int .i64 (r.f 0), .int .i64 (r.f 1), .int .i64 (r.f 2), .int .i64 (r.f 3), .int .i64 (r.f 4), .int .i64 (r.f 5), .int .i64 (r.f 6), .int .i64 (r.f 7)] 54) := by rw [Below.heap_alloc _ _ _ (by simp)]; exact HXB.out
    rw [hb1.block _ (Array.getElem?_eq_some_iff.1 h0).1]; exact h0
  obtain ⟨A0, hA0⟩ : ∃ A0, lnW rowW [r.s, r.g] = A0 := ⟨_, rfl⟩
  rw [hA0]
  have HA0 := Lib.hid hA0
  clear hA0 hb1 HN0
  have HX1 := Lib.hid hx1
  obtain ⟨k0, k1, k2, k3, k4, k5, k6, k7, k8, k9, k10⟩ := rCells (r := r) hx1
  have hl1 := (Array.getElem?_eq_some_iff.1 hx1).1
  clear hx1
  go_wp2_with fail
  refine (list_any r.m _).mono ?_
  rintro e w2 ⟨vk, rfl, hok, hb2⟩
  have hik := Ints.owns hok
  have HB2 : Hid (Below w1.heap.size w1 w2) := Lib.hid hb2
  have HKS : Hid (∀ z ∈ kinds r.m, ∃ j : Nat, j < 8 ∧ z = (j : Int)) := Lib.hid (fun z hz => by obtain ⟨j, hj, e, -⟩ := mem_kindsTo.1 hz; exact ⟨j, hj, e⟩)
  have HKL : Hid ((kinds r.m).length ≤ 8) := Lib.hid (kindsTo_len r.m 8)
  clear hok hb2 k0 k1 k2 k3 k4 k5 k6 k7 k8 k9 k10
  obtain ⟨ks, hks⟩ : ∃ ks, kinds r.m = ks := ⟨_, rfl⟩
  rw [hks] at hik HKS HKL
  have HKK := Lib.hid hks
  clear hks
  obtain ⟨hm, hop⟩ := hik.open
  unfold maxLen at hm
  generalize hn : ks.length = N at *
  have HN := Lib.hid hn
  clear hn hik
  rcases hop with ⟨a, cap, rfl, hz⟩ | ⟨b, off, cap, rfl, hb, hlc, hcm, hc⟩
  all_goals
    go_wp2
    go_loopw [3, 19] (fun s3 i wr => ∃ (k : Nat) (A : List UInt8), k ≤ N ∧ s3 = .string (bs A) ∧ i = .int .i64 k ∧ Hid (A = A0 ++ (ks.take k).flatMap (kvW r.f)) ∧ Hid (Below w2.heap.size w2 wr)) (fun _ i _ => N - (intOf i).toNat)
    case atStart => exact ⟨0, A0, by omega, rfl, rfl, Lib.hid (by simp), Lib.hid (Below.refl _ _)⟩
    case round =>
      obtain ⟨k, A, hk, rfl, rfl, hA, hB⟩ := hrel
      by_cases hlt : k < N
      · first
          | omega
          | (have hck : wr.cell? ⟨b, off + k, none⟩ = some (.int .i64 (ks.getD k 0)) := by rw [hB.out.cell (p := ⟨b, off + k, none⟩) hb]; exact hc k hlt
             have HC := Lib.hid hc
             clear hc
             have hmem : ks.getD k 0 ∈ ks := getD_mem (by rw [HN.out]; exact hlt)
             have HT : Hid (ks.take (k + 1) = ks.take k ++ [ks.getD k 0]) := Lib.hid (take_snoc (by rw [HN.out]; exact hlt))
             have hf8 := HR.out.2.2
             have hAl : A.length ≤ A0.length + 44 * 8 := by
               have := kvs_len (f := r.f) (ks := ks.take k) (fun z hz => by
                 obtain ⟨j, hj, rfl⟩ := HKS.out z (List.mem_of_mem_take hz)
                 exact ⟨⟨by omega, by omega⟩, by rw [Int.toNat_natCast]; exact hf8 j hj⟩)
               rw [List.length_take, HN.out] at this
               have := HKL.out
               rw [hA.out, List.length_append]; omega
             have hA0l : A0.length ≤ 100 := by
               rw [← HA0.out]
               exact Nat.le_trans (lnW_len _ (by intro n hn; simp at hn; rcases hn with rfl | rfl; exact HR.out.1; exact HR.out.2.1)) (by simp [rowW])
             obtain ⟨j, hj, hjz⟩ := HKS.out _ hmem
             have hfj := hf8 j hj
             generalize ks.getD k 0 = z at *
             subst hjz
             obtain ⟨D1, hD1⟩ : ∃ D, Lib.itoa (j : Int) = D := ⟨_, rfl⟩
             obtain ⟨D2, hD2⟩ : ∃ D, Lib.itoa (r.f j) = D := ⟨_, rfl⟩
             have hl1' : D1.length ≤ 21 := by rw [← hD1]; exact Lib.itoa_length_le _ (by omega) (by omega)
             have hl2' : D2.length ≤ 21 := by rw [← hD2]; exact Lib.itoa_length_le _ hfj.1 hfj.2
             obtain ⟨E1, hE1⟩ : ∃ E, 32 :: D1 = E := ⟨_, rfl⟩
             obtain ⟨E2, hE2⟩ : ∃ E, E1 ++ [61] = E := ⟨_, rfl⟩
             obtain ⟨E3, hE3⟩ : ∃ E, E2 ++ D2 = E := ⟨_, rfl⟩
             obtain ⟨C, hC⟩ : ∃ C, A ++ E3 = C := ⟨_, rfl⟩
             have h1 : ∀ x : World, (Op.stringOp .add { data := #[32] } { data := D1.toArray }).run Tryz.prog x = .ok (.string { data := E1.toArray }) x := fun x => by have := add_run (P := Tryz.prog) [32] D1 (by simp; omega) x; rw [List.singleton_append, hE1] at this; exact this
             have h2 : ∀ x : World, (Op.stringOp .add { data := E1.toArray } { data := #[61] }).run Tryz.prog x = .ok (.string { data := E2.toArray }) x := fun x => by have := add_run (P := Tryz.prog) E1 [61] (by rw [← hE1]; simp; omega) x; rw [hE2] at this; exact this
             have h3 : ∀ x : World, (Op.stringOp .add { data := E2.toArray } { data := D2.toArray }).run Tryz.prog x = .ok (.string { data := E3.toArray }) x := fun x => by have := add_run (P := Tryz.prog) E2 D2 (by rw [← hE2, ← hE1]; simp; omega) x; rw [hE3] at this; exact this
             have h4 : ∀ x : World, (Op.stringOp .add { data := A.toArray } { data := E3.toArray }).run Tryz.prog x = .ok (.string { data := C.toArray }) x := fun x => by have := add_run (P := Tryz.prog) A E3 (by rw [← hE3, ← hE2, ← hE1]; simp; omega) x; rw [hC] at this; exact this
             have HCC : Hid (C = A0 ++ (ks.take (k + 1)).flatMap (kvW r.f)) := Lib.hid (by rw [HT.out, List.flatMap_append, ← List.append_assoc, ← hA.out, ← hC, ← hE3, ← hE2, ← hE1, ← hD1, ← hD2]; simp [kvW, numW])
             have HVR : Hid (∀ y : Later wr, VarsIs y.w) := Lib.hid (fun y => (((HV.out.later HB1.out).later HB2.out).later hB.out).later y.below)
             have HIT1 : Hid (∀ y : Later wr, Calls Tryz.prog 95 #[.int .i64 (j : Int)] y.w fun e w' => e = .returned (.string { data := D1.toArray }) ∧ Below y.w.heap.size y.w w') := Lib.hid (fun y => by have := itoa_any (j : Int) ⟨by omega, by omega⟩ y.w (HVR.out y); rw [hD1] at this; exact this)
             have HIT2 : Hid (∀ y : Later wr, Calls Tryz.prog 95 #[.int .i64 (r.f j)] y.w fun e w' => e = .returned (.string { data := D2.toArray }) ∧ Below y.w.heap.size y.w w') := Lib.hid (fun y => by have := itoa_any (r.f j) hfj y.w (HVR.out y); rw [hD2] at this; exact this)
             have kf : ∀ y : Later wr, y.w.cell? ⟨w.heap.size, 3 + j, none⟩ = some (.int .i64 (r.f j)) := fun y => y.cell (by
               rw [hB.out.cell (p := ⟨w.heap.size, 3 + j, none⟩) (Nat.lt_of_lt_of_le hl1 HB2.out.size), HB2.out.cell (p := ⟨w.heap.size, 3 + j, none⟩) hl1, cell_of_row _ _ _ _ _ _ HX1.out]
               match j, hj with
               | 0, _ => rfl
               | 1, _ => rfl
               | 2, _ => rfl
               | 3, _ => rfl
               | 4, _ => rfl
               | 5, _ => rfl
               | 6, _ => rfl
               | 7, _ => rfl)
             clear hC hE3 hE2 hE1 hD1 hD2 hmem hAl hA0l hf8 hfj
             go_wp2_with fail
             clear hck
             refine wp_region_later (by kernel_rfl) (by kernel_rfl) ?_
             repeat (go_big_quiet_step ((first | (go_at_call 95; first | with_reducible exact Calls.later (HIT1.out _) | with_reducible exact Calls.later (HIT2.out _)))))
             refine wpQuiet_nil ?_
             rintro _ ⟨nq, rfl⟩
             have HBN := Lib.hid (nb_trans hB.out nq.below)
             go_wp2
             go_roundw
             case rel => exact ⟨k + 1, C, by omega, rfl, by go_num, HCC, HBN⟩
             case measure => simp [intOf]; omega)
      · obtain rfl : k = N := by omega
        have HE : Hid (A = rowLn r) := Lib.hid (by rw [hA.out, ← HN.out, List.take_length, rowLn, HA0.out, HKK.out])
        go_wp2
        go_ret
        have he := HE.out
        subst he
        exact ⟨rfl, nb_trans (nb_trans HB1.out HB2.out) hB.out⟩
end Go.Proofs.YtndhomjfjhohoaaGreatDoor

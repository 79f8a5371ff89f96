/- Columns contain the values of all rows, and rows agree with the columns: the statement TableColumns. No condition. -/
import Derived.Test.YtdlbljheobkfaaaOpen
import Derived.Test.YtdlbljheobkfaaaKeepTabled
import Derived.Test.YtdlbljheobkfaaaKeepFilled
import Derived.Test.YtdlbljheobkfaaaEq8
namespace Go.Proofs.Ytdlbljheobkfaaa
open Go.ChangeShapes Go.WideShapes Go.ChangeAt Go.RowKit
set_option linter.unusedVariables false

theorem fill_in {m : Int} {zs : List Int} {n i : Nat} (h : i < n) : rowR (fillL m zs n) i = (fillL m zs n).getD i rowZ ∧ rowE (fillL m zs n) i = 0 := rowR_in (by rw [fillL_len]; exact h)

set_option maxRecDepth 100000 in
set_option maxHeartbeats 8000000 in
theorem tableColumns_walk (a0 : Int) (i0 : I64 a0) (u1 : Value) (z1 : List Int)  (w : World) (i1 : Ints w u1 z1) :
    Calls Try.prog 4 #[.int .i64 a0, u1] w fun e w' => e = .returned (.bool true) ∧ Below w.heap.size w w' := by
  have HI1 := Lib.hid i1
  have hmm : 0 ≤ a0 % 256 ∧ a0 % 256 ≤ 255 := by omega
  obtain ⟨m0, m1⟩ := hmm
  clear i1 i0
  go_enter Try.func4, Try.ntmps4
  go_wp2_with fail
  refine (tabled_any _).mono ?_
  rintro e w1 ⟨rfl, hb1⟩
  have HB1 := Lib.hid hb1
  clear hb1
  go_wp2_with fail
  refine (filled_any a0 u1 z1 _ (HI1.out.later HB1.out)).mono ?_
  rintro e w2 ⟨p, u, rfl, F, hO, hOw, hap⟩
  have HMD : Hid (a0 % 256 = a0 % 256) := Lib.hid rfl
  generalize hm : a0 % 256 = m at *
  have HM := Lib.hid hm
  clear hm HMD
  have hn60 := cut60_le z1.length
  generalize cut60 z1.length = n at *
  have hlen : (fillL m z1 n).length = n := fillL_len _ _ _
  have hok := fillL_ok m0 m1 z1 n
  have hget := fun i (h : i < n) => fill_in (m := m) (zs := z1) h
  generalize fillL m z1 n = rows at *
  have HLEN := Lib.hid hlen
  have HOK := Lib.hid hok
  have HGET := Lib.hid hget
  have HO := Lib.hid hO
  have HB2 : Hid (Below w.heap.size w w2) := Lib.hid (nb_trans HB1.out hO.below)
  have HRU := Lib.hid hOw.reads
  obtain ⟨a, cap, rfl, hlc, hcm, hcells⟩ := hOw.reads
  rw [hlen] at hlc hcells ⊢
  have HCE := Lib.hid hcells
  clear hcells hO hOw hap hok hget hlen
  unfold maxLen at hcm
  go_wp2_with fail
  refine (tabHandles_any p F m rows _ HO.out.t (by rw [HLEN.out]; omega)).mono ?_
  rintro e w3 ⟨v3, rfl, ho3, hb3⟩
  have HB3 := Lib.hid hb3
  obtain ⟨a3, cap3, rfl, -⟩ := ho3.reads
  rw [hsOf_len, HLEN.out]
  clear ho3 hb3
  have hne : ((n : Int) != (n : Int)) = false := by simp
  go_wp2
  clear hne
  go_loopw [32] (fun i wr => ∃ k : Nat, k ≤ 8 ∧ i = .int .i64 k ∧ Hid (Below w2.heap.size w2 wr)) (fun i _ => 8 - (intOf i).toNat)
  case atStart => exact ⟨0, by omega, rfl, HB3⟩
  case round =>
    obtain ⟨k, hk, rfl, hB⟩ := hrel
    clear HB3
    by_cases hlt : k < 8
    · generalize wr = wz at *
      go_wp2_with fail
      refine (tabColumn_any p F m rows k _ (HO.out.t.later hB.out) (by rw [HLEN.out]; omega)).mono ?_
      rintro e w4 ⟨v4, rfl, ho4, hb4⟩
      have HB4 := Lib.hid (nb_trans hB.out hb4)
      cases ht : tb m k
      · have hE : colE m k = 5 := by rw [colE, show inB (k : Int) 0 7 = true by simp [inB]; omega, Int.toNat_natCast, ht]; rfl
        rw [hE]
        have HTB := Lib.hid ht
        clear ho4 hb4 ht hE
        go_wp2_with fail
        refine (rest_any _ _ _ (by omega) (by omega)).mono ?_
        rintro e w5 ⟨rfl, rfl⟩
        rw [HM.out]
        go_wp2_with fail
        refine (refHasKind_any _ _ _ (by omega) (by omega)).mono ?_
        rintro e w5 ⟨rfl, rfl⟩
        rw [Int.toNat_natCast, HTB.out]
        go_wp2
        go_roundw
        case rel => exact ⟨k + 1, by omega, by go_num, HB4⟩
        case measure => simp [intOf]; omega
      · have hE : colE m k = 0 := by rw [colE, show inB (k : Int) 0 7 = true by simp [inB]; omega, Int.toNat_natCast, ht]; rfl
        have hL : colL m rows k = colOf rows k := by rw [colL, if_pos hE, Int.toNat_natCast]
        rw [hE]
        rw [hL] at ho4
        obtain ⟨a4, cap4, rfl, hlc4, hcm4, hcells4⟩ := ho4.reads
        rw [colOf_len, HLEN.out] at hlc4 hcells4 ⊢
        have HCE4 := Lib.hid hcells4
        have HW4 : Hid (w4.heap.size = w4.heap.size) := Lib.hid rfl
        clear ho4 hb4 ht hE hL hcells4
        unfold maxLen at hcm4
        go_wp2
        go_loopw [53] (fun i wx => ∃ t : Nat, t ≤ n ∧ i = .int .i64 t ∧ Hid (Below w4.heap.size w4 wx)) (fun i _ => n - (intOf i).toNat)
        case atStart => exact ⟨0, by omega, rfl, Below.refl _ _⟩
        case round =>
          obtain ⟨t, htn, rfl, hBx⟩ := hrel
          by_cases hlt2 : t < n
          · obtain ⟨b, off, rfl, hbl, hc⟩ := HCE.out t hlt2
            obtain ⟨b4, off4, rfl, hbl4, hc4⟩ := HCE4.out t hlt2
            have HBX : Hid (Below w2.heap.size w2 wr) := Lib.hid (nb_trans HB4.out hBx.out)
            obtain ⟨hr, he⟩ := HGET.out t hlt2
            have hck : ∀ j, j < 11 → wr.cell? ⟨b, off + t * 11 + j, none⟩ = (elRow.enc (rows.getD t rowZ))[j]? := fun j hj => by rw [HBX.out.cell (p := ⟨b, _, none⟩) hbl]; exact hc j hj
            have hcv : wr.cell? ⟨b4, off4 + t, none⟩ = some (.int .i64 ((rows.getD t rowZ).f k)) := by
              rw [hBx.out.cell (p := ⟨b4, _, none⟩) hbl4]
              have h0 := hc4 0 (by decide)
              rw [show (colOf rows k).getD t elInt.zero = (rows.getD t rowZ).f k from getD_map _ _ _ rowZ _ (by rw [HLEN.out]; exact hlt2)] at h0
              simpa [elInt] using h0
            generalize rows.getD t rowZ = r at *
            have c0' : wr.cell? ⟨b, off + t * 11, none⟩ = some (.int .i64 r.s) := hck 0 (by decide)
            have c1' : wr.cell? ⟨b, off + t * 11 + 1, none⟩ = some (.int .i64 r.g) := hck 1 (by decide)
            have c2' : wr.cell? ⟨b, off + t * 11 + 2, none⟩ = some (.int .i64 r.m) := hck 2 (by decide)
            have c3' : wr.cell? ⟨b, off + t * 11 + 3, none⟩ = some (.int .i64 (r.f 0)) := hck 3 (by decide)
            have c4' : wr.cell? ⟨b, off + t * 11 + 4, none⟩ = some (.int .i64 (r.f 1)) := hck 4 (by decide)
            have c5' : wr.cell? ⟨b, off + t * 11 + 5, none⟩ = some (.int .i64 (r.f 2)) := hck 5 (by decide)
            have c6' : wr.cell? ⟨b, off + t * 11 + 6, none⟩ = some (.int .i64 (r.f 3)) := hck 6 (by decide)
            have c7' : wr.cell? ⟨b, off + t * 11 + 7, none⟩ = some (.int .i64 (r.f 4)) := hck 7 (by decide)
            have c8' : wr.cell? ⟨b, off + t * 11 + 8, none⟩ = some (.int .i64 (r.f 5)) := hck 8 (by decide)
            have c9' : wr.cell? ⟨b, off + t * 11 + 9, none⟩ = some (.int .i64 (r.f 6)) := hck 9 (by decide)
            have c10' : wr.cell? ⟨b, off + t * 11 + 10, none⟩ = some (.int .i64 (r.f 7)) := hck 10 (by decide)
            have hbw : b < wr.heap.size := Nat.lt_of_lt_of_le hbl HBX.out.size
            have hbw4 : b4 < wr.heap.size := Nat.lt_of_lt_of_le hbl4 hBx.out.size
            have HR := Lib.hid hr
            have HE := Lib.hid he
            clear hck hc hc4 hr he
            go_wp2_with fail
            clear c0' c1' c2' c3' c4' c5' c6' c7' c8' c9' c10'
            have HBA := Lib.hid (nb_alloc HBX.out (.cells #[.int .i64 r.s, .int .i64 r.g, .int .i64 r.m, .int .i64 (r.f 0), .int .i64 (r.f 1), .int .i64 (r.f 2), .int .i64 (r.f 3), .int .i64 (r.f 4), .int .i64 (r.f 5), .int .i64 (r.f 6), .int .i64 (r.f 7)] 41))
            refine (tabRow_any p F m rows t r 0 _ (HO.out.t.later HBA.out) HOK.out HR.out HE.out).mono ?_
            rintro e w6 ⟨rfl, hb6⟩
            have hA6 : (w6.alloc (.cells #[.int .i64 r.s, .int .i64 r.g, .int .i64 r.m, .int .i64 (r.f 0), .int .i64 (r.f 1), .int .i64 (r.f 2), .int .i64 (r.f 3), .int .i64 (r.f 4), .int .i64 (r.f 5), .int .i64 (r.f 6), .int .i64 (r.f 7)] 41)).heap[wr.heap.size]? = some (.cells #[.int .i64 r.s, .int .i64 r.g, .int .i64 r.m, .int .i64 (r.f 0), .int .i64 (r.f 1), .int .i64 (r.f 2), .int .i64 (r.f 3), .int .i64 (r.f 4), .int .i64 (r.f 5), .int .i64 (r.f 6), .int .i64 (r.f 7)] 41) := by rw [Below.heap_alloc _ _ _ (by have := hb6.size; simp at this; omega), hb6.block _ (by simp)]; exact heap_alloc_new wr _
            have hC6 : (w6.alloc (.cells #[.int .i64 r.s, .int .i64 r.g, .int .i64 r.m, .int .i64 (r.f 0), .int .i64 (r.f 1), .int .i64 (r.f 2), .int .i64 (r.f 3), .int .i64 (r.f 4), .int .i64 (r.f 5), .int .i64 (r.f 6), .int .i64 (r.f 7)] 41)).heap[w6.heap.size]? = some (.cells #[.int .i64 r.s, .int .i64 r.g, .int .i64 r.m, .int .i64 (r.f 0), .int .i64 (r.f 1), .int .i64 (r.f 2), .int .i64 (r.f 3), .int .i64 (r.f 4), .int .i64 (r.f 5), .int .i64 (r.f 6), .int .i64 (r.f 7)] 41) := heap_alloc_new w6 _
            have hB6 : Below wr.heap.size wr (w6.alloc (.cells #[.int .i64 r.s, .int .i64 r.g, .int .i64 r.m, .int .i64 (r.f 0), .int .i64 (r.f 1), .int .i64 (r.f 2), .int .i64 (r.f 3), .int .i64 (r.f 4), .int .i64 (r.f 5), .int .i64 (r.f 6), .int .i64 (r.f 7)] 41)) := nb_alloc (nb_trans (nb_alloc (Below.refl _ _) _) hb6) _
            have hv6 : (w6.alloc (.cells #[.int .i64 r.s, .int .i64 r.g, .int .i64 r.m, .int .i64 (r.f 0), .int .i64 (r.f 1), .int .i64 (r.f 2), .int .i64 (r.f 3), .int .i64 (r.f 4), .int .i64 (r.f 5), .int .i64 (r.f 6), .int .i64 (r.f 7)] 41)).cell? ⟨b4, off4 + t, none⟩ = some (.int .i64 (r.f k)) := by rw [hB6.cell (p := ⟨b4, _, none⟩) hbw4]; exact hcv
            have hw6 : (w6.alloc (.cells #[.int .i64 r.s, .int .i64 r.g, .int .i64 r.m, .int .i64 (r.f 0), .int .i64 (r.f 1), .int .i64 (r.f 2), .int .i64 (r.f 3), .int .i64 (r.f 4), .int .i64 (r.f 5), .int .i64 (r.f 6), .int .i64 (r.f 7)] 41)).cell? ⟨wr.heap.size, 3 + k, none⟩ = some (.int .i64 (r.f k)) := by rw [cell_of_row _ _ _ _ _ _ hA6]; exact rowc_at r k hlt
            have HB6 := Lib.hid (nb_trans hBx.out hB6)
            clear hcv hb6 hB6
            go_wp2_with fail
            generalize w6.alloc (.cells #[.int .i64 r.s, .int .i64 r.g, .int .i64 r.m, .int .i64 (r.f 0), .int .i64 (r.f 1), .int .i64 (r.f 2), .int .i64 (r.f 3), .int .i64 (r.f 4), .int .i64 (r.f 5), .int .i64 (r.f 6), .int .i64 (r.f 7)] 41) = W at *
            have lv : ∀ x : Later W, x.w.cell? ⟨b4, off4 + t, none⟩ = some (.int .i64 (r.f k)) := fun x => x.cell hv6
            have lw : ∀ x : Later W, x.w.cell? ⟨wr.heap.size, 3 + k, none⟩ = some (.int .i64 (r.f k)) := fun x => x.cell hw6
            have p0 : ∀ x : Later W, x.w.cell? ⟨wr.heap.size, 0, none⟩ = some (.int .i64 r.s) := fun x => x.cell (by rw [cell_of_row _ _ _ _ _ _ hA6]; rfl)
            have p1 : ∀ x : Later W, x.w.cell? ⟨wr.heap.size, 1, none⟩ = some (.int .i64 r.g) := fun x => x.cell (by rw [cell_of_row _ _ _ _ _ _ hA6]; rfl)
            have p2 : ∀ x : Later W, x.w.cell? ⟨wr.heap.size, 2, none⟩ = some (.int .i64 r.m) := fun x => x.cell (by rw [cell_of_row _ _ _ _ _ _ hA6]; rfl)
            have p3 : ∀ x : Later W, x.w.cell? ⟨wr.heap.size, 3, none⟩ = some (.int .i64 (r.f 0)) := fun x => x.cell (by rw [cell_of_row _ _ _ _ _ _ hA6]; rfl)
            have p4 : ∀ x : Later W, x.w.cell? ⟨wr.heap.size, 4, none⟩ = some (.int .i64 (r.f 1)) := fun x => x.cell (by rw [cell_of_row _ _ _ _ _ _ hA6]; rfl)
            have p5 : ∀ x : Later W, x.w.cell? ⟨wr.heap.size, 5, none⟩ = some (.int .i64 (r.f 2)) := fun x => x.cell (by rw [cell_of_row _ _ _ _ _ _ hA6]; rfl)
            have p6 : ∀ x : Later W, x.w.cell? ⟨wr.heap.size, 6, none⟩ = some (.int .i64 (r.f 3)) := fun x => x.cell (by rw [cell_of_row _ _ _ _ _ _ hA6]; rfl)
            have p7 : ∀ x : Later W, x.w.cell? ⟨wr.heap.size, 7, none⟩ = some (.int .i64 (r.f 4)) := fun x => x.cell (by rw [cell_of_row _ _ _ _ _ _ hA6]; rfl)
            have p8 : ∀ x : Later W, x.w.cell? ⟨wr.heap.size, 8, none⟩ = some (.int .i64 (r.f 5)) := fun x => x.cell (by rw [cell_of_row _ _ _ _ _ _ hA6]; rfl)
            have p9 : ∀ x : Later W, x.w.cell? ⟨wr.heap.size, 9, none⟩ = some (.int .i64 (r.f 6)) := fun x => x.cell (by rw [cell_of_row _ _ _ _ _ _ hA6]; rfl)
            have p10 : ∀ x : Later W, x.w.cell? ⟨wr.heap.size, 10, none⟩ = some (.int .i64 (r.f 7)) := fun x => x.cell (by rw [cell_of_row _ _ _ _ _ _ hA6]; rfl)
            have q0 : ∀ x : Later W, x.w.cell? ⟨w6.heap.size, 0, none⟩ = some (.int .i64 r.s) := fun x => x.cell (by rw [cell_of_row _ _ _ _ _ _ hC6]; rfl)
            have q1 : ∀ x : Later W, x.w.cell? ⟨w6.heap.size, 1, none⟩ = some (.int .i64 r.g) := fun x => x.cell (by rw [cell_of_row _ _ _ _ _ _ hC6]; rfl)
            have q2 : ∀ x : Later W, x.w.cell? ⟨w6.heap.size, 2, none⟩ = some (.int .i64 r.m) := fun x => x.cell (by rw [cell_of_row _ _ _ _ _ _ hC6]; rfl)
            have q3 : ∀ x : Later W, x.w.cell? ⟨w6.heap.size, 3, none⟩ = some (.int .i64 (r.f 0)) := fun x => x.cell (by rw [cell_of_row _ _ _ _ _ _ hC6]; rfl)
            have q4 : ∀ x : Later W, x.w.cell? ⟨w6.heap.size, 4, none⟩ = some (.int .i64 (r.f 1)) := fun x => x.cell (by rw [cell_of_row _ _ _ _ _ _ hC6]; rfl)
            have q5 : ∀ x : Later W, x.w.cell? ⟨w6.heap.size, 5, none⟩ = some (.int .i64 (r.f 2)) := fun x => x.cell (by rw [cell_of_row _ _ _ _ _ _ hC6]; rfl)
            have q6 : ∀ x : Later W, x.w.cell? ⟨w6.heap.size, 6, none⟩ = some (.int .i64 (r.f 3)) := fun x => x.cell (by rw [cell_of_row _ _ _ _ _ _ hC6]; rfl)
            have q7 : ∀ x : Later W, x.w.cell? ⟨w6.heap.size, 7, none⟩ = some (.int .i64 (r.f 4)) := fun x => x.cell (by rw [cell_of_row _ _ _ _ _ _ hC6]; rfl)
            have q8 : ∀ x : Later W, x.w.cell? ⟨w6.heap.size, 8, none⟩ = some (.int .i64 (r.f 5)) := fun x => x.cell (by rw [cell_of_row _ _ _ _ _ _ hC6]; rfl)
            have q9 : ∀ x : Later W, x.w.cell? ⟨w6.heap.size, 9, none⟩ = some (.int .i64 (r.f 6)) := fun x => x.cell (by rw [cell_of_row _ _ _ _ _ _ hC6]; rfl)
            have q10 : ∀ x : Later W, x.w.cell? ⟨w6.heap.size, 10, none⟩ = some (.int .i64 (r.f 7)) := fun x => x.cell (by rw [cell_of_row _ _ _ _ _ _ hC6]; rfl)
            have hne1 : ((n : Int) != (n : Int)) = false := by simp
            have hne2 : (r.f k != r.f k) = false := by simp
            have heq8 := eq8_run r.f
            clear hv6 hw6 hA6 hC6
            refine wp_region_later (by kernel_rfl) (by kernel_rfl) ?_
            repeat (go_big_quiet_step (fail))
            refine wpQuiet_nil ?_
            rintro _ ⟨nq, rfl⟩
            have HBN := Lib.hid (nb_trans HB6.out nq.below)
            go_wp2
            go_roundw
            case rel => exact ⟨t + 1, by omega, by go_num, HBN⟩
            case measure => simp [intOf]; omega
          · obtain rfl : t = n := by omega
            have HBN := Lib.hid (nb_trans HB4.out hBx.out)
            go_wp2
            go_roundw
            case rel => exact ⟨k + 1, by omega, by go_num, HBN⟩
            case measure => simp [intOf]; omega
    · obtain rfl : k = 8 := by omega
      go_wp2
      go_ret
      exact ⟨rfl, nb_trans HB2.out hB.out⟩

namespace tableColumns
theorem own : ownKnob Try.prog.godebug = none := by kernel_rfl
theorem laidOut : laidOutB Try.prog = true := by kernel_rfl

set_option maxRecDepth 100000 in
theorem lifted (os : Os) (started : os.Started) (H : Type) (enc : TypeId × Value → H) :
    ReturnsInHanded {} Try.checked os 4 .any (Rows.tableColumnsSpec.pre6 enc Try.prog Try.f4 Rows.tableColumnsRow.domain false) (Rows.tableColumnsSpec.post enc Try.prog Try.f4 false true false false) := by
  refine returnsInHanded_of_change (C := Try.checked) own started (by kernel_rfl) Try.func4
    (ChangeSpec.witness6 (enc := enc) (C := Try.checked) false ⟨#[], #[.int .i64 0, .slice none 0 0], []⟩ 8 (by kernel_rfl) (by kernel_rfl) (by kernel_rfl) (by kernel_rfl)) ?_
  intro W base args ds gs before hval0 hW hcnd _
  have hval : ∀ (j : Nat) t v, Try.f4.params[j]? = some t → args[j]? = some v → Value.okWide Try.prog W .any base t v := hval0
  have hW' := hW
  obtain ⟨p, q, hA0, hV, rfl, hfz, hnd⟩ := hW
  have hA : DataW.TrodAll enc Try.prog W 0 (fun _ => true) true Try.f4.params.toList args.toList ds p := hA0
  rw [Try.params4] at hA hval
  obtain ⟨v0, vs0, d0, ds0, p0, q0, hargs, rfl, rfl, h0, r0⟩ := trodAll_cons hA
  obtain ⟨v1, vs1, d1, ds1, p1, q1, rfl, rfl, rfl, h1, r1⟩ := trodAll_cons r0
  obtain ⟨rfl, rfl, rfl⟩ := trodAll_nil r1
  obtain rfl : args = #[v0, v1] := by cases args; simp_all
  obtain ⟨rfl, rfl⟩ := trodVars_none hV
  have k0' := h0
  have lt0 : ∀ x ∈ p0, x.block < W.heap.size := by obtain ⟨m, hm⟩ := h0; exact DataW.trod_lt m _ _ _ hm
  have k1' := h1
  have lt1 : ∀ x ∈ p1, x.block < W.heap.size := by obtain ⟨m, hm⟩ := h1; exact DataW.trod_lt m _ _ _ hm
  obtain ⟨a0, rfl, i0⟩ : ∃ a : Int, v0 = .int .i64 a ∧ I64 a := by
    obtain ⟨a, rfl, _, _, wa⟩ := open_int Try.underlying3 (hval 0 3 v0 rfl rfl) h0
    exact ⟨a, rfl, I64_of wa⟩
  obtain ⟨z1, i1⟩ : ∃ zs, Ints W v1 zs := by
    obtain ⟨a0, len0, cap0, rfl⟩ := okWide_slice Try.underlying45 (hval 1 45 v1 rfl rfl)
    exact Ints_of Try.underlying45 Try.underlying3 (by kernel_rfl) h1
  clear hA0 hval0
  refine (tableColumns_walk a0 i0 v1 z1 W i1).mono fun e W' ⟨he, bel⟩ => ?_
  subst he
  exact ⟨_, rfl, _, _, _, [], _, [], hW', trodAll_mk1 (shut_bool Try.underlying4 _), (trodAll_cons_mk (Below.trod laidOut (by kernel_rfl) (of_decide_eq_true (by kernel_rfl)) k0' bel lt0) (trodAll_cons_mk (Below.trod laidOut (by kernel_rfl) (of_decide_eq_true (by kernel_rfl)) k1' bel lt1) trodAll_mk0)), rfl, bel.frame _, fun h => by cases h⟩
end tableColumns

theorem tableColumns_proved : Rows.TableColumnsSaid :=
  OpenClaim.holds_of_wide 4 Try.f4 rfl rfl rfl rfl rfl rfl rfl ⟨rfl, rfl, rfl, rfl, rfl⟩ rfl rfl rfl rfl rfl (by kernel_rfl) Try.func4 (by kernel_rfl)
    (of_decide_eq_true (by kernel_rfl)) (by unfold Func.isWrapper; first | (rw [if_pos (by decide +kernel)]; kernel_rfl) | (rw [if_neg (by decide +kernel)]; exact ⟨rfl, rfl⟩))
    (fun os started H enc _ => tableColumns.lifted os started H enc)

end Go.Proofs.Ytdlbljheobkfaaa

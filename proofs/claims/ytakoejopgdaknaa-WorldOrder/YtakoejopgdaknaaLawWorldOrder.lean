/- Rows are in order of increasing slots, and agree with Get: the statement WorldOrder. No condition. -/
import Derived.Test.YtakoejopgdaknaaGroundA
import Derived.Test.YtakoejopgdaknaaKeepWorld
import Derived.Test.YtakoejopgdaknaaKeepLived
import Derived.Test.YtakoejopgdaknaaRowFacts
namespace Go.Proofs.Ytakoejopgdaknaa
set_option maxRecDepth 8000
open Go.ChangeShapes Go.WideShapes Go.ChangeAt Go.RowKit
set_option linter.unusedVariables false

set_option maxRecDepth 100000 in
set_option maxHeartbeats 8000000 in
theorem worldOrder_walk (u0 : Value) (z0 : List Opm) (j0 : ∀ x ∈ z0, OpOk x) (w : World) (i0 : Reads elOp w u0 z0) :
    Calls Try.prog 8 #[u0] w fun e w' => e = .returned (.bool true) ∧ Below w.heap.size w w' := by
  have HI := Lib.hid i0
  have HJ := Lib.hid j0
  clear i0 j0
  go_enter Try.func8, Try.ntmps8
  go_wp2_with fail
  refine (lived_any _).mono ?_
  rintro e w1 ⟨rfl, hb1⟩
  have HB1 := Lib.hid hb1
  clear hb1
  go_wp2_with fail
  refine (made_any u0 z0 _ (HI.out.later HB1.out) HJ.out).mono ?_
  rintro e w2 ⟨p, F, rfl, h2, hF, hb2⟩
  have hok := WOk.made z0
  generalize (madeW z0).1 = l at *
  generalize (madeW z0).2 = rows at *
  have HW := Lib.hid h2
  have HOK := Lib.hid hok
  have HB2 : Hid (Below w.heap.size w w2) := Lib.hid (nb_trans HB1.out hb2)
  clear h2 hok hF hb2
  go_wp2_with fail
  refine (keepAll_any p F l rows _ HW.out HOK.out).mono ?_
  rintro e w3 ⟨v3, rfl, ho3, hb3⟩
  have HB3 := Lib.hid hb3
  have hr3 := ho3.reads
  clear ho3 hb3
  go_wp2_with fail
  refine (worldGens_any p F l _ _ (HW.out.later HB3.out) HOK.out.slots).mono ?_
  rintro e w4 ⟨v4, rfl, ho4, hb4⟩
  have HB4 : Hid (Below w2.heap.size w2 w4) := Lib.hid (nb_trans HB3.out hb4)
  have hr4 := ho4.reads
  replace hr3 := hr3.later hb4
  clear ho4 hb4
  obtain ⟨hm3, hx3⟩ := hr3.open
  obtain ⟨hm4, hx4⟩ := hr4.open
  rw [gensL_lenR] at hm4 hx4
  unfold maxLen at hm3 hm4
  have hr60 := HOK.out.len60
  have hl60 := HOK.out.slots.len
  have hrl := HOK.out.len
  generalize hn : rows.length = n at *
  generalize hnl : l.length = nl at *
  have HN := Lib.hid hn
  have HNL := Lib.hid hnl
  clear hn hnl hr3 hr4
  rcases hx3 with ⟨a, cap, rfl, hz⟩ | ⟨b, off, cap, rfl, hb, hlc, hcm, hc⟩ <;> rcases hx4 with ⟨a', cap', rfl, hz'⟩ | ⟨b', off', cap', rfl, hb', hlc', hcm', hc'⟩
  all_goals
    go_wp2
    go_loopw [22] (fun i wr => ∃ t : Nat, t ≤ n ∧ i = .int .i64 t ∧ Hid (Below w4.heap.size w4 wr)) (fun i _ => n - (intOf i).toNat)
    case atStart => exact ⟨0, by omega, rfl, Below.refl _ _⟩
    case round =>
      obtain ⟨t, htn, rfl, hB⟩ := hrel
      by_cases hlt : t < n
      · first
          | omega
          | (have hri : RowIs l rows t (rows.getD t rowZ) := HOK.out.rowIs (by rw [HN.out]; exact hlt) rfl
             have hcr : ∀ jj, jj < 11 → wr.cell? ⟨b, off + t * 11 + jj, none⟩ = (elRow.enc (rows.getD t rowZ))[jj]? := fun jj hjj => by rw [hB.out.cell (p := ⟨b, _, none⟩) hb]; exact hc t hlt jj hjj
             have HUP : Hid (∀ s, t = s + 1 → (rows.getD s rowZ).s < (rows.getD t rowZ).s) := Lib.hid (fun s e => by rw [e]; exact HOK.out.upAt (by rw [HN.out]; omega))
             generalize rows.getD t rowZ = r at *
             obtain ⟨rs, rg, rm, rf⟩ := r
             obtain ⟨j, hj⟩ := Int.eq_ofNat_of_zero_le hri.s0
             simp only at hj
             subst hj
             have hjl : j < nl := by have := hri.sl; rw [HNL.out] at this; simp at this; omega
             have hjg : w4.cell? ⟨b', off' + j, none⟩ = some (.int .i64 rg) := by
               have := cells1 rfl hc' hjl
               rw [show elInt.zero = 0 from rfl, gensL_atR] at this
               have hg := hri.g
               simp only [Int.toNat_natCast] at hg
               rw [hg] at this
               exact this
             have HRI := Lib.hid hri
             have c0 : wr.cell? ⟨b, off + t * 11, none⟩ = some (.int .i64 (⟨j, rg, rm, rf⟩ : Rw).s) := hcr 0 (by decide)
             have c1 : wr.cell? ⟨b, off + t * 11 + 1, none⟩ = some (.int .i64 (⟨j, rg, rm, rf⟩ : Rw).g) := hcr 1 (by decide)
             have c2 : wr.cell? ⟨b, off + t * 11 + 2, none⟩ = some (.int .i64 (⟨j, rg, rm, rf⟩ : Rw).m) := hcr 2 (by decide)
             have c3 : wr.cell? ⟨b, off + t * 11 + 3, none⟩ = some (.int .i64 ((⟨j, rg, rm, rf⟩ : Rw).f 0)) := hcr 3 (by decide)
             have c4 : wr.cell? ⟨b, off + t * 11 + 4, none⟩ = some (.int .i64 ((⟨j, rg, rm, rf⟩ : Rw).f 1)) := hcr 4 (by decide)
             have c5 : wr.cell? ⟨b, off + t * 11 + 5, none⟩ = some (.int .i64 ((⟨j, rg, rm, rf⟩ : Rw).f 2)) := hcr 5 (by decide)
             have c6 : wr.cell? ⟨b, off + t * 11 + 6, none⟩ = some (.int .i64 ((⟨j, rg, rm, rf⟩ : Rw).f 3)) := hcr 6 (by decide)
             have c7 : wr.cell? ⟨b, off + t * 11 + 7, none⟩ = some (.int .i64 ((⟨j, rg, rm, rf⟩ : Rw).f 4)) := hcr 7 (by decide)
             have c8 : wr.cell? ⟨b, off + t * 11 + 8, none⟩ = some (.int .i64 ((⟨j, rg, rm, rf⟩ : Rw).f 5)) := hcr 8 (by decide)
             have c9 : wr.cell? ⟨b, off + t * 11 + 9, none⟩ = some (.int .i64 ((⟨j, rg, rm, rf⟩ : Rw).f 6)) := hcr 9 (by decide)
             have c10 : wr.cell? ⟨b, off + t * 11 + 10, none⟩ = some (.int .i64 ((⟨j, rg, rm, rf⟩ : Rw).f 7)) := hcr 10 (by decide)
             simp only at c0 c1 c2 c3 c4 c5 c6 c7 c8 c9 c10
             have hbw : b < wr.heap.size := Nat.lt_of_lt_of_le hb hB.out.size
             clear hcr hri
             go_wp2_with fail
             have HBA := Lib.hid (nb_alloc hB.out (.cells #[.int .i64 (⟨j, rg, rm, rf⟩ : Rw).s, .int .i64 (⟨j, rg, rm, rf⟩ : Rw).g, .int .i64 (⟨j, rg, rm, rf⟩ : Rw).m, .int .i64 ((⟨j, rg, rm, rf⟩ : Rw).f 0), .int .i64 ((⟨j, rg, rm, rf⟩ : Rw).f 1), .int .i64 ((⟨j, rg, rm, rf⟩ : Rw).f 2), .int .i64 ((⟨j, rg, rm, rf⟩ : Rw).f 3), .int .i64 ((⟨j, rg, rm, rf⟩ : Rw).f 4), .int .i64 ((⟨j, rg, rm, rf⟩ : Rw).f 5), .int .i64 ((⟨j, rg, rm, rf⟩ : Rw).f 6), .int .i64 ((⟨j, rg, rm, rf⟩ : Rw).f 7)] 55))
             refine (worldGet_any p F l rows j rg ⟨j, rg, rm, rf⟩ 0 _ (HW.out.later (nb_trans HB4.out HBA.out)) HRI.out.is HRI.out.ig HRI.out.getR HRI.out.getE).mono ?_
             rintro e w6 ⟨rfl, hb6⟩
             have hA6 : (w6.alloc (.cells #[.int .i64 rm, .int .i64 (rf 0), .int .i64 (rf 1), .int .i64 (rf 2), .int .i64 (rf 3), .int .i64 (rf 4), .int .i64 (rf 5), .int .i64 (rf 6), .int .i64 (rf 7)] 36)).heap[wr.heap.size]? = some (.cells #[.int .i64 (⟨j, rg, rm, rf⟩ : Rw).s, .int .i64 (⟨j, rg, rm, rf⟩ : Rw).g, .int .i64 (⟨j, rg, rm, rf⟩ : Rw).m, .int .i64 ((⟨j, rg, rm, rf⟩ : Rw).f 0), .int .i64 ((⟨j, rg, rm, rf⟩ : Rw).f 1), .int .i64 ((⟨j, rg, rm, rf⟩ : Rw).f 2), .int .i64 ((⟨j, rg, rm, rf⟩ : Rw).f 3), .int .i64 ((⟨j, rg, rm, rf⟩ : Rw).f 4), .int .i64 ((⟨j, rg, rm, rf⟩ : Rw).f 5), .int .i64 ((⟨j, rg, rm, rf⟩ : Rw).f 6), .int .i64 ((⟨j, rg, rm, rf⟩ : Rw).f 7)] 55) := by rw [Below.heap_alloc _ _ _ (by have := hb6.size; simp at this; omega), hb6.block _ (by simp)]; exact heap_alloc_new wr _
             have hC6 : (w6.alloc (.cells #[.int .i64 rm, .int .i64 (rf 0), .int .i64 (rf 1), .int .i64 (rf 2), .int .i64 (rf 3), .int .i64 (rf 4), .int .i64 (rf 5), .int .i64 (rf 6), .int .i64 (rf 7)] 36)).heap[w6.heap.size]? = some (.cells #[.int .i64 rm, .int .i64 (rf 0), .int .i64 (rf 1), .int .i64 (rf 2), .int .i64 (rf 3), .int .i64 (rf 4), .int .i64 (rf 5), .int .i64 (rf 6), .int .i64 (rf 7)] 36) := heap_alloc_new w6 _
             have hB6 : Below w4.heap.size w4 (w6.alloc (.cells #[.int .i64 rm, .int .i64 (rf 0), .int .i64 (rf 1), .int .i64 (rf 2), .int .i64 (rf 3), .int .i64 (rf 4), .int .i64 (rf 5), .int .i64 (rf 6), .int .i64 (rf 7)] 36)) := nb_alloc (nb_trans HBA.out hb6) _
             have hD6 : wr.heap.size < w6.heap.size := by have := hb6.size; simp at this; omega
             have HB6 := Lib.hid hB6
             clear hb6 hB6 c0 c1 c2 c3 c4 c5 c6 c7 c8 c9 c10
             go_wp2_with fail
             have hW4 : w4.heap.size ≤ wr.heap.size := hB.out.size
             generalize w6.alloc (.cells #[.int .i64 rm, .int .i64 (rf 0), .int .i64 (rf 1), .int .i64 (rf 2), .int .i64 (rf 3), .int .i64 (rf 4), .int .i64 (rf 5), .int .i64 (rf 6), .int .i64 (rf 7)] 36) = W at *
             have hla : wr.heap.size < W.heap.size := (Array.getElem?_eq_some_iff.1 hA6).1
             have hlb : w6.heap.size < W.heap.size := (Array.getElem?_eq_some_iff.1 hC6).1
             have p0 : ∀ x : Later W, x.w.cell? ⟨wr.heap.size, 0, none⟩ = some (.int .i64 (⟨j, rg, rm, rf⟩ : Rw).s) := fun x => x.cell (by rw [cell_of_row _ _ _ _ _ _ hA6]; rfl)
             have p1 : ∀ x : Later W, x.w.cell? ⟨wr.heap.size, 1, none⟩ = some (.int .i64 (⟨j, rg, rm, rf⟩ : Rw).g) := fun x => x.cell (by rw [cell_of_row _ _ _ _ _ _ hA6]; rfl)
             have p2 : ∀ x : Later W, x.w.cell? ⟨wr.heap.size, 2, none⟩ = some (.int .i64 (⟨j, rg, rm, rf⟩ : Rw).m) := fun x => x.cell (by rw [cell_of_row _ _ _ _ _ _ hA6]; rfl)
             have p3 : ∀ x : Later W, x.w.cell? ⟨wr.heap.size, 3, none⟩ = some (.int .i64 ((⟨j, rg, rm, rf⟩ : Rw).f 0)) := fun x => x.cell (by rw [cell_of_row _ _ _ _ _ _ hA6]; rfl)
             have p4 : ∀ x : Later W, x.w.cell? ⟨wr.heap.size, 4, none⟩ = some (.int .i64 ((⟨j, rg, rm, rf⟩ : Rw).f 1)) := fun x => x.cell (by rw [cell_of_row _ _ _ _ _ _ hA6]; rfl)
             have p5 : ∀ x : Later W, x.w.cell? ⟨wr.heap.size, 5, none⟩ = some (.int .i64 ((⟨j, rg, rm, rf⟩ : Rw).f 2)) := fun x => x.cell (by rw [cell_of_row _ _ _ _ _ _ hA6]; rfl)
             have p6 : ∀ x : Later W, x.w.cell? ⟨wr.heap.size, 6, none⟩ = some (.int .i64 ((⟨j, rg, rm, rf⟩ : Rw).f 3)) := fun x => x.cell (by rw [cell_of_row _ _ _ _ _ _ hA6]; rfl)
             have p7 : ∀ x : Later W, x.w.cell? ⟨wr.heap.size, 7, none⟩ = some (.int .i64 ((⟨j, rg, rm, rf⟩ : Rw).f 4)) := fun x => x.cell (by rw [cell_of_row _ _ _ _ _ _ hA6]; rfl)
             have p8 : ∀ x : Later W, x.w.cell? ⟨wr.heap.size, 8, none⟩ = some (.int .i64 ((⟨j, rg, rm, rf⟩ : Rw).f 5)) := fun x => x.cell (by rw [cell_of_row _ _ _ _ _ _ hA6]; rfl)
             have p9 : ∀ x : Later W, x.w.cell? ⟨wr.heap.size, 9, none⟩ = some (.int .i64 ((⟨j, rg, rm, rf⟩ : Rw).f 6)) := fun x => x.cell (by rw [cell_of_row _ _ _ _ _ _ hA6]; rfl)
             have p10 : ∀ x : Later W, x.w.cell? ⟨wr.heap.size, 10, none⟩ = some (.int .i64 ((⟨j, rg, rm, rf⟩ : Rw).f 7)) := fun x => x.cell (by rw [cell_of_row _ _ _ _ _ _ hA6]; rfl)
             have q0 : ∀ x : Later W, x.w.cell? ⟨w6.heap.size, 0, none⟩ = some (.int .i64 rm) := fun x => x.cell (by rw [cell_of_row _ _ _ _ _ _ hC6]; rfl)
             have q1 : ∀ x : Later W, x.w.cell? ⟨w6.heap.size, 1, none⟩ = some (.int .i64 (rf 0)) := fun x => x.cell (by rw [cell_of_row _ _ _ _ _ _ hC6]; rfl)
             have q2 : ∀ x : Later W, x.w.cell? ⟨w6.heap.size, 2, none⟩ = some (.int .i64 (rf 1)) := fun x => x.cell (by rw [cell_of_row _ _ _ _ _ _ hC6]; rfl)
             have q3 : ∀ x : Later W, x.w.cell? ⟨w6.heap.size, 3, none⟩ = some (.int .i64 (rf 2)) := fun x => x.cell (by rw [cell_of_row _ _ _ _ _ _ hC6]; rfl)
             have q4 : ∀ x : Later W, x.w.cell? ⟨w6.heap.size, 4, none⟩ = some (.int .i64 (rf 3)) := fun x => x.cell (by rw [cell_of_row _ _ _ _ _ _ hC6]; rfl)
             have q5 : ∀ x : Later W, x.w.cell? ⟨w6.heap.size, 5, none⟩ = some (.int .i64 (rf 4)) := fun x => x.cell (by rw [cell_of_row _ _ _ _ _ _ hC6]; rfl)
             have q6 : ∀ x : Later W, x.w.cell? ⟨w6.heap.size, 6, none⟩ = some (.int .i64 (rf 5)) := fun x => x.cell (by rw [cell_of_row _ _ _ _ _ _ hC6]; rfl)
             have q7 : ∀ x : Later W, x.w.cell? ⟨w6.heap.size, 7, none⟩ = some (.int .i64 (rf 6)) := fun x => x.cell (by rw [cell_of_row _ _ _ _ _ _ hC6]; rfl)
             have q8 : ∀ x : Later W, x.w.cell? ⟨w6.heap.size, 8, none⟩ = some (.int .i64 (rf 7)) := fun x => x.cell (by rw [cell_of_row _ _ _ _ _ _ hC6]; rfl)
             simp only at p0 p1 p2 p3 p4 p5 p6 p7 p8 p9 p10
             have hgw : ∀ x : Later W, x.w.cell? ⟨b', off' + j, none⟩ = some (.int .i64 rg) := fun x => x.cell (by rw [HB6.out.cell (p := ⟨b', _, none⟩) hb']; exact hjg)
             have hbW : b < W.heap.size := Nat.lt_of_lt_of_le hb HB6.out.size
             have hbW' : b' < W.heap.size := Nat.lt_of_lt_of_le hb' HB6.out.size
             have heq8 := eq8b_run rf
             have hj0 : (0 : Int) ≤ (j : Int) := by omega
             have hj1 : (j : Int) < (nl : Int) := by omega
             have hge : decide ((nl : Int) ≤ (j : Int)) = false := by rw [decide_eq_false_iff_not]; omega
             have hge2 : decide (nl ≤ j) = false := by rw [decide_eq_false_iff_not]; omega
             have hneg : (rg != rg) = false := by simp
             clear hA6 hC6 hjg
             rcases Nat.eq_zero_or_pos t with rfl | hpos
             · skip
               refine wp_region_later (by kernel_rfl) (by kernel_rfl) ?_
               repeat (go_big_quiet_step (fail))
               refine wpQuiet_nil ?_
               rintro _ ⟨nq, rfl⟩
               go_wp2
               go_roundw
               case rel => exact ⟨0 + 1, by omega, by go_num, nb_trans HB6.out nq.below⟩
               case measure => simp [intOf]; omega
             · obtain ⟨s, rfl⟩ : ∃ s, t = s + 1 := ⟨t - 1, by omega⟩
               have hcs : ∀ x : Later W, x.w.cell? ⟨b, off + s * 11, none⟩ = some (.int .i64 (rows.getD s rowZ).s) := fun x => x.cell (by rw [HB6.out.cell (p := ⟨b, _, none⟩) hb]; exact hc s (by omega) 0 (by decide))
               have hup : decide ((j : Int) ≤ (rows.getD s rowZ).s) = false := by rw [decide_eq_false_iff_not]; have := HUP.out s rfl; omega
               generalize (rows.getD s rowZ).s = rs at *
               have ht0 : (0 : Int) < ((s + 1 : Nat) : Int) := by omega
               have ht1 : ((s + 1 : Nat) : Int) - 1 = (s : Int) := by omega
               have hs0 : (0 : Int) ≤ (s : Int) := by omega
               have hs1 : (s : Int) < (n : Int) := by omega
               refine wp_region_later (by kernel_rfl) (by kernel_rfl) ?_
               repeat (go_big_quiet_step (fail))
               refine wpQuiet_nil ?_
               rintro _ ⟨nq, rfl⟩
               go_wp2
               go_roundw
               case rel => exact ⟨s + 1 + 1, by omega, by go_num, nb_trans HB6.out nq.below⟩
               case measure => simp [intOf]; omega)
      · obtain rfl : t = n := by omega
        have HBN := Lib.hid (nb_trans (nb_trans HB2.out HB4.out) hB.out)
        go_wp2
        go_ret
        exact ⟨rfl, HBN.out⟩

namespace worldOrder
theorem own : ownKnob Try.prog.godebug = none := by kernel_rfl
theorem laidOut : laidOutB Try.prog = true := by kernel_rfl

set_option maxRecDepth 100000 in
set_option maxHeartbeats 4000000 in
theorem lifted (os : Os) (started : os.Started) (H : Type) (enc : TypeId × Value → H) :
    ReturnsInHanded {} Try.checked os 8 .any (Rows.worldOrderSpec.pre6 enc Try.prog Try.f8 Rows.worldOrderRow.domain false) (Rows.worldOrderSpec.post enc Try.prog Try.f8 false true false false) := by
  refine returnsInHanded_of_change (C := Try.checked) own started (by kernel_rfl) Try.func8
    (ChangeSpec.witness6 (enc := enc) (C := Try.checked) false ⟨#[], #[.slice none 0 0], []⟩ 8 (by kernel_rfl) (by kernel_rfl) (by kernel_rfl) (by kernel_rfl)) ?_
  intro W base args ds gs before hval0 hW hcnd _
  have hval : ∀ (j : Nat) t v, Try.f8.params[j]? = some t → args[j]? = some v → Value.okWide Try.prog W .any base t v := hval0
  have hW' := hW
  obtain ⟨p, q, hA0, hV, rfl, hfz, hnd⟩ := hW
  have hA : DataW.TrodAll enc Try.prog W 0 (fun _ => true) true Try.f8.params.toList args.toList ds p := hA0
  rw [Try.params8] at hA hval
  obtain ⟨v0, vs0, d0, ds0, p0, q0, hargs, rfl, rfl, h0, r0⟩ := trodAll_cons hA
  obtain ⟨rfl, rfl, rfl⟩ := trodAll_nil r0
  obtain rfl : args = #[v0] := by cases args; simp_all
  obtain ⟨rfl, rfl⟩ := trodVars_none hV
  have k0' := h0
  have lt0 : ∀ x ∈ p0, x.block < W.heap.size := by obtain ⟨m, hm⟩ := h0; exact DataW.trod_lt m _ _ _ hm
  obtain ⟨z0, i0, j0⟩ : ∃ zs, Reads elOp W v0 zs ∧ ∀ x ∈ zs, OpOk x := by
    obtain ⟨a0, len0, cap0, rfl⟩ := okWide_slice Try.underlying22 (hval 0 22 v0 rfl rfl)
    exact Reads_ofP elOp OpOk Try.underlying22 (by kernel_rfl) op_dec h0
  clear hA0 hval0
  refine (worldOrder_walk v0 z0 j0 W i0).mono fun e W' ⟨he, bel⟩ => ?_
  subst he
  exact ⟨_, rfl, _, _, _, [], _, [], hW', trodAll_mk1 (shut_bool Try.underlying4 _), (trodAll_cons_mk (Below.trod laidOut (by kernel_rfl) (of_decide_eq_true (by kernel_rfl)) k0' bel lt0) trodAll_mk0), rfl, bel.frame _, fun h => by cases h⟩
end worldOrder

theorem worldOrder_proved : Rows.WorldOrderSaid :=
  OpenClaim.holds_of_wide 8 Try.f8 rfl rfl rfl rfl rfl rfl rfl ⟨rfl, rfl, rfl, rfl, rfl⟩ rfl rfl rfl rfl rfl (by kernel_rfl) Try.func8 (by kernel_rfl)
    (of_decide_eq_true (by kernel_rfl)) (by unfold Func.isWrapper; first | (rw [if_pos (by decide +kernel)]; kernel_rfl) | (rw [if_neg (by decide +kernel)]; exact ⟨rfl, rfl⟩))
    (fun os started H enc _ => worldOrder.lifted os started H enc)

end Go.Proofs.Ytakoejopgdaknaa

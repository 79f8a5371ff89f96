/- The descendants are the children and their descendants, each once: the statement FamilyUnder. No condition. -/
import Derived.Test.YtmigfaogomepkaaGroundA
import Derived.Test.YtmigfaogomepkaaKeepGrown
import Derived.Test.YtmigfaogomepkaaKeepRelated
namespace Go.Proofs.Ytmigfaogomepkaa
open Go.ChangeShapes Go.WideShapes Go.ChangeAt Go.RowKit
set_option linter.unusedVariables false

theorem flat_sum (g : Hd → List Hd) (cs : List Hd) : (cs.flatMap (fun c => c :: g c)).length = (cs.map (fun c => 1 + (g c).length)).sum := by
  induction cs with
  | nil => rfl
  | cons c cs ih => rw [List.flatMap_cons, List.length_append, List.length_cons, ih, List.map_cons, List.sum_cons]; omega
theorem sum_append' : ∀ l r : List Nat, (l ++ r).sum = l.sum + r.sum
  | [], r => by simp
  | x :: l, r => by rw [List.cons_append, List.sum_cons, List.sum_cons, sum_append' l r]; omega
theorem sum_take_le : ∀ (l : List Nat) (k : Nat), (l.take k).sum ≤ l.sum
  | [], k => by simp
  | x :: l, 0 => by simp
  | x :: l, k + 1 => by rw [List.take_succ_cons, List.sum_cons, List.sum_cons]; have := sum_take_le l k; omega
theorem not_in_take {α : Type} {l : List α} (h : l.Nodup) {k : Nat} {d : α} (hk : k < l.length) : l.getD k d ∉ l.take k := fun hm => by
  rw [← List.take_append_drop k l, List.nodup_append] at h
  refine h.2.2 _ hm _ ?_ rfl
  rw [List.drop_eq_getElem_cons hk, List.getD_eq_getElem?_getD, List.getElem?_eq_getElem hk]
  exact List.mem_cons_self
theorem Reads.takeTo {w : World} {a : Option Addr} {n cap t : Nat} {xs : List Hd} (h : Reads elHand w (.slice a n cap) xs) (ht : t ≤ xs.length) : Reads elHand w (.slice a t cap) (xs.take t) := by
  obtain ⟨a', cap', e, hl, hm, hc⟩ := h
  simp only [Value.slice.injEq] at e
  obtain ⟨rfl, rfl, rfl⟩ := e
  have hlen : (xs.take t).length = t := by rw [List.length_take]; omega
  refine ⟨a, cap, by rw [hlen], by rw [hlen]; omega, hm, fun k hk => ?_⟩
  rw [hlen] at hk
  obtain ⟨b, off, e, hb, hcc⟩ := hc k (by omega)
  refine ⟨b, off, e, hb, fun j hj => ?_⟩
  rw [hcc j hj, List.getD_eq_getElem?_getD, List.getD_eq_getElem?_getD, List.getElem?_take_of_lt hk]

set_option maxRecDepth 100000 in
set_option maxHeartbeats 8000000 in
theorem familyUnder_walk (u0 : Value) (z0 : List Opm) (j0 : ∀ x ∈ z0, OpOk x) (a_1 b_1 : Int) (i1 : I64 a_1 ∧ I64 b_1) (w : World) (i0 : Reads elOp w u0 z0) (s0 : z0.length * 128 ≤ 140737488351232) :
    Calls Try.prog 6 #[u0, .agg #[.int .i64 a_1, .int .i64 b_1]] w fun e w' => e = .returned (.bool true) ∧ Below w.heap.size w w' := by
  have HR0 := Lib.hid i0
  have HJ := Lib.hid j0
  have HS0 := Lib.hid s0
  have HAB : Hid (okH (a_1, b_1)) := Lib.hid i1
  have hmd := FOk.made j0
  have HOK := Lib.hid hmd.1
  have HLN := Lib.hid hmd.2
  obtain ⟨ua, uc, hue, -⟩ := i0
  have HX : Hid (Below w.heap.size w (w.alloc (.cells #[.int .i64 a_1, .int .i64 b_1] 38))) := Lib.hid (nb_alloc (Below.refl _ _) _)
  have HXB : Hid ((w.alloc (.cells #[.int .i64 a_1, .int .i64 b_1] 38)).heap[w.heap.size]? = some (.cells #[.int .i64 a_1, .int .i64 b_1] 38)) := Lib.hid (heap_alloc_new _ _)
  subst hue
  clear j0 s0 i1 hmd
  go_enter Try.func6, Try.ntmps6
  go_wp2_with fail
  generalize w.alloc (.cells #[.int .i64 a_1, .int .i64 b_1] 38) = X at *
  refine (related_any _).mono ?_
  rintro e w1 ⟨rfl, hb1⟩
  have HB1 := Lib.hid (nb_trans HX.out hb1)
  have hxl := (Array.getElem?_eq_some_iff.1 HXB.out).1
  have HX1 : Hid (w1.heap[w.heap.size]? = some (.cells #[.int .i64 a_1, .int .i64 b_1] 38)) := Lib.hid (by rw [hb1.block _ hxl]; exact HXB.out)
  clear hb1 hxl
  go_wp2_with fail
  refine (grown_any _ z0 _ (HR0.out.later HB1.out) HJ.out HS0.out).mono ?_
  rintro e w2 ⟨q, F, rfl, hfam, hFb, hb2⟩
  obtain ⟨bs, hbs⟩ : ∃ bs, famL z0 = bs := ⟨_, rfl⟩
  rw [hbs] at hfam HOK HLN
  have HF2 := Lib.hid hfam
  have HB2 := Lib.hid (nb_trans HB1.out hb2)
  have h1l := (Array.getElem?_eq_some_iff.1 HX1.out).1
  have hx2 : w2.heap[w.heap.size]? = some (.cells #[.int .i64 a_1, .int .i64 b_1] 38) := by rw [hb2.block _ h1l]; exact HX1.out
  have HX2 := Lib.hid hx2
  have hx2l := (Array.getElem?_eq_some_iff.1 hx2).1
  have HN : Hid (bs.length * 32 ≤ 140737488355328) := Lib.hid (by have := HS0.out; have := HLN.out; omega)
  obtain ⟨dd, M, hac⟩ := HOK.out.acy
  have HAC := Lib.hid hac
  have HUE := Lib.hid (hac.under_eq (a_1, b_1))
  have HUN := Lib.hid (hac.under_nodup HOK.out.sorted _ (a_1, b_1) (Nat.le_refl _))
  have HUL := Lib.hid (hac.under_len HOK.out.sorted (a_1, b_1))
  have k0 : w2.cell? ⟨w.heap.size, 0, none⟩ = some (.int .i64 a_1) := by rw [cell_of_row _ _ _ _ _ _ hx2]; rfl
  have k1 : w2.cell? ⟨w.heap.size, 1, none⟩ = some (.int .i64 b_1) := by rw [cell_of_row _ _ _ _ _ _ hx2]; rfl
  clear hfam hFb hb2 hbs h1l hac hx2
  go_wp2_with fail
  refine (famUnder_any q F bs dd M a_1 b_1 _ HF2.out HOK.out HAC.out HAB.out HN.out).mono ?_
  rintro e w3 ⟨vu, rfl, ho3, hb3⟩
  obtain ⟨U, hU⟩ : ∃ U, under bs M (a_1, b_1) = U := ⟨_, rfl⟩
  rw [hU] at ho3 HUE HUN HUL
  have HRU := Lib.hid ho3.reads
  have HB3 := Lib.hid (nb_trans HB2.out hb3)
  have HF3 := Lib.hid (HF2.out.later hb3)
  have hx3 : w3.heap[w.heap.size]? = some (.cells #[.int .i64 a_1, .int .i64 b_1] 38) := by rw [hb3.block _ hx2l]; exact HX2.out
  have hx3l := (Array.getElem?_eq_some_iff.1 hx3).1
  have kk0 : w3.cell? ⟨w.heap.size, 0, none⟩ = some (.int .i64 a_1) := by rw [cell_of_row _ _ _ _ _ _ hx3]; rfl
  have kk1 : w3.cell? ⟨w.heap.size, 1, none⟩ = some (.int .i64 b_1) := by rw [cell_of_row _ _ _ _ _ _ hx3]; rfl
  clear ho3 hb3 hU k0 k1 hx3
  obtain ⟨ad3, cap3, rfl, -⟩ := HRU.out
  go_wp2_with fail
  refine (famChildren_any q F bs a_1 b_1 _ HF3.out HOK.out.sorted HN.out).mono ?_
  rintro e w4 ⟨vc, rfl, ho4, hb4⟩
  obtain ⟨cs, hcs⟩ : ∃ cs, kids bs (a_1, b_1) = cs := ⟨_, rfl⟩
  have HCO : Hid (∀ c ∈ cs, okH c) := Lib.hid (fun c hc => by rw [← hcs] at hc; exact (HOK.out.ok _ (mem_kids.1 hc)).1)
  rw [hcs] at ho4 HUE
  have HSUM : Hid (U.length = (cs.map (fun c => 1 + (under bs M c).length)).sum) := Lib.hid (by rw [HUE.out]; exact flat_sum _ _)
  have HB4 := Lib.hid (nb_trans HB3.out hb4)
  have HF4 := Lib.hid (HF3.out.later hb4)
  have HRU4 := Lib.hid (HRU.out.later hb4)
  obtain ⟨hm, hop⟩ := ho4.reads.open
  unfold maxLen at hm
  obtain ⟨n, hn⟩ : ∃ n, cs.length = n := ⟨_, rfl⟩
  have HCL := Lib.hid hn
  rw [hn] at hm hop
  obtain ⟨ul, hul⟩ : ∃ ul, U.length = ul := ⟨_, rfl⟩
  have HUU := Lib.hid hul
  have hulb : ul * 32 ≤ 140737488355328 := by have := HUL.out; have := HN.out; omega
  rw [hul]
  clear ho4 hb4 hcs hn hul kk0 kk1
  rcases hop with ⟨ad, cap, rfl, hz⟩ | ⟨bl, off, cap, rfl, hbl, hlc, hcm, hc⟩
  all_goals
    go_wp2
    go_loopw [7, 25] (fun v7 i wr => ∃ (k s : Nat), k ≤ n ∧ i = .int .i64 k ∧ v7 = .int .i64 s ∧ s ≤ ul ∧ Hid (((cs.take k).map (fun c => 1 + (under bs M c).length)).sum = s) ∧ Hid (Below w4.heap.size w4 wr)) (fun _ i _ => n - (intOf i).toNat)
    case atStart => exact ⟨0, 0, by omega, rfl, rfl, by omega, Lib.hid rfl, Below.refl _ _⟩
    case round =>
      obtain ⟨k, s, hk, rfl, rfl, hsu, hsum, hB⟩ := hrel
      by_cases hltk : k < n
      · first
          | omega
          | (have hkl : k < cs.length := by rw [HCL.out]; exact hltk
             obtain ⟨c0, c1⟩ := cells2 (E := elHand) rfl hc hltk
             have HTK : Hid (cs.take (k + 1) = cs.take k ++ [cs.getD k (0, 0)]) := Lib.hid (takeF_snoc cs k (0, 0) hkl)
             have HYO := Lib.hid (HCO.out _ (memD (d := (0, 0)) hkl))
             have hbw : bl < wr.heap.size := Nat.lt_of_lt_of_le hbl hB.out.size
             have hsn : ((cs.take (k + 1)).map (fun c => 1 + (under bs M c).length)).sum ≤ ul := by
               rw [← HUU.out, HSUM.out, List.map_take]; exact sum_take_le _ _
             obtain ⟨y, hy⟩ : ∃ y, cs.getD k (0, 0) = y := ⟨_, rfl⟩
             have c0' : wr.cell? ⟨bl, off + k * 2, none⟩ = some (.int .i64 y.1) := by rw [hB.out.cell (p := ⟨bl, _, none⟩) hbl, c0, ← hy]; rfl
             have c1' : wr.cell? ⟨bl, off + k * 2 + 1, none⟩ = some (.int .i64 y.2) := by rw [hB.out.cell (p := ⟨bl, _, none⟩) hbl, c1, ← hy]; rfl
             rw [hy] at HTK HYO
             obtain ⟨y1, y2⟩ := y
             rw [HTK.out, List.map_append, sum_append'] at hsn
             simp only [List.map_cons, List.map_nil, List.sum_cons, List.sum_nil] at hsn
             rw [hsum.out] at hsn
             have HNS : Hid (((cs.take (k + 1)).map (fun c => 1 + (under bs M c).length)).sum = s + (1 + (under bs M (y1, y2)).length)) := Lib.hid (by
               rw [HTK.out, List.map_append, sum_append', hsum.out]
               simp)
             obtain ⟨ty, hty⟩ : ∃ ty, (under bs M (y1, y2)).length = ty := ⟨_, rfl⟩
             rw [hty] at hsn HNS
             have HTY := Lib.hid hty
             have HFA := Lib.hid ((HF4.out.later hB.out).later (nb_alloc (Below.refl _ _) (.cells #[.int .i64 y1, .int .i64 y2] 38)))
             have HBA := Lib.hid (nb_alloc hB.out (.cells #[.int .i64 y1, .int .i64 y2] 38))
             clear c0 c1 hc hy hty
             go_wp2_with fail
             generalize wr.alloc (.cells #[.int .i64 y1, .int .i64 y2] 38) = A at *
             refine (famUnder_any q F bs dd M y1 y2 _ HFA.out HOK.out HAC.out HYO.out HN.out).mono ?_
             rintro e w6 ⟨v6, rfl, ho6, hb6⟩
             obtain ⟨a6, c6, rfl, -⟩ := ho6.reads
             have HB6 := Lib.hid (nb_trans HBA.out hb6)
             rw [HTY.out]
             clear ho6 hb6 c0' c1'
             go_wp2
             go_roundw
             case rel => exact ⟨k + 1, s + (1 + ty), by omega, by go_num, by go_num, by omega, HNS, HB6⟩
             case measure => simp [intOf]; omega)
      · obtain rfl : k = n := by omega
        have hse : s = ul := by
          rw [← hsum.out, List.take_of_length_le (by rw [HCL.out]; exact Nat.le_refl _), ← HSUM.out]; exact HUU.out
        have hse' := hse
        have HRW := Lib.hid (HRU4.out.later hB.out)
        have HBW := Lib.hid (nb_trans HB4.out hB.out)
        rw [hse]
        clear hse hse'
        generalize wr = wz at *
        obtain ⟨hm9, hop9⟩ := HRW.out.open
        rw [HUU.out] at hop9
        rcases hop9 with ⟨ad9, cap9, e9, hz9⟩ | ⟨bl9, off9, cap9, e9, hbl9, hlc9, hcm9, hc9⟩
        all_goals
          simp only [Value.slice.injEq, true_and] at e9
          obtain ⟨rfl, rfl⟩ := e9
          go_wp2
          go_loopw [39] (fun i wr => ∃ j : Nat, j ≤ ul ∧ i = .int .i64 j ∧ Hid (Below wz.heap.size wz wr)) (fun i _ => ul - (intOf i).toNat)
          case atStart => exact ⟨0, by omega, rfl, Below.refl _ _⟩
          case round =>
            obtain ⟨j, hj, rfl, hBj⟩ := hrel
            by_cases hltj : j < ul
            · first
                | omega
                | (have hjl : j < U.length := by rw [HUU.out]; exact hltj
                   obtain ⟨c0, c1⟩ := cells2 (E := elHand) rfl hc9 hltj
                   have hbw9 : bl9 < wr.heap.size := Nat.lt_of_lt_of_le hbl9 hBj.out.size
                   have HNI := Lib.hid (not_in_take HUN.out (d := (0, 0)) hjl)
                   obtain ⟨y, hy⟩ : ∃ y, U.getD j (0, 0) = y := ⟨_, rfl⟩
                   have c0' : wr.cell? ⟨bl9, off9 + j * 2, none⟩ = some (.int .i64 y.1) := by rw [hBj.out.cell (p := ⟨bl9, _, none⟩) hbl9, c0, ← hy]; rfl
                   have c1' : wr.cell? ⟨bl9, off9 + j * 2 + 1, none⟩ = some (.int .i64 y.2) := by rw [hBj.out.cell (p := ⟨bl9, _, none⟩) hbl9, c1, ← hy]; rfl
                   rw [hy] at HNI
                   obtain ⟨y1, y2⟩ := y
                   have HBA := Lib.hid (nb_alloc hBj.out (.cells #[.int .i64 y1, .int .i64 y2] 38))
                   have HBX : Hid ((wr.alloc (.cells #[.int .i64 y1, .int .i64 y2] 38)).heap[wr.heap.size]? = some (.cells #[.int .i64 y1, .int .i64 y2] 38)) := Lib.hid (heap_alloc_new _ _)
                   clear c0 c1 hy
                   go_wp2_with fail
                   generalize wr.alloc (.cells #[.int .i64 y1, .int .i64 y2] 38) = A at *
                   have hal := (Array.getElem?_eq_some_iff.1 HBX.out).1
                   have hxa := HBX.out
                   have kz0 : A.cell? ⟨wr.heap.size, 0, none⟩ = some (.int .i64 y1) := by rw [cell_of_row _ _ _ _ _ _ hxa]; rfl
                   have kz1 : A.cell? ⟨wr.heap.size, 1, none⟩ = some (.int .i64 y2) := by rw [cell_of_row _ _ _ _ _ _ hxa]; rfl
                   have hrt := (HRW.out.takeTo (t := j) (by omega)).later (HBA.out.drew)
                   have HRT := Lib.hid hrt
                   have hjc : j ≤ cap3 := by omega
                   clear hxa hrt c0' c1'
                   go_still_tail 4, (by kernel_rfl)
                   change wpList _ _ _ _ _ A.drew
                   go_wp2_with fail
                   refine (hasHand_any _ (U.take j) y1 y2 _ HRT.out).mono ?_
                   rintro e w8 ⟨rfl, hb8⟩
                   rw [decide_eq_false HNI.out]
                   have HB8 : Hid (Below wz.heap.size wz w8) := Lib.hid (nb_trans HBA.out.drew hb8)
                   clear hb8 kz0 kz1
                   go_wp2
                   go_roundw
                   case rel => exact ⟨j + 1, by omega, by go_num, HB8⟩
                   case measure => simp [intOf]; omega)
            · obtain rfl : j = ul := by omega
              have e1 : ((j : Int) == (j : Int)) = true := by simp
              have HEND : Hid (Below w.heap.size w wr) := Lib.hid (nb_trans HBW.out hBj.out)
              go_wp2
              go_ret
              exact ⟨rfl, HEND.out⟩

namespace familyUnder
theorem own : ownKnob Try.prog.godebug = none := by kernel_rfl
theorem laidOut : laidOutB Try.prog = true := by kernel_rfl

set_option maxRecDepth 100000 in
set_option maxHeartbeats 4000000 in
theorem lifted (os : Os) (started : os.Started) (H : Type) (enc : TypeId × Value → H) :
    ReturnsInHanded {} Try.checked os 6 .any (Rows.familyUnderSpec.pre6 enc Try.prog Try.f6 Rows.familyUnderRow.domain false) (Rows.familyUnderSpec.post enc Try.prog Try.f6 false true false false) := by
  refine returnsInHanded_of_change_sized (C := Try.checked) own started (by kernel_rfl) Try.func6
    (ChangeSpec.witness6 (enc := enc) (C := Try.checked) false ⟨#[], #[.slice none 0 0, .agg #[.int .i64 0, .int .i64 0]], []⟩ 8 (by kernel_rfl) (by kernel_rfl) (by kernel_rfl) (by kernel_rfl)) ?_
  intro W base args ds gs before hval0 hW hcnd hsz _
  have hval : ∀ (j : Nat) t v, Try.f6.params[j]? = some t → args[j]? = some v → Value.okWide Try.prog W .any base t v := hval0
  have hW' := hW
  obtain ⟨p, q, hA0, hV, rfl, hfz, hnd⟩ := hW
  have hA : DataW.TrodAll enc Try.prog W 0 (fun _ => true) true Try.f6.params.toList args.toList ds p := hA0
  rw [Try.params6] at hA hval
  obtain ⟨v0, vs0, d0, ds0, p0, q0, hargs, rfl, rfl, h0, r0⟩ := trodAll_cons hA
  obtain ⟨v1, vs1, d1, ds1, p1, q1, rfl, rfl, rfl, h1, r1⟩ := trodAll_cons r0
  obtain ⟨rfl, rfl, rfl⟩ := trodAll_nil r1
  obtain rfl : args = #[v0, v1] := by cases args; simp_all
  obtain ⟨rfl, rfl⟩ := trodVars_none hV
  have k0' := h0
  have lt0 : ∀ x ∈ p0, x.block < W.heap.size := by obtain ⟨m, hm⟩ := h0; exact DataW.trod_lt m _ _ _ hm
  have k1' := h1
  have lt1 : ∀ x ∈ p1, x.block < W.heap.size := by obtain ⟨m, hm⟩ := h1; exact DataW.trod_lt m _ _ _ hm
  obtain ⟨z0, i0, j0⟩ : ∃ zs, Reads elOp W v0 zs ∧ ∀ x ∈ zs, OpOk x := by
    obtain ⟨a0, len0, cap0, rfl⟩ := okWide_slice Try.underlying22 (hval 0 22 v0 rfl rfl)
    exact Reads_ofP elOp OpOk Try.underlying22 (by kernel_rfl) op_dec h0
  obtain ⟨a_1, b_1, rfl, i1⟩ : ∃ a_1 b_1 : Int, v1 = .agg #[.int .i64 a_1, .int .i64 b_1] ∧ (I64 a_1 ∧ I64 b_1) := by
    obtain ⟨zs, hl, rfl, hz⟩ := open_flat 3 2 Try.underlying38 (by kernel_rfl) (by kernel_rfl) (hval 1 38 v1 rfl rfl) h1
    obtain ⟨a_1, b_1, rfl⟩ := list2 hl
    exact ⟨a_1, b_1, rfl, hz a_1 (by simp), hz b_1 (by simp)⟩
  rw [Try.params6] at hsz
  have s0 : z0.length * 128 ≤ 140737488351232 := by
    obtain ⟨aa, cc, ee, _⟩ := i0
    have hh := k0'
    rw [ee] at hh
    exact trod_len Try.underlying22 (show Try.prog.bytesOf 40 = 128 by kernel_rfl) hh (fun el sp hd => sized_slice hsz (j := 0) (t := 22) rfl (by rw [hd]; rfl) Try.underlying22)
  clear hA0 hval0
  refine (familyUnder_walk v0 z0 j0 a_1 b_1 i1 W i0 s0).mono fun e W' ⟨he, bel⟩ => ?_
  subst he
  exact ⟨_, rfl, _, _, _, [], _, [], hW', trodAll_mk1 (shut_bool Try.underlying4 _), (trodAll_cons_mk (Below.trod laidOut (by kernel_rfl) (of_decide_eq_true (by kernel_rfl)) k0' bel lt0) (trodAll_cons_mk (Below.trod laidOut (by kernel_rfl) (of_decide_eq_true (by kernel_rfl)) k1' bel lt1) trodAll_mk0)), rfl, bel.frame _, fun h => by cases h⟩
end familyUnder

theorem familyUnder_proved : Rows.FamilyUnderSaid :=
  OpenClaim.holds_of_wide 6 Try.f6 rfl rfl rfl rfl rfl rfl rfl ⟨rfl, rfl, rfl, rfl, rfl⟩ rfl rfl rfl rfl rfl (by kernel_rfl) Try.func6 (by kernel_rfl)
    (of_decide_eq_true (by kernel_rfl)) (by unfold Func.isWrapper; first | (rw [if_pos (by decide +kernel)]; kernel_rfl) | (rw [if_neg (by decide +kernel)]; exact ⟨rfl, rfl⟩))
    (fun os started H enc _ => familyUnder.lifted os started H enc)

end Go.Proofs.Ytmigfaogomepkaa

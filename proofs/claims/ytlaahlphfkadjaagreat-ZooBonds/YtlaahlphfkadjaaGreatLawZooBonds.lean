
/- All bonds of a zoo connect live entities; a kill removes one and all that are under it: the statement ZooBonds. No condition. -/
import Derived.Test.YtlaahlphfkadjaaGreatGroundA
import Derived.Test.YtlaahlphfkadjaaGreatKeptZoo
import Derived.Test.YtlaahlphfkadjaaGreatMarkIs
import Derived.Test.YtlaahlphfkadjaaGreatGroundD
import Derived.Test.YtlaahlphfkadjaaGreatRestB
import Derived.Deep.CutRange
namespace Go.Proofs.YtlaahlphfkadjaaGreat
set_option maxRecDepth 8000
open Go.ChangeShapes Go.WideShapes Go.ChangeAt Go.RowKit
set_option linter.unusedVariables false

open Classical in
/-- The rows that a kill leaves. -/
noncomputable def leftR (s : Zs) (h : Hd) (rows : List Rw) : List Rw := rows.filter (fun r => !decide (hdR r = h ∨ Und s.bs (hdR r) h))
theorem leftR_len (s : Zs) (h : Hd) (rows : List Rw) : (leftR s h rows).length ≤ rows.length := List.length_filter_le _ _
theorem leftR_in (s : Zs) (h : Hd) (rows : List Rw) (r : Rw) (hr : (r.s, r.g) = h ∨ Und s.bs (r.s, r.g) h) : leftR s h (rows ++ [r]) = leftR s h rows := by
  unfold leftR
  rw [List.filter_append]
  have : (hdR r = h ∨ Und s.bs (hdR r) h) := hr
  simp [this]
theorem leftR_out (s : Zs) (h : Hd) (rows : List Rw) (r : Rw) (hr : ¬ ((r.s, r.g) = h ∨ Und s.bs (r.s, r.g) h)) : leftR s h (rows ++ [r]) = leftR s h rows ++ [r] := by
  unfold leftR
  rw [List.filter_append]
  have : ¬ (hdR r = h ∨ Und s.bs (hdR r) h) := hr
  simp [this]
theorem leftR_all (s : Zs) (h : Hd) : leftR s h s.rows = (killZ s h).rows := by
  unfold leftR killZ killS
  exact List.filter_congr (fun r _ => congrArg not (decide_eq_decide.2 Iff.rfl))
theorem fieldRows (a b c : Option Addr) (n m k n' m' k' : Nat) (w : World) : (Instr.field 40 (.agg #[.slice a n n', .slice b m m', .slice c k k']) 1).run Tryz.prog w = .ok (.slice b m m') w := by kernel_rfl
theorem exBool (p : Prop) : ∃ g : Bool, g = true ↔ p := by
  by_cases h : p
  · exact ⟨true, by simp [h]⟩
  · exact ⟨false, by simp [h]⟩
theorem zeroBoolZ (w : World) : (zeroValue 4).run Tryz.prog w = .ok (.bool false) w := by kernel_rfl

set_option maxRecDepth 100000 in
set_option maxHeartbeats 16000000 in
theorem zooBonds_walk (u0 : Value) (z0 : List Opm) (j0 : ∀ x ∈ z0, OpOk x) (a1 : Int) (i1 : I64 a1) (w : World) (i0 : Reads elOp w u0 z0) :
    Calls Tryz.prog 4 #[u0, .int .i64 a1] w fun e w' => e = .returned (.bool true) ∧ Below w.heap.size w w' := by
  have HR := Lib.hid i0
  have HOS := Lib.hid j0
  obtain ⟨oa, oc, hue, -⟩ := i0
  subst hue
  obtain ⟨i0, hi, hz0, hz1, hz2⟩ := info_parts infoRow
  have hmk : ∀ x : World, (Instr.makeMap 54 none).run Tryz.prog x = .ok (.map (some x.heap.size)) (x.alloc (.map #[] 0)) := run_makeMap 54
  clear j0
  go_enter Tryz.func4, Tryz.ntmps4
  go_wp2_with fail
  refine (kept_any _).mono ?_
  rintro e w1 ⟨rfl, hb1⟩
  have HB1 := Lib.hid hb1
  clear hb1
  go_wp2_with fail
  refine (done_any _ z0 _ (HR.out.later HB1.out) HOS.out).mono ?_
  rintro e w2 ⟨p, F, rfl, hz, hF, hb2⟩
  have HZ := Lib.hid hz
  have HF := Lib.hid hF
  have HB2 := Lib.hid (nb_trans HB1.out hb2)
  have HOK : Hid (ZOk (doneZ z0)) := Lib.hid (ZOk.done z0)
  clear hz hF hb2
  obtain ⟨s, hs⟩ : ∃ s, doneZ z0 = s := ⟨_, rfl⟩
  rw [hs] at HZ HOK
  clear hs
  go_wp2_with fail
  refine (zooState_any p F s _ HZ.out HOK.out).mono ?_
  rintro e w3 ⟨vg, vr, vb, rfl, hst, hb3⟩
  have HST := Lib.hid hst
  have HB23 := Lib.hid hb3
  have HB3W := Lib.hid (nb_trans HB2.out hb3)
  obtain ⟨g1, g2, rfl, -⟩ := hst.g.reads
  obtain ⟨r1, r2, rfl, hrl, hrm, hrc⟩ := hst.r.reads
  obtain ⟨b1, b2, rfl, hbl, hbm, hbc⟩ := hst.b.reads
  have HFL : Hid (∀ b, F b → b < w2.heap.size) := Lib.hid HZ.out.lt
  obtain ⟨nr, hnr⟩ : ∃ n, s.rows.length = n := ⟨_, rfl⟩
  obtain ⟨nb, hnb⟩ : ∃ n, s.bs.length = n := ⟨_, rfl⟩
  have HNR := Lib.hid hnr
  have HNB := Lib.hid hnb
  have hr60 : nr ≤ 60 := by rw [← hnr]; exact HOK.out.w.len60
  have hb60 : nb ≤ 60 := by rw [← hnb]; exact HOK.out.len
  rw [hnr] at hrl hrc HST ⊢
  rw [hnb] at hbl hbc HST ⊢
  unfold maxLen at hrm hbm
  have HRC := Lib.hid hrc
  have HBC := Lib.hid hbc
  have HA0 : Hid (Below w3.heap.size w3 ((w3.alloc (.cells #[.slice g1 (gensL s.l).length g2, .slice r1 nr r2, .slice b1 nb b2] 40)).alloc (.map #[] 0))) := Lib.hid (nb_alloc (nb_alloc (Below.refl _ _) _) _)
  have HSB : Hid (((w3.alloc (.cells #[.slice g1 (gensL s.l).length g2, .slice r1 nr r2, .slice b1 nb b2] 40)).alloc (.map #[] 0)).heap[w3.heap.size]? = some (.cells #[.slice g1 (gensL s.l).length g2, .slice r1 nr r2, .slice b1 nb b2] 40)) := Lib.hid (heap_alloc2_old _ _ _)
  have HM0 : Hid (MarkIs ((w3.alloc (.cells #[.slice g1 (gensL s.l).length g2, .slice r1 nr r2, .slice b1 nb b2] 40)).alloc (.map #[] 0)) (w3.heap.size + 1) 0 (fun _ => False)) := Lib.hid (by have := MarkIs.new (w3.alloc (.cells #[.slice g1 (gensL s.l).length g2, .slice r1 nr r2, .slice b1 nb b2] 40)); rwa [show (w3.alloc (.cells #[.slice g1 (gensL s.l).length g2, .slice r1 nr r2, .slice b1 nb b2] 40)).heap.size = w3.heap.size + 1 by simp] at this)
  clear hst hb3 hrc hbc hnr hnb
  go_wp2
  have HMK := Lib.hid hmk
  clear hmk
  generalize ((w3.alloc (.cells #[.slice g1 (gensL s.l).length g2, .slice r1 nr r2, .slice b1 nb b2] 40)).alloc (.map #[] 0)) = W0 at *
  go_loopw [33] (fun i wr => ∃ t : Nat, t ≤ nr ∧ i = .int .i64 t ∧ Hid (MarkIs wr (w3.heap.size + 1) t (fun x => x ∈ (s.rows.take t).map hdR)) ∧ Hid (Kept (fun b => b = w3.heap.size + 1) W0 wr)) (fun i _ => nr - (intOf i).toNat)
  case atStart => exact ⟨0, by omega, rfl, Lib.hid (HM0.out.congr (fun x => by simp)), Lib.hid (Kept.refl _ _)⟩
  case round =>
    obtain ⟨t, htn, rfl, hM, hK⟩ := hrel
    have HB : Hid (Below w3.heap.size w3 wr) := Lib.hid (HA0.out.trans (hK.out.below HA0.out.size (fun k e => by omega)))
    by_cases hlt : t < nr
    · as_aux_lemma =>
      obtain ⟨bb, off, rfl, hbb, hck⟩ := HRC.out t hlt
      obtain ⟨r, hr⟩ : ∃ r, s.rows.getD t rowZ = r := ⟨_, rfl⟩
      have hcr : ∀ jj, jj < 11 → wr.cell? ⟨bb, off + t * 11 + jj, none⟩ = (elRow.enc r)[jj]? := fun jj hjj => by rw [(HB.out).cell (p := ⟨bb, _, none⟩) hbb, ← hr]; exact hck jj hjj
      obtain ⟨c0, c1, c2, c3, c4, c5, c6, c7, c8, c9, c10⟩ := lRow (O := off + t * 11) (r := r) hcr
      have htl : t < s.rows.length := by rw [HNR.out]; exact hlt
      have hbw : bb < wr.heap.size := Nat.lt_of_lt_of_le hbb (HB.out).size
      have HTK : Hid (s.rows.take (t + 1) = s.rows.take t ++ [r]) := Lib.hid (by rw [take_snocD s.rows t rowZ htl, hr])
      have HRO : Hid (okH (r.s, r.g)) := Lib.hid (HOK.out.okH (x := (r.s, r.g)) (HOK.out.w.live r (by rw [← hr]; exact memD htl)))
      have HRI : Hid (r ∈ s.rows) := Lib.hid (by rw [← hr]; exact memD htl)
      have HA : Hid (Below wr.heap.size wr (wr.alloc (.cells #[.int .i64 r.s, .int .i64 r.g, .int .i64 r.m, .int .i64 (r.f 0), .int .i64 (r.f 1), .int .i64 (r.f 2), .int .i64 (r.f 3), .int .i64 (r.f 4), .int .i64 (r.f 5), .int .i64 (r.f 6), .int .i64 (r.f 7)] 56))) := Lib.hid (nb_alloc (Below.refl _ _) _)
      clear hcr hck hr htl

      obtain ⟨V, hmu, hV, hkV⟩ := (hM.out.later HA.out).put Tryz.underlying54 (by unfold maxLen; omega) r.s r.g HRO.out
      have HNX : Hid (MarkIs V (w3.heap.size + 1) (t + 1) (fun x => x ∈ (s.rows.take (t + 1)).map hdR) ∧ Kept (fun b => b = w3.heap.size + 1) W0 V) := Lib.hid ⟨hV.congr (fun x => by rw [HTK.out, List.map_append, List.mem_append]; simp [hdR]), (hK.out.trans (Kept.ofBelow (F := fun b => b = w3.heap.size + 1) HA.out) (fun _ h => .inl h)).trans hkV (fun _ h => .inl h)⟩
      clear hV hkV
      go_wp2
      go_roundw
      case rel => exact ⟨t + 1, by omega, by go_num, Lib.hid HNX.out.1, Lib.hid HNX.out.2⟩
      case measure => simp [intOf]; omega
    · obtain rfl : nr = t := by omega
      have HMY : Hid (MarkIs wr (w3.heap.size + 1) nr (fun x => x ∈ s.rows.map hdR)) := Lib.hid (by have := hM.out; rwa [List.take_of_length_le (by rw [HNR.out]; exact Nat.le_refl _)] at this)
      have hqs : wr.heap[w3.heap.size]? = some (.cells #[.slice g1 (gensL s.l).length g2, .slice r1 nr r2, .slice b1 nb b2] 40) := (hK.out.block _ (Array.getElem?_eq_some_iff.1 HSB.out).1 (by omega)).trans HSB.out
      have q2 : wr.cell? ⟨w3.heap.size, 2, none⟩ = some (.slice b1 nb b2) := (cell_of_row _ _ _ _ _ _ hqs).trans rfl
      have lq := (Array.getElem?_eq_some_iff.1 hqs).1
      have HQS := Lib.hid hqs
      clear hqs hM hK HA0 HSB HM0
      go_wp2
      generalize wr = Y at *
      clear q2 lq
      go_loopw [44] (fun i wr => ∃ j : Nat, j ≤ nb ∧ i = .int .i64 j ∧ Hid (Below Y.heap.size Y wr)) (fun i _ => nb - (intOf i).toNat)
      case atStart => exact ⟨0, by omega, rfl, Lib.hid (Below.refl _ _)⟩
      case round =>
        obtain ⟨j, hjn, rfl, hBY⟩ := hrel
        have HB' : Hid (Below w3.heap.size w3 wr) := Lib.hid (nb_trans HB.out hBY.out)
        by_cases hlt : j < nb
        · as_aux_lemma =>
          obtain ⟨bb, off, rfl, hbb, hck⟩ := HBC.out j hlt
          obtain ⟨y, hy⟩ : ∃ y, s.bs.getD j bdZ0 = y := ⟨_, rfl⟩
          have hcr : ∀ jj, jj < 4 → wr.cell? ⟨bb, off + j * 4 + jj, none⟩ = (elBond.enc y)[jj]? := fun jj hjj => by rw [(HB'.out).cell (p := ⟨bb, _, none⟩) hbb, ← hy]; exact hck jj hjj
          have hjl : j < s.bs.length := by rw [HNB.out]; exact hlt
          have hbw : bb < wr.heap.size := Nat.lt_of_lt_of_le hbb (HB'.out).size
          obtain ⟨⟨y1, y2⟩, y3, y4⟩ := y
          have HYM : Hid (((y1, y2), (y3, y4)) ∈ s.bs) := Lib.hid (by rw [← hy]; exact memD hjl)
          have HYL : Hid (liveH s.l (y1, y2) = true ∧ liveH s.l (y3, y4) = true) := Lib.hid (HOK.out.lv _ HYM.out)
          have HYO : Hid (okH (y1, y2) ∧ okH (y3, y4)) := Lib.hid ⟨HOK.out.okH HYL.out.1, HOK.out.okH HYL.out.2⟩
          have c0 : wr.cell? ⟨bb, off + j * 4, none⟩ = some (.int .i64 y1) := hcr 0 (by decide)
          have c1 : wr.cell? ⟨bb, off + j * 4 + 1, none⟩ = some (.int .i64 y2) := hcr 1 (by decide)
          have c2 : wr.cell? ⟨bb, off + j * 4 + 2, none⟩ = some (.int .i64 y3) := hcr 2 (by decide)
          have c3 : wr.cell? ⟨bb, off + j * 4 + 3, none⟩ = some (.int .i64 y4) := hcr 3 (by decide)
          have HNXT := Lib.hid (fun P => passP_next P bdZ0 hjl)
          rw [hy] at HNXT
          have HA : Hid (Below wr.heap.size wr (wr.alloc (.cells #[.int .i64 y1, .int .i64 y2, .int .i64 y3, .int .i64 y4] 58))) := Lib.hid (nb_alloc (Below.refl _ _) _)
          clear hcr hck hy hjl
          have HMA := HMY.out.later (nb_trans hBY.out HA.out)
          have l1 : (Instr.lookup 54 (.map (some (w3.heap.size + 1))) (.agg #[.int .i64 y1, .int .i64 y2]) false).run Tryz.prog (wr.alloc (.cells #[.int .i64 y1, .int .i64 y2, .int .i64 y3, .int .i64 y4] 58)) = .ok (.bool true) (wr.alloc (.cells #[.int .i64 y1, .int .i64 y2, .int .i64 y3, .int .i64 y4] 58)) := HMA.look Tryz.underlying54 (zeroBoolZ _) y1 y2 HYO.out.1 (by simpa using HOK.out.row HYL.out.1)
          have l2 : (Instr.lookup 54 (.map (some (w3.heap.size + 1))) (.agg #[.int .i64 y3, .int .i64 y4]) false).run Tryz.prog (wr.alloc (.cells #[.int .i64 y1, .int .i64 y2, .int .i64 y3, .int .i64 y4] 58)) = .ok (.bool true) (wr.alloc (.cells #[.int .i64 y1, .int .i64 y2, .int .i64 y3, .int .i64 y4] 58)) := HMA.look Tryz.underlying54 (zeroBoolZ _) y3 y4 HYO.out.2 (by simpa using HOK.out.row HYL.out.2)
          have HNX : Hid (Below Y.heap.size Y (wr.alloc (.cells #[.int .i64 y1, .int .i64 y2, .int .i64 y3, .int .i64 y4] 58))) := Lib.hid (nb_trans hBY.out HA.out)
          clear HMA
          go_wp2
          go_roundw
          case rel => exact ⟨j + 1, by omega, by go_num, HNX⟩
          case measure => simp [intOf]; omega
        · skip
          have hqs : wr.heap[w3.heap.size]? = some (.cells #[.slice g1 (gensL s.l).length g2, .slice r1 nr r2, .slice b1 nb b2] 40) := (hBY.out.block _ (Array.getElem?_eq_some_iff.1 HQS.out).1).trans HQS.out
          have q1 : wr.cell? ⟨w3.heap.size, 1, none⟩ = some (.slice r1 nr r2) := (cell_of_row _ _ _ _ _ _ hqs).trans rfl
          have lq := (Array.getElem?_eq_some_iff.1 hqs).1
          have HQ2 := Lib.hid hqs
          clear hqs
          by_cases hn0 : nr = 0
          · as_aux_lemma =>
            have hnz : ((nr : Int) == 0) = true := by rw [hn0]; rfl
            have HEND : Hid (Below w.heap.size w wr) := Lib.hid (nb_trans HB3W.out HB'.out)
            subst hn0
            go_wp2
            go_ret
            exact ⟨rfl, HEND.out⟩
          · have hnz : ((nr : Int) == 0) = false := by rw [beq_eq_false_iff_ne]; omega
            obtain ⟨k, hk, hkn⟩ : ∃ k : Nat, a1 % (nr : Int) = (k : Int) ∧ k < nr := by
              have h1 := Int.emod_nonneg a1 (b := (nr : Int)) (by omega)
              have h2 := Int.emod_lt_of_pos a1 (b := (nr : Int)) (by omega)
              exact ⟨(a1 % (nr : Int)).toNat, by omega, by omega⟩
            obtain ⟨bb, off, rfl, hbb, hck⟩ := HRC.out k hkn
            obtain ⟨r, hr⟩ : ∃ r, s.rows.getD k rowZ = r := ⟨_, rfl⟩
            have hkl : k < s.rows.length := by rw [HNR.out]; exact hkn
            have HRI : Hid (r ∈ s.rows) := Lib.hid (by rw [← hr]; exact memD hkl)
            obtain ⟨h1, hh1⟩ : ∃ x, r.s = x := ⟨_, rfl⟩
            obtain ⟨h2, hh2⟩ : ∃ x, r.g = x := ⟨_, rfl⟩
            have HLV : Hid (liveH s.l (h1, h2) = true) := Lib.hid (by rw [← hh1, ← hh2]; exact HOK.out.w.live r HRI.out)
            have HHO : Hid (okH (h1, h2)) := Lib.hid (HOK.out.okH HLV.out)
            have c0 : wr.cell? ⟨bb, off + k * 11, none⟩ = some (.int .i64 h1) := by rw [HB'.out.cell (p := ⟨bb, _, none⟩) hbb, ← hh1, ← hr]; exact hck 0 (by decide)
            have c1 : wr.cell? ⟨bb, off + k * 11 + 1, none⟩ = some (.int .i64 h2) := by rw [HB'.out.cell (p := ⟨bb, _, none⟩) hbb, ← hh2, ← hr]; exact hck 1 (by decide)
            have hbw : bb < wr.heap.size := Nat.lt_of_lt_of_le hbb HB'.out.size
            have hk0 : (0 : Int) ≤ (k : Int) := by omega
            have hk1 : (k : Int) < (nr : Int) := by omega
            clear hck hr hkl hh1 hh2
            go_upto_region 21 with fail
            go_cut [12] from 65 to 74 (fun c wx => c = .pointer (some ⟨wr.heap.size, 0, none⟩) ∧ wx = (wr.alloc (.cells #[.int .i64 h1, .int .i64 h2] 43)).drew)
            case first =>
              go_region_held3 (fun x => (x.cell? ⟨w3.heap.size, 1, none⟩ = some (.slice (some ⟨bb, off, none⟩) nr r2) ∧ x.cell? ⟨bb, off + k * 11, none⟩ = some (.int .i64 h1) ∧ x.cell? ⟨bb, off + k * 11 + 1, none⟩ = some (.int .i64 h2))) (first | go_keep) (first
                | ((go_at_call 14; refine (restB_any a1 nr _ (by omega) (by omega)).mono ?_; rintro e x1 ⟨rfl, rfl⟩; rw [hk])) | fail "none")
              all_goals
                go_wp2_with fail
                go_meet
                exact ⟨rfl, rfl⟩
            case rest =>
              obtain ⟨rfl, rfl⟩ := hcut
              have HZW : Hid (Below wr.heap.size wr (wr.alloc (.cells #[.int .i64 h1, .int .i64 h2] 43)).drew) := Lib.hid (nb_alloc (Below.refl _ _) _).drew
              have HZH : Hid ((wr.alloc (.cells #[.int .i64 h1, .int .i64 h2] 43)).drew.heap[wr.heap.size]? = some (.cells #[.int .i64 h1, .int .i64 h2] 43)) := Lib.hid (heap_alloc_new wr _)
              clear q1 lq c0 c1 hbw hk0 hk1 hk
              generalize (wr.alloc (.cells #[.int .i64 h1, .int .i64 h2] 43)).drew = Z at *
              obtain ⟨hb0, hhb⟩ : ∃ x, wr.heap.size = x := ⟨_, rfl⟩
              have HHB := Lib.hid hhb
              rw [hhb] at HZH ⊢
              clear hhb
              have hmk := HMK.out
              have HZ3 : Hid (Below w3.heap.size w3 Z) := Lib.hid (nb_trans HB'.out HZW.out)
              have HMZ : Hid (MarkIs Z (w3.heap.size + 1) nr (fun x => x ∈ s.rows.map hdR)) := Lib.hid (HMY.out.later (nb_trans hBY.out HZW.out))
              have HQZ : Hid (Z.heap[w3.heap.size]? = some (.cells #[.slice g1 (gensL s.l).length g2, .slice (some ⟨bb, off, none⟩) nr r2, .slice b1 nb b2] 40)) := Lib.hid ((HZW.out.block _ (Array.getElem?_eq_some_iff.1 HQ2.out).1).trans HQ2.out)
              have z0' : Z.cell? ⟨hb0, 0, none⟩ = some (.int .i64 h1) := (cell_of_row _ _ _ _ _ _ HZH.out).trans rfl
              have z1' : Z.cell? ⟨hb0, 1, none⟩ = some (.int .i64 h2) := (cell_of_row _ _ _ _ _ _ HZH.out).trans rfl
              have lz := (Array.getElem?_eq_some_iff.1 HZH.out).1
              obtain ⟨V, hmu, hV, hkV⟩ := (MarkIs.new Z).put Tryz.underlying54 (by decide) h1 h2 HHO.out
              have hZV : Below Z.heap.size Z V := (nb_alloc (Below.refl _ _) _).trans (hkV.below (by simp) (fun k e => by omega))
              have HZV := Lib.hid hZV
              have HMV : Hid (MarkIs V Z.heap.size 1 (fun x => x = (h1, h2))) := Lib.hid (hV.congr (fun x => by simp))
              have hqv : V.heap[w3.heap.size]? = some (.cells #[.slice g1 (gensL s.l).length g2, .slice (some ⟨bb, off, none⟩) nr r2, .slice b1 nb b2] 40) := (hZV.block _ (Array.getElem?_eq_some_iff.1 HQZ.out).1).trans HQZ.out
              have q2 : V.cell? ⟨w3.heap.size, 2, none⟩ = some (.slice b1 nb b2) := (cell_of_row _ _ _ _ _ _ hqv).trans rfl
              have lq := (Array.getElem?_eq_some_iff.1 hqv).1
              have HQV := Lib.hid hqv
              have HHV : Hid (V.heap[hb0]? = some (.cells #[.int .i64 h1, .int .i64 h2] 43)) := Lib.hid ((hZV.block _ lz).trans HZH.out)
              have hZ3s : w3.heap.size < Z.heap.size := (Array.getElem?_eq_some_iff.1 HQZ.out).1
              have HV3 : Hid (Below w3.heap.size w3 V) := Lib.hid (nb_trans HZ3.out hZV)
              clear hV hkV hZV hqv
              go_wp2
              clear hmu hmk z0' z1' q2 lq
              generalize Z.heap.size = gb at *
              go_loopw [81] (fun i wr => ∃ t : Nat, t ≤ nb ∧ i = .int .i64 t ∧ Hid (MarkIs wr gb (1 + 60 * t) (passN s.bs (h1, h2) t)) ∧ Hid (Kept (fun b => b = gb) V wr)) (fun i _ => nb - (intOf i).toNat)
              case atStart => exact ⟨0, by omega, rfl, HMV, Lib.hid (Kept.refl _ _)⟩
              case round =>
                obtain ⟨t, htn, rfl, hM, hK⟩ := hrel
                have hqs : wr.heap[w3.heap.size]? = some (.cells #[.slice g1 (gensL s.l).length g2, .slice (some ⟨bb, off, none⟩) nr r2, .slice b1 nb b2] 40) := (hK.out.block _ (Array.getElem?_eq_some_iff.1 HQV.out).1 (by omega)).trans HQV.out
                have q1 : wr.cell? ⟨w3.heap.size, 1, none⟩ = some (.slice (some ⟨bb, off, none⟩) nr r2) := (cell_of_row _ _ _ _ _ _ hqs).trans rfl
                have q2 : wr.cell? ⟨w3.heap.size, 2, none⟩ = some (.slice b1 nb b2) := (cell_of_row _ _ _ _ _ _ hqs).trans rfl
                have lq := (Array.getElem?_eq_some_iff.1 hqs).1
                clear hqs
                by_cases hlt : t < nb
                · as_aux_lemma =>
                  go_wp2
                  clear q1 q2 lq
                  generalize wr = Yt at *
                  go_loopw [86] (fun i wr => ∃ j : Nat, j ≤ nb ∧ i = .int .i64 j ∧ Hid (MarkIs wr gb (1 + 60 * t + j) (passP (passN s.bs (h1, h2) t) (s.bs.take j))) ∧ Hid (Kept (fun b => b = gb) V wr)) (fun i _ => nb - (intOf i).toNat)
                  case atStart => exact ⟨0, by omega, rfl, hM, hK⟩
                  case round =>
                    obtain ⟨j, hjn, rfl, hMj, hKj⟩ := hrel
                    have HB5 : Hid (Below w3.heap.size w3 wr) := Lib.hid (HV3.out.trans (hKj.out.below HV3.out.size (fun k e => by omega)))
                    by_cases hlt : j < nb
                    · as_aux_lemma =>
                      obtain ⟨bb, off, rfl, hbb, hck⟩ := HBC.out j hlt
                      obtain ⟨y, hy⟩ : ∃ y, s.bs.getD j bdZ0 = y := ⟨_, rfl⟩
                      have hcr : ∀ jj, jj < 4 → wr.cell? ⟨bb, off + j * 4 + jj, none⟩ = (elBond.enc y)[jj]? := fun jj hjj => by rw [(HB5.out).cell (p := ⟨bb, _, none⟩) hbb, ← hy]; exact hck jj hjj
                      have hjl : j < s.bs.length := by rw [HNB.out]; exact hlt
                      have hbw : bb < wr.heap.size := Nat.lt_of_lt_of_le hbb (HB5.out).size
                      obtain ⟨⟨y1, y2⟩, y3, y4⟩ := y
                      have HYM : Hid (((y1, y2), (y3, y4)) ∈ s.bs) := Lib.hid (by rw [← hy]; exact memD hjl)
                      have HYL : Hid (liveH s.l (y1, y2) = true ∧ liveH s.l (y3, y4) = true) := Lib.hid (HOK.out.lv _ HYM.out)
                      have HYO : Hid (okH (y1, y2) ∧ okH (y3, y4)) := Lib.hid ⟨HOK.out.okH HYL.out.1, HOK.out.okH HYL.out.2⟩
                      have c0 : wr.cell? ⟨bb, off + j * 4, none⟩ = some (.int .i64 y1) := hcr 0 (by decide)
                      have c1 : wr.cell? ⟨bb, off + j * 4 + 1, none⟩ = some (.int .i64 y2) := hcr 1 (by decide)
                      have c2 : wr.cell? ⟨bb, off + j * 4 + 2, none⟩ = some (.int .i64 y3) := hcr 2 (by decide)
                      have c3 : wr.cell? ⟨bb, off + j * 4 + 3, none⟩ = some (.int .i64 y4) := hcr 3 (by decide)
                      have HNXT := Lib.hid (fun P => passP_next P bdZ0 hjl)
                      rw [hy] at HNXT
                      have HA : Hid (Below wr.heap.size wr (wr.alloc (.cells #[.int .i64 y1, .int .i64 y2, .int .i64 y3, .int .i64 y4] 58))) := Lib.hid (nb_alloc (Below.refl _ _) _)
                      clear hcr hck hy hjl
                      have HMA := Lib.hid (hMj.out.later HA.out)
                      have HKA : Hid (Kept (fun b => b = gb) V (wr.alloc (.cells #[.int .i64 y1, .int .i64 y2, .int .i64 y3, .int .i64 y4] 58))) := Lib.hid (hKj.out.trans (Kept.ofBelow (F := fun b => b = gb) HA.out) (fun _ h => .inl h))
                      have HNP := Lib.hid (HNXT.out (passN s.bs (h1, h2) t))
                      obtain ⟨P, hP⟩ : ∃ P, passP (passN s.bs (h1, h2) t) (s.bs.take j) = P := ⟨_, rfl⟩
                      rw [hP] at HMA HNP
                      obtain ⟨g, hg⟩ : ∃ g : Bool, g = true ↔ P (y3, y4) := exBool _
                      have HGP := Lib.hid hg
                      have l1 : (Instr.lookup 54 (.map (some (gb))) (.agg #[.int .i64 y3, .int .i64 y4]) false).run Tryz.prog (wr.alloc (.cells #[.int .i64 y1, .int .i64 y2, .int .i64 y3, .int .i64 y4] 58)) = .ok (.bool g) (wr.alloc (.cells #[.int .i64 y1, .int .i64 y2, .int .i64 y3, .int .i64 y4] 58)) := HMA.out.look Tryz.underlying54 (zeroBoolZ _) y3 y4 HYO.out.2 hg
                      clear hP hg
                      cases g
                      · as_aux_lemma =>
                        have HNX : Hid (MarkIs (wr.alloc (.cells #[.int .i64 y1, .int .i64 y2, .int .i64 y3, .int .i64 y4] 58)) gb (1 + 60 * t + (j + 1)) (passP (passN s.bs (h1, h2) t) (s.bs.take (j + 1)))) := Lib.hid ((HMA.out.mono (by omega)).congr (fun x => by
                          rw [HNP.out]
                          exact ⟨.inl, fun e => e.elim id (fun e => by have := HGP.out.2 e.1; cases this)⟩))
                        go_wp2
                        go_roundw
                        case rel => exact ⟨j + 1, by omega, by go_num, HNX, HKA⟩
                        case measure => simp [intOf]; omega
                      · as_aux_lemma =>
                        obtain ⟨V2, hmu, hV2, hkV2⟩ := HMA.out.put Tryz.underlying54 (by unfold maxLen; omega) y1 y2 HYO.out.1
                        have HNX : Hid (MarkIs V2 gb (1 + 60 * t + (j + 1)) (passP (passN s.bs (h1, h2) t) (s.bs.take (j + 1)))) := Lib.hid ((hV2.mono (by omega)).congr (fun x => by
                          rw [HNP.out]
                          exact ⟨fun e => e.imp id (fun e => ⟨HGP.out.1 rfl, e⟩), fun e => e.imp id (fun e => e.2)⟩))
                        have HKB : Hid (Kept (fun b => b = gb) V V2) := Lib.hid (HKA.out.trans hkV2 (fun _ h => .inl h))
                        clear hV2 hkV2
                        go_wp2
                        go_roundw
                        case rel => exact ⟨j + 1, by omega, by go_num, HNX, HKB⟩
                        case measure => simp [intOf]; omega
                    · as_aux_lemma =>
                      obtain rfl : nb = j := by omega
                      have HNX : Hid (MarkIs wr gb (1 + 60 * (t + 1)) (passN s.bs (h1, h2) (t + 1))) := Lib.hid (by
                        have := hMj.out
                        rw [List.take_of_length_le (by rw [HNB.out]; exact Nat.le_refl _)] at this
                        exact this.mono (by omega))
                      go_wp2
                      go_roundw
                      case rel => exact ⟨t + 1, by omega, by go_num, HNX, hKj⟩
                      case measure => simp [intOf]; omega
                · obtain rfl : nb = t := by omega
                  have HMG : Hid (MarkIs wr gb (1 + 60 * nb) (fun x => x = (h1, h2) ∨ Und s.bs x (h1, h2))) := Lib.hid (hM.out.congr (fun x => by
                    have := HOK.out.f.passN x (h1, h2)
                    rwa [HNB.out] at this))
                  have HB5 : Hid (Below w3.heap.size w3 wr) := Lib.hid (HV3.out.trans (hK.out.below HV3.out.size (fun k e => by omega)))
                  have hgbh : hb0 < gb := lz
                  have hqh : wr.heap[hb0]? = some (.cells #[.int .i64 h1, .int .i64 h2] 43) := (hK.out.block _ (Array.getElem?_eq_some_iff.1 HHV.out).1 (by omega)).trans HHV.out
                  have k0 : wr.cell? ⟨hb0, 0, none⟩ = some (.int .i64 h1) := (cell_of_row _ _ _ _ _ _ hqh).trans rfl
                  have k1 : wr.cell? ⟨hb0, 1, none⟩ = some (.int .i64 h2) := (cell_of_row _ _ _ _ _ _ hqh).trans rfl
                  have lk := (Array.getElem?_eq_some_iff.1 hqh).1
                  have HQS2 : Hid (wr.heap[w3.heap.size]? = some (.cells #[.slice g1 (gensL s.l).length g2, .slice (some ⟨bb, off, none⟩) nr r2, .slice b1 nb b2] 40)) := Lib.hid ((hK.out.block _ (Array.getElem?_eq_some_iff.1 HQV.out).1 (by omega)).trans HQV.out)
                  have HDO : Hid (doE s ⟨2, 0, fun _ => 0, h1, h2, 0, 0, 0, 0⟩ = 0 ∧ doZ s ⟨2, 0, fun _ => 0, h1, h2, 0, 0, 0, 0⟩ = killZ s (h1, h2) ∧ doH s ⟨2, 0, fun _ => 0, h1, h2, 0, 0, 0, 0⟩ = (0, 0)) := Lib.hid ⟨by simp [doE, HLV.out], by simp [doZ, HLV.out], by simp [doH]⟩
                  have HGW : Hid (gb < wr.heap.size) := Lib.hid HMG.out.lt
                  have hI0 : I64 0 := ⟨by decide, by decide⟩
                  clear hqh q1 q2 lq
                  go_wp2_with fail
                  refine (zooDo_any p F s ⟨2, 0, fun _ => 0, h1, h2, 0, 0, 0, 0⟩ _ (HZ.out.later (nb_trans HB23.out HB5.out)) HOK.out ⟨HHO.out.1, HHO.out.2, hI0, hI0⟩).mono ?_
                  rintro e w9 hp
                  rw [HDO.out.1, HDO.out.2.1, HDO.out.2.2] at hp
                  obtain ⟨rfl, F9, hz9, hk9, hm9⟩ := hp
                  have HFB : Hid (∀ b, w3.heap.size ≤ b → ¬ F b) := Lib.hid (fun b hb e => by have := HFL.out b e; have := HB23.out.size; omega)
                  have hqs : w9.heap[w3.heap.size]? = some (.cells #[.slice g1 (gensL s.l).length g2, .slice (some ⟨bb, off, none⟩) nr r2, .slice b1 nb b2] 40) := (hk9.block _ (Array.getElem?_eq_some_iff.1 HQS2.out).1 (HFB.out _ (Nat.le_refl _))).trans HQS2.out
                  have q1 : w9.cell? ⟨w3.heap.size, 1, none⟩ = some (.slice (some ⟨bb, off, none⟩) nr r2) := (cell_of_row _ _ _ _ _ _ hqs).trans rfl
                  have lq := (Array.getElem?_eq_some_iff.1 hqs).1
                  have HMG9 : Hid (MarkIs w9 gb (1 + 60 * nb) (fun x => x = (h1, h2) ∨ Und s.bs x (h1, h2))) := Lib.hid (HMG.out.kept hk9 (HFB.out _ (by omega)))
                  have HRC9 : Hid (∀ t, t < nr → ∀ jj, jj < 11 → w9.cell? ⟨bb, off + t * 11 + jj, none⟩ = (elRow.enc (s.rows.getD t rowZ))[jj]?) := Lib.hid (fun t ht jj hjj => by
                    have hrd := (((HST.out.later HB5.out).r).kept hk9 (fun k e e2 => by have := HFL.out k e2; have := HST.out.r.ge e; omega)).reads
                    obtain ⟨a', c', e2, _, _, hc⟩ := hrd
                    simp only [Value.slice.injEq] at e2
                    obtain ⟨rfl, -, -⟩ := e2
                    obtain ⟨b', off', e3, hb3, hc3⟩ := hc t (by rw [HNR.out]; exact ht)
                    simp only [Option.some.injEq, Addr.mk.injEq, and_true] at e3
                    obtain ⟨rfl, rfl⟩ := e3
                    exact hc3 jj hjj)
                  have HBW9 : Hid (bb < w9.heap.size) := Lib.hid (Nat.lt_of_lt_of_le hbb (Nat.le_trans HB5.out.size hk9.size))
                  have HZ9 : Hid (PzAt w9 p F9 (killZ s (h1, h2))) := Lib.hid hz9
                  have HEB : Hid (Below w.heap.size w w9) := Lib.hid ((nb_trans HB3W.out HB5.out).trans (hk9.below (Nat.le_trans HB3W.out.size HB5.out.size) (fun b e => by have := HF.out b e; have := HB1.out.size; omega)))
                  have HW9 : Hid (Below w9.heap.size w9 (w9.alloc (.cells #[.int .i64 0, .int .i64 0] 43))) := Lib.hid (nb_alloc (Below.refl _ _) _)
                  clear hz9 hk9 hm9 hqs k0 k1 lk
                  go_wp2
                  generalize w9.alloc (.cells #[.int .i64 0, .int .i64 0] 43) = W9 at *
                  clear q1 lq
                  go_loopw [18, 111] (fun u i wr => ∃ t : Nat, t ≤ nr ∧ i = .int .i64 t ∧ Hid (OwnsF elRow wr W9.heap.size 56 u (leftR s (h1, h2) (s.rows.take t))) ∧ Hid (Below W9.heap.size W9 wr)) (fun _ i _ => nr - (intOf i).toNat)
                  case atStart => exact ⟨0, by omega, rfl, Lib.hid (OwnsF.nil _ _ _ _), Lib.hid (Below.refl _ _)⟩
                  case round =>
                    obtain ⟨t, htn, rfl, hO, hB⟩ := hrel
                    have HB9 : Hid (Below w9.heap.size w9 wr) := Lib.hid (nb_trans HW9.out hB.out)
                    by_cases hlt : t < nr
                    · obtain ⟨r, hr⟩ : ∃ r, s.rows.getD t rowZ = r := ⟨_, rfl⟩
                      have hcr : ∀ jj, jj < 11 → wr.cell? ⟨bb, off + t * 11 + jj, none⟩ = (elRow.enc r)[jj]? := fun jj hjj => by rw [HB9.out.cell (p := ⟨bb, _, none⟩) HBW9.out, ← hr]; exact HRC9.out t hlt jj hjj
                      obtain ⟨c0, c1, c2, c3, c4, c5, c6, c7, c8, c9, c10⟩ := lRow (O := off + t * 11) (r := r) hcr
                      have htl : t < s.rows.length := by rw [HNR.out]; exact hlt
                      have hbw : bb < wr.heap.size := Nat.lt_of_lt_of_le HBW9.out HB9.out.size
                      have HTK : Hid (s.rows.take (t + 1) = s.rows.take t ++ [r]) := Lib.hid (by rw [take_snocD s.rows t rowZ htl, hr])
                      have HRO : Hid (okH (r.s, r.g)) := Lib.hid (HOK.out.okH (x := (r.s, r.g)) (HOK.out.w.live r (by rw [← hr]; exact memD htl)))
                      have HA : Hid (Below wr.heap.size wr (wr.alloc (.cells #[.int .i64 r.s, .int .i64 r.g, .int .i64 r.m, .int .i64 (r.f 0), .int .i64 (r.f 1), .int .i64 (r.f 2), .int .i64 (r.f 3), .int .i64 (r.f 4), .int .i64 (r.f 5), .int .i64 (r.f 6), .int .i64 (r.f 7)] 56))) := Lib.hid (nb_alloc (Below.refl _ _) _)
                      obtain ⟨L, hL⟩ : ∃ L, leftR s (h1, h2) (s.rows.take t) = L := ⟨_, rfl⟩
                      have HLL : Hid (L.length ≤ 60) := Lib.hid (by rw [← hL]; exact Nat.le_trans (leftR_len _ _ _) (by rw [List.length_take]; omega))
                      have HLE := Lib.hid hL
                      rw [hL] at hO
                      obtain ⟨sa, sc, hse, -⟩ := hO.out.reads
                      subst hse
                      clear hcr hr htl hL
                      have HMA := Lib.hid (HMG9.out.later (nb_trans HB9.out HA.out))
                      obtain ⟨g, hg⟩ : ∃ g : Bool, g = true ↔ ((r.s, r.g) = (h1, h2) ∨ Und s.bs (r.s, r.g) (h1, h2)) := exBool _
                      have HGP := Lib.hid hg
                      have l1 : (Instr.lookup 54 (.map (some gb)) (.agg #[.int .i64 r.s, .int .i64 r.g]) false).run Tryz.prog (wr.alloc (.cells #[.int .i64 r.s, .int .i64 r.g, .int .i64 r.m, .int .i64 (r.f 0), .int .i64 (r.f 1), .int .i64 (r.f 2), .int .i64 (r.f 3), .int .i64 (r.f 4), .int .i64 (r.f 5), .int .i64 (r.f 6), .int .i64 (r.f 7)] 56)) = .ok (.bool g) (wr.alloc (.cells #[.int .i64 r.s, .int .i64 r.g, .int .i64 r.m, .int .i64 (r.f 0), .int .i64 (r.f 1), .int .i64 (r.f 2), .int .i64 (r.f 3), .int .i64 (r.f 4), .int .i64 (r.f 5), .int .i64 (r.f 6), .int .i64 (r.f 7)] 56)) := HMA.out.look Tryz.underlying54 (zeroBoolZ _) r.s r.g HRO.out hg
                      clear hg
                      cases g
                      · have hLL := HLL.out
                        have hsz9 : W9.heap.size ≤ wr.heap.size := hB.out.size
                        go_wp2_with (first | (at_builtin; refine wpList_append_own _ rfl _ _ 30 rfl W9.heap.size 56 i0 _ 11 88 Tryz.underlying30 hi hz0 hz1 hz2 rfl (by decide) _ L.length (L.flatMap elRow.enc) rfl (World.ownsRow.alloc (World.ownsRow.alloc hO.out _) _) ⟨wr.heap.size + 1, 0, none⟩ 1 1 (elRow.enc r) rfl rfl (by exact World.news_of_block (heap_alloc2_new wr _ _)) (elRow.one r) (by unfold maxLen; omega) (by omega) (by simp; omega) ?_))
                        intro v' w7 hown hgr _
                        have HNX : Hid (OwnsF elRow w7 W9.heap.size 56 v' (leftR s (h1, h2) (s.rows.take (t + 1)))) := Lib.hid (by
                          rw [HTK.out, leftR_out _ _ _ _ (fun e => by have := HGP.out.2 e; cases this), HLE.out]
                          exact OwnsF.snoc (x := r) hown)
                        have HBX : Hid (Below W9.heap.size W9 w7) := Lib.hid ((nb_alloc (nb_alloc hB.out _) _).grown hgr (by simp; omega) (fun k e => hO.out.ge e))
                        clear hown hgr
                        go_wp2
                        go_roundw
                        case rel => exact ⟨t + 1, by omega, by go_num, HNX, HBX⟩
                        case measure => simp [intOf]; omega
                      · have HNX : Hid (OwnsF elRow (wr.alloc (.cells #[.int .i64 r.s, .int .i64 r.g, .int .i64 r.m, .int .i64 (r.f 0), .int .i64 (r.f 1), .int .i64 (r.f 2), .int .i64 (r.f 3), .int .i64 (r.f 4), .int .i64 (r.f 5), .int .i64 (r.f 6), .int .i64 (r.f 7)] 56)) W9.heap.size 56 (.slice sa L.length sc) (leftR s (h1, h2) (s.rows.take (t + 1)))) := Lib.hid (by
                          rw [HTK.out, leftR_in _ _ _ _ (HGP.out.1 rfl), HLE.out]
                          exact hO.out.later HA.out)
                        have HBX : Hid (Below W9.heap.size W9 (wr.alloc (.cells #[.int .i64 r.s, .int .i64 r.g, .int .i64 r.m, .int .i64 (r.f 0), .int .i64 (r.f 1), .int .i64 (r.f 2), .int .i64 (r.f 3), .int .i64 (r.f 4), .int .i64 (r.f 5), .int .i64 (r.f 6), .int .i64 (r.f 7)] 56))) := Lib.hid (nb_trans hB.out HA.out)
                        go_wp2
                        go_roundw
                        case rel => exact ⟨t + 1, by omega, by go_num, HNX, HBX⟩
                        case measure => simp [intOf]; omega
                    · as_aux_lemma =>
                      obtain rfl : nr = t := by omega
                      have HOA : Hid (OwnsF elRow wr W9.heap.size 56 u18 (killZ s (h1, h2)).rows) := Lib.hid (by
                        have := hO.out
                        rw [List.take_of_length_le (by rw [HNR.out]; exact Nat.le_refl _), leftR_all] at this
                        exact this)
                      have HOKK : Hid (ZOk (killZ s (h1, h2))) := Lib.hid (HOK.out.killZ _)
                      obtain ⟨sk, hsk⟩ : ∃ sk, killZ s (h1, h2) = sk := ⟨_, rfl⟩
                      rw [hsk] at HOA HOKK HZ9
                      clear hsk
                      go_wp2_with fail
                      refine (zooState_any p F9 sk _ (HZ9.out.later HB9.out) HOKK.out).mono ?_
                      rintro e x1 ⟨xg, xr, xb, rfl, hxt, hx1⟩
                      obtain ⟨xg1, xg2, rfl, -⟩ := hxt.g.reads
                      obtain ⟨xr1, xr2, rfl, -⟩ := hxt.r.reads
                      obtain ⟨xb1, xb2, rfl, -⟩ := hxt.b.reads
                      have HXT := Lib.hid hxt
                      have HX1 := Lib.hid hx1
                      have hfd : ∀ x : World, (Instr.field 40 (.agg #[.slice xg1 (gensL sk.l).length xg2, .slice xr1 sk.rows.length xr2, .slice xb1 sk.bs.length xb2]) 1).run Tryz.prog x = .ok (.slice xr1 sk.rows.length xr2) x := fieldRows _ _ _ _ _ _ _ _ _
                      clear hxt hx1
                      go_wp2_with fail
                      refine (eqRow_same _ _ sk.rows _ HXT.out.r.reads (HOA.out.later HX1.out).reads).mono ?_
                      rintro e x2 ⟨rfl, hx2⟩
                      have HEND : Hid (Below w.heap.size w x2) := Lib.hid (nb_trans (nb_trans HEB.out HB9.out) (nb_trans HX1.out hx2))
                      clear hx2
                      go_wp2
                      go_ret
                      exact ⟨rfl, HEND.out⟩

namespace zooBonds
theorem own : ownKnob Tryz.prog.godebug = none := by kernel_rfl
theorem laidOut : laidOutB Tryz.prog = true := by kernel_rfl

set_option maxRecDepth 100000 in
set_option maxHeartbeats 4000000 in
theorem lifted (os : Os) (started : os.Started) (H : Type) (enc : TypeId × Value → H) :
    ReturnsInHanded {} Tryz.checked os 4 .any (Rows.zooBondsSpec.pre6 enc Tryz.prog Tryz.f4 Rows.zooBondsRow.domain false) (Rows.zooBondsSpec.post enc Tryz.prog Tryz.f4 false true false false) := by
  refine returnsInHanded_of_change (C := Tryz.checked) own started (by kernel_rfl) Tryz.func4
    (ChangeSpec.witness6 (enc := enc) (C := Tryz.checked) false ⟨#[], #[.slice none 0 0, .int .i64 0], []⟩ 8 (by kernel_rfl) (by kernel_rfl) (by kernel_rfl) (by kernel_rfl)) ?_
  intro W base args ds gs before hval0 hW hcnd _
  have hval : ∀ (j : Nat) t v, Tryz.f4.params[j]? = some t → args[j]? = some v → Value.okWide Tryz.prog W .any base t v := hval0
  have hW' := hW
  obtain ⟨p, q, hA0, hV, rfl, hfz, hnd⟩ := hW
  have hA : DataW.TrodAll enc Tryz.prog W 0 (fun _ => true) true Tryz.f4.params.toList args.toList ds p := hA0
  rw [Tryz.params4] at hA hval
  obtain ⟨v0, vs0, d0, ds0, p0, q0, hargs, rfl, rfl, h0, r0⟩ := trodAll_cons hA
  obtain ⟨v1, vs1, d1, ds1, p1, q1, rfl, rfl, rfl, h1, r1⟩ := trodAll_cons r0
  obtain ⟨rfl, rfl, rfl⟩ := trodAll_nil r1
  obtain rfl : args = #[v0, v1] := by cases args; simp_all
  obtain ⟨rfl, rfl⟩ := trodVars_none hV
  have k0' := h0
  have lt0 : ∀ x ∈ p0, x.block < W.heap.size := by obtain ⟨m, hm⟩ := h0; exact DataW.trod_lt m _ _ _ hm
  have k1' := h1
  have lt1 : ∀ x ∈ p1, x.block < W.heap.size := by obtain ⟨m, hm⟩ := h1; exact DataW.trod_lt m _ _ _ hm
  obtain ⟨z0, i0, j0⟩ : ∃ zs, Reads elOp W v0 zs ∧ ∀ x ∈ zs, OpOk x := by
    obtain ⟨a0, len0, cap0, rfl⟩ := okWide_slice Tryz.underlying22 (hval 0 22 v0 rfl rfl)
    exact Reads_ofP elOp OpOk Tryz.underlying22 (by kernel_rfl) op_dec h0
  obtain ⟨a1, rfl, i1⟩ : ∃ a : Int, v1 = .int .i64 a ∧ I64 a := by
    obtain ⟨a, rfl, _, _, wa⟩ := open_int Tryz.underlying3 (hval 1 3 v1 rfl rfl) h1
    exact ⟨a, rfl, I64_of wa⟩
  clear hA0 hval0
  refine (zooBonds_walk v0 z0 j0 a1 i1 W i0).mono fun e W' ⟨he, bel⟩ => ?_
  subst he
  exact ⟨_, rfl, _, _, _, [], _, [], hW', trodAll_mk1 (shut_bool Tryz.underlying4 _), (trodAll_cons_mk (Below.trod laidOut (by kernel_rfl) (of_decide_eq_true (by kernel_rfl)) k0' bel lt0) (trodAll_cons_mk (Below.trod laidOut (by kernel_rfl) (of_decide_eq_true (by kernel_rfl)) k1' bel lt1) trodAll_mk0)), rfl, bel.frame _, fun h => by cases h⟩
end zooBonds

theorem zooBonds_proved : Rows.ZooBondsSaid :=
  OpenClaim.holds_of_wide 4 Tryz.f4 rfl rfl rfl rfl rfl rfl rfl ⟨rfl, rfl, rfl, rfl, rfl⟩ rfl rfl rfl rfl rfl (by kernel_rfl) Tryz.func4 (by kernel_rfl)
    (of_decide_eq_true (by kernel_rfl)) (by unfold Func.isWrapper; first | (rw [if_pos (by decide +kernel)]; kernel_rfl) | (rw [if_neg (by decide +kernel)]; exact ⟨rfl, rfl⟩))
    (fun os started H enc _ => zooBonds.lifted os started H enc)

end Go.Proofs.YtlaahlphfkadjaaGreat

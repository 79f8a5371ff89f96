
/- The reference's Parse. -/
import Derived.Test.YtndhomjfjhohoaaGreatDoorPParse
import Derived.Test.YtndhomjfjhohoaaGreatDoorRNumber
import Derived.Test.YtndhomjfjhohoaaGreatDoorTextRE
import Derived.Test.YtndhomjfjhohoaaGreatDoorGroundD
namespace Go.Proofs.YtndhomjfjhohoaaGreatDoor
set_option maxRecDepth 8000
set_option maxRecDepth 8000
set_option linter.unusedSimpArgs false
open Go Go.RowKit

theorem bad_any (w : World) : Calls Tryz.prog 34 #[] w fun e w' => e = .returned (.tuple #[.agg #[.slice none 0 0, .slice none 0 0, .slice none 0 0], .int .i64 9]) ∧ Below w.heap.size w w' := by
  have hX : Below w.heap.size w (w.alloc (.cells #[.slice none 0 0, .slice none 0 0, .slice none 0 0] 26)) := nb_alloc (Below.refl _ _) _
  have HX := Lib.hid hX
  clear hX
  go_enter Tryz.func34, Tryz.ntmps34
  go_wp2
  refine bodyPost_ret (v := .tuple #[.agg #[.slice none 0 0, .slice none 0 0, .slice none 0 0], .int .i64 9]) (by simp [results, Tryz.results34, go_sem]) rfl ⟨rfl, HX.out⟩
def RParsePost (w : World) (t : List UInt8) (e : Ending) (w' : World) : Prop :=
  ∃ vg vr vb, e = .returned (.tuple #[.agg #[vg, vr, vb], .int .i64 (reE t)]) ∧ SttIs w' w.heap.size vg vr vb (reS t) ∧ Below w.heap.size w w'
theorem RParsePost.no {w w' : World} {t : List UInt8} {z : Int} (h : reE t = z) (hz : z ≠ 0) (hb : Below w.heap.size w w') : RParsePost w t (.returned (.tuple #[.agg #[.slice none 0 0, .slice none 0 0, .slice none 0 0], .int .i64 z])) w' :=
  ⟨_, _, _, by rw [h], by rw [reS, if_neg (by rw [h]; exact hz)]; exact SttIs.zero _ _, hb⟩
theorem cut_suffix {t : List UInt8} (h : Lib.hasSuffix t [10] = true) : 1 ≤ t.length ∧ (bs t).extract 0 (t.length - 1) = bs (Lib.trimSuffix t [10]) := by
  obtain ⟨x, rfl⟩ : ∃ x, t = x ++ [10] := ⟨_, suffix_of h⟩
  rw [(suffix_snoc x 10).2]
  refine ⟨by simp, ?_⟩
  apply ByteArray.ext
  simp [bs]
theorem rf_step {ls : List (List UInt8)} {k : Nat} {s : Stt} {y : List UInt8} {o : Option Stt} (hy : ls[k]? = some y) (h : o = rfLines k s (ls.drop k)) : o = (rfLine k s y).bind fun s' => rfLines (k + 1) s' (ls.drop (k + 1)) := by
  obtain ⟨hk, hy⟩ := List.getElem?_eq_some_iff.1 hy
  rw [List.drop_eq_getElem_cons hk, hy] at h
  exact h
theorem rf_bad {ls : List (List UInt8)} {k : Nat} {s : Stt} {y : List UInt8} {o : Option Stt} (hy : ls[k]? = some y) (h : o = rfLines k s (ls.drop k)) (hn : rfLine k s y = none) : o = none := by
  rw [rf_step hy h, hn]; rfl
theorem rf_next {ls : List (List UInt8)} {k : Nat} {s s' : Stt} {y : List UInt8} {o : Option Stt} (hy : ls[k]? = some y) (h : o = rfLines k s (ls.drop k)) (hn : rfLine k s y = some s') : o = rfLines (k + 1) s' (ls.drop (k + 1)) := by
  rw [rf_step hy h, hn]; rfl
theorem foldW_none (row : Bool) : ∀ ws : List (List UInt8), ws.foldl (stW row) none = none
  | [] => rfl
  | a :: ws => by rw [List.foldl_cons, stW_none]; exact foldW_none row ws
theorem foldW_next {row : Bool} {ws : List (List UInt8)} {j : Nat} {z : List UInt8} {l : List Int} (hz : ws[j]? = some z) (h : (ws.take j).foldl (stW row) (some []) = some l) : (ws.take (j + 1)).foldl (stW row) (some []) = stW row (some l) z := by
  rw [List.take_add_one, hz, Option.toList_some, List.foldl_append, h]; rfl
theorem foldW_bad {row : Bool} {ws : List (List UInt8)} {j : Nat} {z : List UInt8} {l : List Int} (hz : ws[j]? = some z) (h : (ws.take j).foldl (stW row) (some []) = some l) (hn : stW row (some l) z = none) : ws.foldl (stW row) (some []) = none := by
  rw [← List.take_append_drop (j + 1) ws, List.foldl_append, foldW_next hz h, hn, foldW_none]
/-- 'append(n, k ..)': the numbers lie in a new block. -/
theorem app_new {w : World} {B : Nat} {v : Value} {xs : List Int} (ys : List Int) (h : OwnsF elInt w B 3 v xs) (hl : (xs.length + ys.length) * 8 ≤ 140737488355328) (hB : B ≤ w.heap.size) :
    ∃ v' w', (Builtin.append_ #[22, 22] 22 #[v, .slice (some ⟨w.heap.size, 0, none⟩) ys.length ys.length]).run Tryz.prog (w.alloc (.cells (ys.map (Value.int .i64)).toArray 3)) = .ok v' w' ∧ OwnsF elInt w' B 3 v' (xs ++ ys) ∧ Below B w w' := by
  obtain ⟨i0, hi, hz0, hz1, hz2⟩ := info_parts infoInt
  have h' := h.later (nb_alloc (Below.refl _ _) (.cells (ys.map (Value.int .i64)).toArray 3))
  have hcell := World.news_of_block (heap_alloc_new w (.cells (ys.map (Value.int .i64)).toArray 3))
  have hfl : ys.flatMap elInt.enc = ys.map (Value.int .i64) := flatMap_int ys
  obtain ⟨v', w', hr, ho, hgr, -, hat⟩ := run_append_own_at (P := Tryz.prog) (w.alloc (.cells (ys.map (Value.int .i64)).toArray 3)) B 22 22 3 i0 (.int .i64 0) 1 8 Tryz.underlying22 hi hz0 hz1 hz2 rfl (by decide) v _ _ h' ⟨w.heap.size, 0, none⟩ ys.length ys.length (ys.flatMap elInt.enc) (length_enc elInt ys) (fun j u hu => hcell j u (by rw [List.toList_toArray, ← hfl]; exact hu)) (fun u hu => by
      obtain ⟨x, _, hx⟩ := List.mem_flatMap.1 hu
      exact elInt.one x u hx) (by unfold maxLen; omega) hl (by rw [World.size_alloc]; omega)
  refine ⟨v', w', hr, by unfold OwnsF; rw [List.flatMap_append, List.length_append]; exact ho, ?_⟩
  exact ((nb_alloc (Below.refl w.heap.size w) _).mono hB).trans ((Kept.grown (F := fun k => v.ownBlock = some k) hgr (fun k e => e)).below (by rw [World.size_alloc]; omega) (fun k e => h.ge e))
/-- 'append(s.Rows, r)': the row lies in a new block. -/
theorem appR_new {w : World} {B : Nat} {v : Value} {xs : List Rw} (x : Rw) (h : OwnsF elRow w B 54 v xs) (hl : xs.length ≤ 10000) (hB : B ≤ w.heap.size) :
    ∃ v' w', (Builtin.append_ #[23, 23] 23 #[v, .slice (some ⟨w.heap.size, 0, none⟩) 1 1]).run Tryz.prog (w.alloc (.cells #[.int .i64 x.s, .int .i64 x.g, .int .i64 x.m, .int .i64 (x.f 0), .int .i64 (x.f 1), .int .i64 (x.f 2), .int .i64 (x.f 3), .int .i64 (x.f 4), .int .i64 (x.f 5), .int .i64 (x.f 6), .int .i64 (x.f 7)] 54)) = .ok v' w' ∧ OwnsF elRow w' B 54 v' (xs ++ [x]) ∧ Kept (fun k => v.ownBlock = some k) w w' ∧ (∀ k, v'.ownBlock = some k → v.ownBlock = some k ∨ w.heap.size ≤ k) := by
  obtain ⟨i1, hi, hz0, hz1, hz2⟩ := info_parts infoRow
  have hb := nb_alloc (Below.refl w.heap.size w) (.cells #[.int .i64 x.s, .int .i64 x.g, .int .i64 x.m, .int .i64 (x.f 0), .int .i64 (x.f 1), .int .i64 (x.f 2), .int .i64 (x.f 3), .int .i64 (x.f 4), .int .i64 (x.f 5), .int .i64 (x.f 6), .int .i64 (x.f 7)] 54)
  have h' := h.later hb
  have hcell := World.news_of_block (heap_alloc_new w (.cells #[.int .i64 x.s, .int .i64 x.g, .int .i64 x.m, .int .i64 (x.f 0), .int .i64 (x.f 1), .int .i64 (x.f 2), .int .i64 (x.f 3), .int .i64 (x.f 4), .int .i64 (x.f 5), .int .i64 (x.f 6), .int .i64 (x.f 7)] 54))
  obtain ⟨v', w', hr, ho, hgr, -, hat⟩ := run_append_own_at (P := Tryz.prog) (w.alloc (.cells #[.int .i64 x.s, .int .i64 x.g, .int .i64 x.m, .int .i64 (x.f 0), .int .i64 (x.f 1), .int .i64 (x.f 2), .int .i64 (x.f 3), .int .i64 (x.f 4), .int .i64 (x.f 5), .int .i64 (x.f 6), .int .i64 (x.f 7)] 54)) B 23 23 54 i1 _ 11 88 Tryz.underlying23 hi hz0 hz1 hz2 rfl (by decide) v _ _ h' ⟨w.heap.size, 0, none⟩ 1 1 [.int .i64 x.s, .int .i64 x.g, .int .i64 x.m, .int .i64 (x.f 0), .int .i64 (x.f 1), .int .i64 (x.f 2), .int .i64 (x.f 3), .int .i64 (x.f 4), .int .i64 (x.f 5), .int .i64 (x.f 6), .int .i64 (x.f 7)] rfl (fun j u hu => hcell j u hu) (elRow.one x) (by unfold maxLen; omega) (by omega) (by rw [World.size_alloc]; omega)
  refine ⟨v', w', hr, OwnsF.snoc ho, (Kept.ofBelow hb).trans (Kept.grown hgr (fun k e => e)) (fun k e => .inl e), fun k e => ?_⟩
  rcases hat with hat | hat
  · exact .inl (hat ▸ e)
  · rw [hat] at e; simp only [Option.some.injEq, World.size_alloc] at e; exact .inr (by omega)
theorem prs_get : ∀ (ps : List (Int × Int)) (i : Nat) (p : Int × Int), ps[i]? = some p → (prs ps)[2 * i]? = some p.1 ∧ (prs ps)[2 * i + 1]? = some p.2
  | (k, v) :: ps, 0, p, h => by
    simp only [List.getElem?_cons_zero, Option.some.injEq] at h
    subst h
    exact ⟨rfl, rfl⟩
  | (k, v) :: ps, i + 1, p, h => by
    have := prs_get ps i p (by simpa using h)
    rw [show 2 * (i + 1) = 2 * i + 1 + 1 by omega]
    simp only [prs, List.getElem?_cons_succ]
    exact this
  | [], _, _, h => by simp at h
theorem rowv_set (a b m : Int) (f : Nat → Int) (j : Nat) (x : Int) (h : j < 8) : (#[.int .i64 a, .int .i64 b, .int .i64 m, .int .i64 (f 0), .int .i64 (f 1), .int .i64 (f 2), .int .i64 (f 3), .int .i64 (f 4), .int .i64 (f 5), .int .i64 (f 6), .int .i64 (f 7)] : Array Value).setIfInBounds (2 + 1 + j) (.int .i64 x) = #[.int .i64 a, .int .i64 b, .int .i64 m, .int .i64 ((upd f j x) 0), .int .i64 ((upd f j x) 1), .int .i64 ((upd f j x) 2), .int .i64 ((upd f j x) 3), .int .i64 ((upd f j x) 4), .int .i64 ((upd f j x) 5), .int .i64 ((upd f j x) 6), .int .i64 ((upd f j x) 7)] := by
  obtain rfl | rfl | rfl | rfl | rfl | rfl | rfl | rfl : j = 0 ∨ j = 1 ∨ j = 2 ∨ j = 3 ∨ j = 4 ∨ j = 5 ∨ j = 6 ∨ j = 7 := by omega
  all_goals rfl
theorem rowv_at (a b m : Int) (f : Nat → Int) (j : Nat) (h : j < 8) : (#[.int .i64 a, .int .i64 b, .int .i64 m, .int .i64 (f 0), .int .i64 (f 1), .int .i64 (f 2), .int .i64 (f 3), .int .i64 (f 4), .int .i64 (f 5), .int .i64 (f 6), .int .i64 (f 7)] : Array Value)[2 + 1 + j]? = some (.int .i64 (f j)) := by
  obtain rfl | rfl | rfl | rfl | rfl | rfl | rfl | rfl : j = 0 ∨ j = 1 ∨ j = 2 ∨ j = 3 ∨ j = 4 ∨ j = 5 ∨ j = 6 ∨ j = 7 := by omega
  all_goals rfl
theorem sp_t {α : Type} {l : List α} {i : Nat} {a : α} : l.toArray.setIfInBounds i a = (l.set i a).toArray := List.setIfInBounds_toArray ..
theorem sp_0 {α : Type} {x : α} {l : List α} {a : α} : (x :: l).set 0 a = a :: l := List.set_cons_zero ..
theorem sp_s {α : Type} {x : α} {l : List α} {n : Nat} {a : α} : (x :: l).set (n + 1) a = x :: l.set n a := List.set_cons_succ ..
theorem addK_next {ps : List (Int × Int)} {i : Nat} {p : Int × Int} (h : ps[i]? = some p) (m : Int) (f : Nat → Int) : addK (prs (ps.drop i)) m f = if hasK m p.1 || decide ((2 : Int) ^ p.1.toNat ≤ m) then none else addK (prs (ps.drop (i + 1))) (m + 2 ^ p.1.toNat) (upd f p.1.toNat p.2) := by
  obtain ⟨hi, rfl⟩ := List.getElem?_eq_some_iff.1 h
  rw [List.drop_eq_getElem_cons hi]
  generalize ps[i] = q
  obtain ⟨k, v⟩ := q
  rw [prs, addK]
set_option maxHeartbeats 16000000 in
theorem refParse_any (hpr : ∀ (vg vr vb : Value) (gens : List Int) (rs : List Rw) (bds : List Bd) (w : World), Ints w vg gens → Reads elRow w vr rs → Reads elBond w vb bds → Calls Tryz.prog 9 #[.agg #[vg, vr, vb]] w fun e w' => e = .returned (.tuple #[.string (bs (prT gens rs bds)), .int .i64 (prE gens rs bds)]) ∧ Below w.heap.size w w')
    (t : List UInt8) (w : World) (hl : t.length ≤ 9223372036854775807) (hv : VarsIs w) :
    Calls Tryz.prog 11 #[.string (bs t)] w (RParsePost w t) := by
  have HPRT := Lib.hid hpr
  clear hpr
  have hX : Below w.heap.size w (w.alloc (.cells #[.slice none 0 0, .slice none 0 0, .slice none 0 0] 26)) := nb_alloc (Below.refl _ _) _
  have hxb : (w.alloc (.cells #[.slice none 0 0, .slice none 0 0, .slice none 0 0] 26)).heap[w.heap.size]? = some (.cells #[.slice none 0 0, .slice none 0 0, .slice none 0 0] 26) := heap_alloc_new _ _
  have HX := Lib.hid hX
  have HXB := Lib.hid hxb
  have HV := Lib.hid hv
  clear hX hxb hv
  have hbsz : (bs t).size = t.length := bs_size t
  go_enter Tryz.func11, Tryz.ntmps11
  by_cases h6 : 6000 < t.length
  · have HE : Hid (reE t = 2) := Lib.hid (by rw [reE, if_pos h6])
    go_wp2
    refine bodyPost_ret (v := .tuple #[.agg #[.slice none 0 0, .slice none 0 0, .slice none 0 0], .int .i64 2]) (by simp [results, Tryz.results11, go_sem]) rfl (RParsePost.no HE.out (by decide) ?_)
    exact HX.out
  · have HS := Lib.hid (hasSuffix_any 10 t (by omega) (w.alloc (.cells #[.slice none 0 0, .slice none 0 0, .slice none 0 0] 26)))
    obtain ⟨suf, hsuf⟩ : ∃ b, Lib.hasSuffix t [10] = b := ⟨_, rfl⟩
    have HSU := Lib.hid hsuf
    rw [hsuf] at HS
    have h6000 : t.length ≤ 6000 := by omega
    clear hsuf
    go_wp2_with (go_at_call 35; refine HS.out.mono ?_; rintro e w' ⟨rfl, rfl⟩; refine Hid.out ?_)
    refine Lib.hid ?_
    cases suf
    · as_aux_lemma =>
        have HE : Hid (reE t = 9) := Lib.hid (by rw [reE, if_neg h6, HSU.out]; rfl)
        have HZ0 := HXB
        have HBV := HX
        generalize (w.alloc (.cells #[.slice none 0 0, .slice none 0 0, .slice none 0 0] 26)) = V at *
        go_wp2_with (go_at_call 34; refine (bad_any _).mono ?_; rintro e WB ⟨rfl, hbb⟩; refine Hid.out ?_)
        refine Lib.hid ?_
        have hz0 := (hbb.block _ (Array.getElem?_eq_some_iff.1 HZ0.out).1).trans HZ0.out
        have k0 : WB.cell? ⟨w.heap.size, 0, none⟩ = some (.slice none 0 0) := by rw [cell_of_row _ _ _ _ _ _ hz0]; rfl
        have k1 : WB.cell? ⟨w.heap.size, 1, none⟩ = some (.slice none 0 0) := by rw [cell_of_row _ _ _ _ _ _ hz0]; rfl
        have k2 : WB.cell? ⟨w.heap.size, 2, none⟩ = some (.slice none 0 0) := by rw [cell_of_row _ _ _ _ _ _ hz0]; rfl
        have fz : ∀ j, WB.frozen? ⟨w.heap.size, j, none⟩ = false := fun j => frozen_of_row _ _ _ _ _ hz0
        have hzl : w.heap.size < WB.heap.size := (Array.getElem?_eq_some_iff.1 hz0).1
        have HBB := Lib.hid (nb_trans HBV.out hbb)
        clear hz0 hbb
        go_wp2
        refine bodyPost_ret (v := .tuple #[.agg #[.slice none 0 0, .slice none 0 0, .slice none 0 0], .int .i64 9]) (by simp [results, Tryz.results11, go_sem, k0, k1, k2]) rfl (RParsePost.no HE.out (by decide) ?_)
        iterate 3 (refine nb_setW ?_ _ _ _ (Nat.le_refl _))
        exact HBB.out
    · have HRE : Hid (reE t = match rfLines 0 sttZ (spl 10 (Lib.trimSuffix t [10])) with | none => 9 | some s => if prE s.g s.r s.b = 0 then 0 else 9) := Lib.hid (by rw [reE, if_neg h6, if_pos HSU.out]; cases rfLines 0 sttZ (spl 10 (Lib.trimSuffix t [10])) <;> rfl)
      have HRS : Hid (reS t = if reE t = 0 then (rfLines 0 sttZ (spl 10 (Lib.trimSuffix t [10]))).getD sttZ else sttZ) := Lib.hid rfl
      obtain ⟨hl1, hcut⟩ := cut_suffix HSU.out
      have htl := Lib.trimSuffix_le t [10]
      obtain ⟨T, hT⟩ : ∃ T, Lib.trimSuffix t [10] = T := ⟨_, rfl⟩
      rw [hT] at HRE HRS hcut htl
      clear hT
      have hy1 := heap_alloc2_old w (.cells #[.slice none 0 0, .slice none 0 0, .slice none 0 0] 26) (.cells #[.slice none 0 0, .slice none 0 0, .slice none 0 0] 26)
      have hy2 := heap_alloc2_new w (.cells #[.slice none 0 0, .slice none 0 0, .slice none 0 0] 26) (.cells #[.slice none 0 0, .slice none 0 0, .slice none 0 0] 26)
      have hyb : Below w.heap.size w ((w.alloc (.cells #[.slice none 0 0, .slice none 0 0, .slice none 0 0] 26)).alloc (.cells #[.slice none 0 0, .slice none 0 0, .slice none 0 0] 26)) := nb_alloc (nb_alloc (Below.refl _ _) _) _
      have hys : ((w.alloc (.cells #[.slice none 0 0, .slice none 0 0, .slice none 0 0] 26)).alloc (.cells #[.slice none 0 0, .slice none 0 0, .slice none 0 0] 26)).heap.size = w.heap.size + 2 := by simp
      have HS2 := Lib.hid (split_any 10 T (by omega) _ (HV.out.later hyb))
      obtain ⟨ls, hls⟩ : ∃ l, spl 10 T = l := ⟨_, rfl⟩
      have HLL : Hid (∀ x ∈ ls, x.length ≤ 6000) := Lib.hid (fun x hx => by rw [← hls] at hx; have := spl_le hx; omega)
      have hlsl : ls.length ≤ 6001 := by
        have := spl_len 10 T
        have h2 : T.count 10 ≤ T.length := List.count_le_length
        rw [← hls]; omega
      rw [hls] at HS2 HRE HRS
      have HY1 := Lib.hid hy1
      have HY2 := Lib.hid hy2
      have HYB := Lib.hid hyb
      have HYS := Lib.hid hys
      clear hls hy1 hy2 hyb hys HX HXB HS
      go_wp2_with (go_at_call 36; refine HS2.out.mono ?_; rintro e w' ⟨rfl, rfl⟩; refine Hid.out ?_)
      refine Lib.hid ?_
      generalize ((w.alloc (.cells #[.slice none 0 0, .slice none 0 0, .slice none 0 0] 26)).alloc (.cells #[.slice none 0 0, .slice none 0 0, .slice none 0 0] 26)) = Y at *
      have hP : (Y.alloc (.cells (ls.map fun x => Value.string (bs x)).toArray 9)).heap[w.heap.size + 1 + 1]? = some (.cells (ls.map fun x => Value.string (bs x)).toArray 9) := by
        have := heap_alloc_new Y (.cells (ls.map fun x => Value.string (bs x)).toArray 9)
        rwa [HYS.out] at this
      have HP := Lib.hid hP
      have HB0 : Hid (Below w.heap.size w (Y.alloc (.cells (ls.map fun x => Value.string (bs x)).toArray 9))) := Lib.hid (nb_alloc HYB.out _)
      have HY1' := Lib.hid (heap_alloc_older (o := .cells (ls.map fun x => Value.string (bs x)).toArray 9) HY1.out)
      have HY2' := Lib.hid (heap_alloc_older (o := .cells (ls.map fun x => Value.string (bs x)).toArray 9) HY2.out)
      generalize (Y.alloc (.cells (ls.map fun x => Value.string (bs x)).toArray 9)) = Z at *
      clear HS2 HY1 HY2 HYB HYS hP
      go_wp2
      go_loopw [43] (fun i wr => ∃ (k : Nat) (s : Stt) (vg vr vb : Value), k ≤ ls.length ∧ i = .int .i64 k ∧ Hid (rfLines 0 sttZ ls = rfLines k s (ls.drop k)) ∧ Hid (StO wr (w.heap.size + 1) w.heap.size s vg vr vb) ∧ Hid (s.b = [] → vb = .slice none 0 0) ∧ Hid (wr.heap[w.heap.size]? = some (.cells #[.slice none 0 0, .slice none 0 0, .slice none 0 0] 26)) ∧ Hid (wr.heap[w.heap.size + 1 + 1]? = some (.cells (ls.map fun x => Value.string (bs x)).toArray 9)) ∧ Hid (Below w.heap.size w wr) ∧ Hid (s.g.length ≤ 12002 ∧ s.r.length ≤ k ∧ s.b.length ≤ k)) (fun i _ => ls.length - (intOf i).toNat)
      case atStart => exact ⟨0, sttZ, _, _, _, by omega, rfl, Lib.hid rfl, Lib.hid ⟨HY2'.out, OwnsF.nil _ _ _ _, OwnsF.nil _ _ _ _, OwnsF.nil _ _ _ _⟩, Lib.hid (fun _ => rfl), HY1', HP, HB0, Lib.hid ⟨by simp [sttZ], by simp [sttZ], by simp [sttZ]⟩⟩
      case round =>
        obtain ⟨k, s, vg, vr, vb, hk, rfl, hs, hO, hnil, h1, hPc, hB, hz⟩ := hrel
        by_cases hlt : k < ls.length
        · obtain ⟨y, hy⟩ : ∃ y, ls[k]? = some y := ⟨_, List.getElem?_eq_getElem hlt⟩
          have hyl := HLL.out y (List.mem_of_getElem? hy)
          have c0 : wr.cell? ⟨w.heap.size + 1 + 1, k, none⟩ = some (.string (bs y)) := by rw [cell_of_row _ _ _ _ _ _ hPc.out]; simp [hy]
          have hbw : w.heap.size + 1 + 1 < wr.heap.size := (Array.getElem?_eq_some_iff.1 hPc.out).1
          have HYK := Lib.hid hy
          have HSL := Lib.hid (split_any 32 y (by omega) wr (HV.out.later hB.out))
          clear hy
          obtain ⟨F, Tl, hsp⟩ : ∃ F T, spl 32 y = F :: T := by
            cases h : spl 32 y with
            | nil => exact absurd h (spl_ne _ _)
            | cons a b => exact ⟨a, b, rfl⟩
          obtain ⟨N, hN⟩ : ∃ n, Tl.length = n := ⟨_, rfl⟩
          have hN6 : N ≤ 6000 := by
            have h1 := spl_len 32 y
            have h2 : y.count 32 ≤ y.length := List.count_le_length
            rw [hsp, List.length_cons, hN] at h1; omega
          have HTL : Hid (∀ x ∈ Tl, x.length ≤ 6000) := Lib.hid (fun x hx => by
            have := spl_le (show x ∈ spl 32 y by rw [hsp]; exact List.mem_cons_of_mem _ hx); omega)
          have HRF : Hid (rfLine k s y = ((Tl.foldl (stW (decide (F = rowW))) (some [])).bind fun n => if k = 0 ∧ F = gensW then some ⟨n, s.r, s.b⟩ else if 0 < k ∧ F = rowW ∧ 2 ≤ n.length ∧ s.b = [] then (addK (n.drop 2) 0 (fun _ => 0)).map fun b => ⟨s.g, s.r ++ [⟨n.getD 0 0, n.getD 1 0, b.1, b.2⟩], s.b⟩ else if 0 < k ∧ F = bondW ∧ n.length = 4 then some ⟨s.g, s.r, s.b ++ [((n.getD 0 0, n.getD 1 0), (n.getD 2 0, n.getD 3 0))]⟩ else none)) := Lib.hid (by
            rw [rfLine, rfWords, hsp]; rfl)
          rw [hsp, List.length_cons, hN, List.map_cons] at HSL
          have HNT := Lib.hid hN
          clear hsp hN
          go_wp2_with (go_at_call 36; refine HSL.out.mono ?_; rintro e w' ⟨rfl, rfl⟩; refine Hid.out ?_)
          refine Lib.hid ?_
          have HWB := Lib.hid (heap_alloc_new wr (.cells (Value.string (bs F) :: Tl.map fun x => Value.string (bs x)).toArray 9))
          have hbv := nb_alloc (Below.refl wr.heap.size wr) (.cells (Value.string (bs F) :: Tl.map fun x => Value.string (bs x)).toArray 9)
          have HOV := Lib.hid (hO.out.later hbv)
          have H1V := Lib.hid (heap_alloc_older (o := .cells (Value.string (bs F) :: Tl.map fun x => Value.string (bs x)).toArray 9) h1.out)
          have HPV := Lib.hid (heap_alloc_older (o := .cells (Value.string (bs F) :: Tl.map fun x => Value.string (bs x)).toArray 9) hPc.out)
          have HBV0 := Lib.hid (nb_trans hB.out hbv)
          clear hbv c0
          generalize wr.alloc (.cells (Value.string (bs F) :: Tl.map fun x => Value.string (bs x)).toArray 9) = V at *
          generalize wr.heap.size = q at *
          clear HSL hO h1 hPc hB
          have HBADL : Hid (rfLine k s y = none → reE t = 9) := Lib.hid (fun h => by rw [HRE.out, rf_bad HYK.out hs.out h])
          obtain ⟨row, hrow⟩ : ∃ b, decide (F = rowW) = b := ⟨_, rfl⟩
          have e1 : (F == [114, 111, 119]) = row := by
            rw [← hrow]
            by_cases hF : F = rowW
            · rw [hF]; rfl
            · rw [decide_eq_false hF]; simp only [beq_eq_false_iff_ne]; exact hF
          have HROW := Lib.hid hrow
          rw [hrow] at HRF
          clear hrow
          have HBADW : Hid (Tl.foldl (stW row) (some []) = none → reE t = 9) := Lib.hid (fun h => HBADL.out (by rw [HRF.out, h]; rfl))
          by_cases hN0 : N = 0
          · as_aux_lemma =>
              subst hN0
              have hTl : Tl = [] := List.eq_nil_of_length_eq_zero HNT.out
              have HRW : Hid (rfLine k s y = if k = 0 ∧ F = gensW then some ⟨[], s.r, s.b⟩ else none) := Lib.hid (by
                rw [HRF.out, hTl]
                show (if k = 0 ∧ F = gensW then some (⟨[], s.r, s.b⟩ : Stt) else if 0 < k ∧ F = rowW ∧ 2 ≤ 0 ∧ s.b = [] then _ else if 0 < k ∧ F = bondW ∧ (0 : Nat) = 4 then _ else none) = _
                rw [if_neg (show ¬ (0 < k ∧ F = rowW ∧ 2 ≤ 0 ∧ s.b = []) from fun h => by omega), if_neg (show ¬ (0 < k ∧ F = bondW ∧ (0 : Nat) = 4) from fun h => by omega)])
              have hWX := HWB.out
              have hd0 : V.cell? ⟨q, 0, none⟩ = some (.string (bs F)) := by rw [cell_of_row _ _ _ _ _ _ hWX]; rfl
              have hq0 : q < V.heap.size := (Array.getElem?_eq_some_iff.1 hWX).1
              have HBV := HBV0
              have HZ0 := H1V
              clear hWX hTl HRF HBADW
              go_wp2
              go_loopw [9, 53] (fun s9 i wx => s9 = .slice none 0 0 ∧ i = .int .i64 0 ∧ wx = V) (fun _ i _ => 0)
              case atStart => exact ⟨rfl, rfl, rfl⟩
              case round =>
                obtain ⟨rfl, rfl, rfl⟩ := hrel
                by_cases hk0 : k = 0
                · subst hk0
                  by_cases hF1 : F = gensW
                  · have e2 : (F == [103, 101, 110, 115]) = true := by rw [hF1]; rfl
                    have HRS2 : Hid (rfLine 0 s y = some ⟨[], s.r, s.b⟩) := Lib.hid (by rw [HRW.out, if_pos ⟨rfl, hF1⟩])
                    have hat := HOV.out.at_
                    have g0 : wr.cell? ⟨w.heap.size + 1, 0, none⟩ = some vg := by rw [cell_of_row _ _ _ _ _ _ hat]; rfl
                    have gf : wr.frozen? ⟨w.heap.size + 1, 0, none⟩ = false := frozen_of_row _ _ _ _ _ hat
                    have gl2 : w.heap.size + 1 < wr.heap.size := (Array.getElem?_eq_some_iff.1 hat).1
                    have HPUT := Lib.hid (HOV.out.putG (X := wr) (v' := .slice none 0 0) (xs := []) (Kept.refl _ _) (OwnsF.nil _ _ _ _) (fun k e => by simp [Value.ownBlock] at e))
                    clear hat hF1
                    go_wp2
                    go_roundw
                    case rel =>
                      have hkp := HPUT.out.2
                      exact ⟨1, ⟨[], s.r, s.b⟩, .slice none 0 0, vr, vb, by omega, by go_num, Lib.hid (rf_next HYK.out hs.out HRS2.out), Lib.hid HPUT.out.1, hnil, Lib.hid ((hkp.block _ (Array.getElem?_eq_some_iff.1 H1V.out).1 (HOV.out.far H1V.out (.inr rfl) (by omega))).trans H1V.out), Lib.hid ((hkp.block _ (Array.getElem?_eq_some_iff.1 HPV.out).1 (HOV.out.far HPV.out (.inl rfl) (by omega))).trans HPV.out), Lib.hid (HBV0.out.trans (hkp.below HBV0.out.size (HOV.out.fb (by omega)))), Lib.hid ⟨by simp, Nat.le_trans hz.out.2.1 (by omega), Nat.le_trans hz.out.2.2 (by omega)⟩⟩
                    case measure => simp [intOf]; omega
                  · have e2 : (F == [103, 101, 110, 115]) = false := by simp only [beq_eq_false_iff_ne]; exact hF1
                    have HE : Hid (reE t = 9) := Lib.hid (HBADL.out (by rw [HRW.out, if_neg (fun h => hF1 h.2)]))
                    clear hF1
                    go_wp2_with (go_at_call 34; refine (bad_any _).mono ?_; rintro e WB ⟨rfl, hbb⟩; refine Hid.out ?_)
                    refine Lib.hid ?_
                    have hz0 := (hbb.block _ (Array.getElem?_eq_some_iff.1 HZ0.out).1).trans HZ0.out
                    have k0 : WB.cell? ⟨w.heap.size, 0, none⟩ = some (.slice none 0 0) := by rw [cell_of_row _ _ _ _ _ _ hz0]; rfl
                    have k1 : WB.cell? ⟨w.heap.size, 1, none⟩ = some (.slice none 0 0) := by rw [cell_of_row _ _ _ _ _ _ hz0]; rfl
                    have k2 : WB.cell? ⟨w.heap.size, 2, none⟩ = some (.slice none 0 0) := by rw [cell_of_row _ _ _ _ _ _ hz0]; rfl
                    have fz : ∀ j, WB.frozen? ⟨w.heap.size, j, none⟩ = false := fun j => frozen_of_row _ _ _ _ _ hz0
                    have hzl : w.heap.size < WB.heap.size := (Array.getElem?_eq_some_iff.1 hz0).1
                    have HBB := Lib.hid (nb_trans HBV.out hbb)
                    clear hz0 hbb
                    go_wp2
                    refine bodyPost_ret (v := .tuple #[.agg #[.slice none 0 0, .slice none 0 0, .slice none 0 0], .int .i64 9]) (by simp [results, Tryz.results11, go_sem, k0, k1, k2]) rfl (RParsePost.no HE.out (by decide) ?_)
                    iterate 3 (refine nb_setW ?_ _ _ _ (Nat.le_refl _))
                    exact HBB.out
                · have HE : Hid (reE t = 9) := Lib.hid (HBADL.out (by rw [HRW.out, if_neg (fun h => hk0 h.1)]))
                  have hk1 : 0 < k := by omega
                  obtain ⟨bnd, e3⟩ : ∃ b, (F == [98, 111, 110, 100]) = b := ⟨_, rfl⟩
                  cases row
                  · cases bnd
                    · skip
                      go_wp2_with (go_at_call 34; refine (bad_any _).mono ?_; rintro e WB ⟨rfl, hbb⟩; refine Hid.out ?_)
                      refine Lib.hid ?_
                      have hz0 := (hbb.block _ (Array.getElem?_eq_some_iff.1 HZ0.out).1).trans HZ0.out
                      have k0 : WB.cell? ⟨w.heap.size, 0, none⟩ = some (.slice none 0 0) := by rw [cell_of_row _ _ _ _ _ _ hz0]; rfl
                      have k1 : WB.cell? ⟨w.heap.size, 1, none⟩ = some (.slice none 0 0) := by rw [cell_of_row _ _ _ _ _ _ hz0]; rfl
                      have k2 : WB.cell? ⟨w.heap.size, 2, none⟩ = some (.slice none 0 0) := by rw [cell_of_row _ _ _ _ _ _ hz0]; rfl
                      have fz : ∀ j, WB.frozen? ⟨w.heap.size, j, none⟩ = false := fun j => frozen_of_row _ _ _ _ _ hz0
                      have hzl : w.heap.size < WB.heap.size := (Array.getElem?_eq_some_iff.1 hz0).1
                      have HBB := Lib.hid (nb_trans HBV.out hbb)
                      clear hz0 hbb
                      go_wp2
                      refine bodyPost_ret (v := .tuple #[.agg #[.slice none 0 0, .slice none 0 0, .slice none 0 0], .int .i64 9]) (by simp [results, Tryz.results11, go_sem, k0, k1, k2]) rfl (RParsePost.no HE.out (by decide) ?_)
                      iterate 3 (refine nb_setW ?_ _ _ _ (Nat.le_refl _))
                      exact HBB.out
                    · skip
                      go_wp2_with (go_at_call 34; refine (bad_any _).mono ?_; rintro e WB ⟨rfl, hbb⟩; refine Hid.out ?_)
                      refine Lib.hid ?_
                      have hz0 := (hbb.block _ (Array.getElem?_eq_some_iff.1 HZ0.out).1).trans HZ0.out
                      have k0 : WB.cell? ⟨w.heap.size, 0, none⟩ = some (.slice none 0 0) := by rw [cell_of_row _ _ _ _ _ _ hz0]; rfl
                      have k1 : WB.cell? ⟨w.heap.size, 1, none⟩ = some (.slice none 0 0) := by rw [cell_of_row _ _ _ _ _ _ hz0]; rfl
                      have k2 : WB.cell? ⟨w.heap.size, 2, none⟩ = some (.slice none 0 0) := by rw [cell_of_row _ _ _ _ _ _ hz0]; rfl
                      have fz : ∀ j, WB.frozen? ⟨w.heap.size, j, none⟩ = false := fun j => frozen_of_row _ _ _ _ _ hz0
                      have hzl : w.heap.size < WB.heap.size := (Array.getElem?_eq_some_iff.1 hz0).1
                      have HBB := Lib.hid (nb_trans HBV.out hbb)
                      clear hz0 hbb
                      go_wp2
                      refine bodyPost_ret (v := .tuple #[.agg #[.slice none 0 0, .slice none 0 0, .slice none 0 0], .int .i64 9]) (by simp [results, Tryz.results11, go_sem, k0, k1, k2]) rfl (RParsePost.no HE.out (by decide) ?_)
                      iterate 3 (refine nb_setW ?_ _ _ _ (Nat.le_refl _))
                      exact HBB.out
                  · cases bnd
                    · skip
                      go_wp2_with (go_at_call 34; refine (bad_any _).mono ?_; rintro e WB ⟨rfl, hbb⟩; refine Hid.out ?_)
                      refine Lib.hid ?_
                      have hz0 := (hbb.block _ (Array.getElem?_eq_some_iff.1 HZ0.out).1).trans HZ0.out
                      have k0 : WB.cell? ⟨w.heap.size, 0, none⟩ = some (.slice none 0 0) := by rw [cell_of_row _ _ _ _ _ _ hz0]; rfl
                      have k1 : WB.cell? ⟨w.heap.size, 1, none⟩ = some (.slice none 0 0) := by rw [cell_of_row _ _ _ _ _ _ hz0]; rfl
                      have k2 : WB.cell? ⟨w.heap.size, 2, none⟩ = some (.slice none 0 0) := by rw [cell_of_row _ _ _ _ _ _ hz0]; rfl
                      have fz : ∀ j, WB.frozen? ⟨w.heap.size, j, none⟩ = false := fun j => frozen_of_row _ _ _ _ _ hz0
                      have hzl : w.heap.size < WB.heap.size := (Array.getElem?_eq_some_iff.1 hz0).1
                      have HBB := Lib.hid (nb_trans HBV.out hbb)
                      clear hz0 hbb
                      go_wp2
                      refine bodyPost_ret (v := .tuple #[.agg #[.slice none 0 0, .slice none 0 0, .slice none 0 0], .int .i64 9]) (by simp [results, Tryz.results11, go_sem, k0, k1, k2]) rfl (RParsePost.no HE.out (by decide) ?_)
                      iterate 3 (refine nb_setW ?_ _ _ _ (Nat.le_refl _))
                      exact HBB.out
                    · skip
                      go_wp2_with (go_at_call 34; refine (bad_any _).mono ?_; rintro e WB ⟨rfl, hbb⟩; refine Hid.out ?_)
                      refine Lib.hid ?_
                      have hz0 := (hbb.block _ (Array.getElem?_eq_some_iff.1 HZ0.out).1).trans HZ0.out
                      have k0 : WB.cell? ⟨w.heap.size, 0, none⟩ = some (.slice none 0 0) := by rw [cell_of_row _ _ _ _ _ _ hz0]; rfl
                      have k1 : WB.cell? ⟨w.heap.size, 1, none⟩ = some (.slice none 0 0) := by rw [cell_of_row _ _ _ _ _ _ hz0]; rfl
                      have k2 : WB.cell? ⟨w.heap.size, 2, none⟩ = some (.slice none 0 0) := by rw [cell_of_row _ _ _ _ _ _ hz0]; rfl
                      have fz : ∀ j, WB.frozen? ⟨w.heap.size, j, none⟩ = false := fun j => frozen_of_row _ _ _ _ _ hz0
                      have hzl : w.heap.size < WB.heap.size := (Array.getElem?_eq_some_iff.1 hz0).1
                      have HBB := Lib.hid (nb_trans HBV.out hbb)
                      clear hz0 hbb
                      go_wp2
                      refine bodyPost_ret (v := .tuple #[.agg #[.slice none 0 0, .slice none 0 0, .slice none 0 0], .int .i64 9]) (by simp [results, Tryz.results11, go_sem, k0, k1, k2]) rfl (RParsePost.no HE.out (by decide) ?_)
                      iterate 3 (refine nb_setW ?_ _ _ _ (Nat.le_refl _))
                      exact HBB.out
          · go_wp2
            go_loopw [9, 53] (fun s9 i wx => ∃ (j : Nat) (l : List Int), j ≤ N ∧ i = .int .i64 j ∧ Hid ((Tl.take j).foldl (stW row) (some []) = some l) ∧ Hid (OwnsF elInt wx V.heap.size 3 s9 l) ∧ l.length ≤ 2 * j ∧ Hid (Below V.heap.size V wx)) (fun _ i _ => N - (intOf i).toNat)
            case atStart => exact ⟨0, [], by omega, rfl, Lib.hid rfl, Lib.hid (OwnsF.nil _ _ _ _), by simp, Lib.hid (Below.refl _ _)⟩
            case round =>
              obtain ⟨j, l, hj, rfl, hfo, hOn, hll, hBx⟩ := hrel
              obtain ⟨na, nc, hne, -⟩ := hOn.out.reads
              obtain ⟨ln, hln⟩ : ∃ n, l.length = n := ⟨_, rfl⟩
              rw [hln] at hne hll
              have HLN := Lib.hid hln
              subst hne
              clear hln
              by_cases hltj : j < N
              · as_aux_lemma =>
                  obtain ⟨z, hzk⟩ : ∃ z, Tl[j]? = some z := ⟨_, List.getElem?_eq_getElem (by rw [HNT.out]; exact hltj)⟩
                  have hzl := HTL.out z (List.mem_of_getElem? hzk)
                  have hWX := (hBx.out.block _ (Array.getElem?_eq_some_iff.1 HWB.out).1).trans HWB.out
                  have c1 : wr.cell? ⟨q, 1 + j, none⟩ = some (.string (bs z)) := by rw [cell_of_row _ _ _ _ _ _ hWX, Nat.add_comm 1 j]; simp [hzk]
                  have hd0 : wr.cell? ⟨q, 0, none⟩ = some (.string (bs F)) := by rw [cell_of_row _ _ _ _ _ _ hWX]; rfl
                  have hq0 : q < wr.heap.size := (Array.getElem?_eq_some_iff.1 hWX).1
                  have HCUT := Lib.hid (cut_any 61 z (by omega) wr (HV.out.later (nb_trans HBV0.out hBx.out)))
                  have HZK := Lib.hid hzk
                  clear hWX hzk
                  obtain ⟨ca, hca⟩ : ∃ a, (Lib.cut z [61]).1 = a := ⟨_, rfl⟩
                  obtain ⟨cb, hcb⟩ : ∃ a, (Lib.cut z [61]).2.1 = a := ⟨_, rfl⟩
                  obtain ⟨ci, hci⟩ : ∃ a, (Lib.cut z [61]).2.2 = a := ⟨_, rfl⟩
                  have HSTW : Hid (stW row (some l) z = if ci && (row && (decide (2 ≤ ln) && (ln % 2 == 0))) then (numR ca).bind fun k => (numR cb).bind fun v => if isK k then some (l ++ [k, v]) else none else (numR z).bind fun k => if row && decide (2 ≤ ln) then none else some (l ++ [k])) := Lib.hid (by rw [← HLN.out, ← hca, ← hcb, ← hci]; rfl)
                  have hcl := cut_len 61 z
                  rw [hca, hcb] at hcl
                  rw [hca, hcb, hci] at HCUT
                  clear hca hcb hci
                  go_wp2_with (go_at_call 37; refine HCUT.out.mono ?_; rintro e X1 ⟨rfl, hb1⟩; refine Hid.out ?_)
                  refine Lib.hid ?_
                  have HB1 := Lib.hid (nb_trans hBx.out hb1)
                  have hd1 : X1.cell? ⟨q, 0, none⟩ = some (.string (bs F)) := by rw [hb1.cell (p := ⟨q, 0, none⟩) hq0]; exact hd0
                  have hq1 : q < X1.heap.size := Nat.lt_of_lt_of_le hq0 hb1.size
                  have HON := Lib.hid (hOn.out.later hb1)
                  have HNZ := Lib.hid (number_any z X1 (by omega))
                  have HNA := Lib.hid (number_any ca X1 (by omega))
                  clear hb1 c1 hd0 hq0 HCUT
                  by_cases hfull : ci = true ∧ row = true ∧ 2 ≤ ln ∧ ln % 2 = 0
                  · as_aux_lemma =>
                      obtain ⟨rfl, rfl, h2, hm⟩ := hfull
                      have hm2 : (ln : Int) % 2 = 0 := by omega
                      have HSF : Hid (stW true (some l) z = (numR ca).bind fun k => (numR cb).bind fun v => if isK k then some (l ++ [k, v]) else none) := Lib.hid (by rw [HSTW.out, if_pos]; simp [h2, hm])
                      clear HNZ
                      go_wp2_with (go_at_call 38; refine HNA.out.mono ?_; rintro e X2 ⟨na1, rfl, hna1, hb2⟩; refine Hid.out ?_)
                      refine Lib.hid ?_
                      have HB2 := Lib.hid (nb_trans HB1.out hb2)
                      have HNA1 := Lib.hid hna1
                      have HON2 := Lib.hid (HON.out.later hb2)
                      have HNB := Lib.hid (number_any cb X2 (by omega))
                      clear hb2 hna1 hd1 hq1
                      go_wp2_with (go_at_call 38; refine HNB.out.mono ?_; rintro e X3 ⟨nb1, rfl, hnb1, hb3⟩; refine Hid.out ?_)
                      refine Lib.hid ?_
                      have HBX := Lib.hid (nb_trans HB2.out hb3)
                      have HNB1 := Lib.hid hnb1
                      have HON3 := Lib.hid (HON2.out.later hb3)
                      clear hb3 hnb1
                      obtain ⟨oka, hoka⟩ : ∃ b, (numR ca).isSome = b := ⟨_, rfl⟩
                      obtain ⟨okb, hokb⟩ : ∃ b, (numR cb).isSome = b := ⟨_, rfl⟩
                      rw [hoka, hokb]
                      have HOKA := Lib.hid hoka
                      have HOKB := Lib.hid hokb
                      clear hoka hokb
                      have HBV := Lib.hid (nb_trans HBV0.out HBX.out)
                      have HZ0 := Lib.hid ((HBX.out.block _ (Array.getElem?_eq_some_iff.1 H1V.out).1).trans H1V.out)
                      cases oka
                      · have HE : Hid (reE t = 9) := Lib.hid (HBADW.out (foldW_bad HZK.out hfo.out (by
                          rw [HSF.out]
                          cases hq : numR ca with
                          | none => rfl
                          | some _ => have := HOKA.out; rw [hq] at this; cases this)))
                        go_wp2_with (go_at_call 34; refine (bad_any _).mono ?_; rintro e WB ⟨rfl, hbb⟩; refine Hid.out ?_)
                        refine Lib.hid ?_
                        have hz0 := (hbb.block _ (Array.getElem?_eq_some_iff.1 HZ0.out).1).trans HZ0.out
                        have k0 : WB.cell? ⟨w.heap.size, 0, none⟩ = some (.slice none 0 0) := by rw [cell_of_row _ _ _ _ _ _ hz0]; rfl
                        have k1 : WB.cell? ⟨w.heap.size, 1, none⟩ = some (.slice none 0 0) := by rw [cell_of_row _ _ _ _ _ _ hz0]; rfl
                        have k2 : WB.cell? ⟨w.heap.size, 2, none⟩ = some (.slice none 0 0) := by rw [cell_of_row _ _ _ _ _ _ hz0]; rfl
                        have fz : ∀ j, WB.frozen? ⟨w.heap.size, j, none⟩ = false := fun j => frozen_of_row _ _ _ _ _ hz0
                        have hzl : w.heap.size < WB.heap.size := (Array.getElem?_eq_some_iff.1 hz0).1
                        have HBB := Lib.hid (nb_trans HBV.out hbb)
                        clear hz0 hbb
                        go_wp2
                        refine bodyPost_ret (v := .tuple #[.agg #[.slice none 0 0, .slice none 0 0, .slice none 0 0], .int .i64 9]) (by simp [results, Tryz.results11, go_sem, k0, k1, k2]) rfl (RParsePost.no HE.out (by decide) ?_)
                        iterate 3 (refine nb_setW ?_ _ _ _ (Nat.le_refl _))
                        exact HBB.out
                      · cases okb
                        · have HE : Hid (reE t = 9) := Lib.hid (HBADW.out (foldW_bad HZK.out hfo.out (by
                            rw [HSF.out]
                            cases hq : numR ca with
                            | none => rfl
                            | some _ =>
                              cases hq2 : numR cb with
                              | none => rfl
                              | some _ => have := HOKB.out; rw [hq2] at this; cases this)))
                          go_wp2_with (go_at_call 34; refine (bad_any _).mono ?_; rintro e WB ⟨rfl, hbb⟩; refine Hid.out ?_)
                          refine Lib.hid ?_
                          have hz0 := (hbb.block _ (Array.getElem?_eq_some_iff.1 HZ0.out).1).trans HZ0.out
                          have k0 : WB.cell? ⟨w.heap.size, 0, none⟩ = some (.slice none 0 0) := by rw [cell_of_row _ _ _ _ _ _ hz0]; rfl
                          have k1 : WB.cell? ⟨w.heap.size, 1, none⟩ = some (.slice none 0 0) := by rw [cell_of_row _ _ _ _ _ _ hz0]; rfl
                          have k2 : WB.cell? ⟨w.heap.size, 2, none⟩ = some (.slice none 0 0) := by rw [cell_of_row _ _ _ _ _ _ hz0]; rfl
                          have fz : ∀ j, WB.frozen? ⟨w.heap.size, j, none⟩ = false := fun j => frozen_of_row _ _ _ _ _ hz0
                          have hzl : w.heap.size < WB.heap.size := (Array.getElem?_eq_some_iff.1 hz0).1
                          have HBB := Lib.hid (nb_trans HBV.out hbb)
                          clear hz0 hbb
                          go_wp2
                          refine bodyPost_ret (v := .tuple #[.agg #[.slice none 0 0, .slice none 0 0, .slice none 0 0], .int .i64 9]) (by simp [results, Tryz.results11, go_sem, k0, k1, k2]) rfl (RParsePost.no HE.out (by decide) ?_)
                          iterate 3 (refine nb_setW ?_ _ _ _ (Nat.le_refl _))
                          exact HBB.out
                        · obtain ⟨va1, hva1⟩ : ∃ v, numR ca = some v := Option.isSome_iff_exists.1 HOKA.out
                          obtain ⟨vb1, hvb1⟩ : ∃ v, numR cb = some v := Option.isSome_iff_exists.1 HOKB.out
                          obtain rfl := HNA1.out _ hva1
                          obtain rfl := HNB1.out _ hvb1
                          obtain ⟨ib, hib⟩ : ∃ b, inB na1 0 7 = b := ⟨_, rfl⟩
                          have HSV : Hid (stW true (some l) z = if ib then some (l ++ [na1, nb1]) else none) := Lib.hid (by rw [HSF.out, hva1, hvb1, Option.bind_some, Option.bind_some, show isK na1 = ib from hib])
                          have hib' : (!inB na1 0 7) = !ib := by rw [hib]
                          clear hib
                          cases ib
                          · have HE : Hid (reE t = 9) := Lib.hid (HBADW.out (foldW_bad HZK.out hfo.out HSV.out))
                            go_wp2_with (go_at_call 39; refine (outside_any _ _ _ _).mono ?_; rintro e w' ⟨rfl, rfl⟩; rw [hib'])
                            go_wp2_with (go_at_call 34; refine (bad_any _).mono ?_; rintro e WB ⟨rfl, hbb⟩; refine Hid.out ?_)
                            refine Lib.hid ?_
                            have hz0 := (hbb.block _ (Array.getElem?_eq_some_iff.1 HZ0.out).1).trans HZ0.out
                            have k0 : WB.cell? ⟨w.heap.size, 0, none⟩ = some (.slice none 0 0) := by rw [cell_of_row _ _ _ _ _ _ hz0]; rfl
                            have k1 : WB.cell? ⟨w.heap.size, 1, none⟩ = some (.slice none 0 0) := by rw [cell_of_row _ _ _ _ _ _ hz0]; rfl
                            have k2 : WB.cell? ⟨w.heap.size, 2, none⟩ = some (.slice none 0 0) := by rw [cell_of_row _ _ _ _ _ _ hz0]; rfl
                            have fz : ∀ j, WB.frozen? ⟨w.heap.size, j, none⟩ = false := fun j => frozen_of_row _ _ _ _ _ hz0
                            have hzl : w.heap.size < WB.heap.size := (Array.getElem?_eq_some_iff.1 hz0).1
                            have HBB := Lib.hid (nb_trans HBV.out hbb)
                            clear hz0 hbb
                            go_wp2
                            refine bodyPost_ret (v := .tuple #[.agg #[.slice none 0 0, .slice none 0 0, .slice none 0 0], .int .i64 9]) (by simp [results, Tryz.results11, go_sem, k0, k1, k2]) rfl (RParsePost.no HE.out (by decide) ?_)
                            iterate 3 (refine nb_setW ?_ _ _ _ (Nat.le_refl _))
                            exact HBB.out
                          · obtain ⟨v3, X4, hrun, ho3, hb3⟩ := app_new [na1, nb1] HON3.out (by rw [HLN.out]; simp; omega) HBX.out.size
                            rw [show (Builtin.append_ #[22, 22] 22 #[.slice na ln nc, .slice (some ⟨X3.heap.size, 0, none⟩) [na1, nb1].length [na1, nb1].length]).run Tryz.prog (X3.alloc (.cells ([na1, nb1].map (Value.int .i64)).toArray 3)) = (Builtin.append_ #[22, 22] 22 #[.slice na ln nc, .slice (some ⟨X3.heap.size, 0, none⟩) 2 2]).run Tryz.prog (X3.alloc (.cells #[.int .i64 na1, .int .i64 nb1] 3)) from rfl] at hrun
                            have HRUN := Lib.hid hrun
                            have HO4 := Lib.hid ho3
                            have HB4 := Lib.hid (HBX.out.trans hb3)
                            clear hrun ho3 hb3 hva1 hvb1
                            go_wp2_with (first | (go_at_call 39; refine (outside_any _ _ _ _).mono ?_; rintro e w' ⟨rfl, rfl⟩; rw [hib']) | (at_builtin; refine wpList_append_run rfl _ _ 22 22 rfl rfl _ _ _ rfl rfl HRUN.out ?_))
                            go_roundw
                            case rel => exact ⟨j + 1, l ++ [na1, nb1], by omega, by go_num, Lib.hid ((foldW_next HZK.out hfo.out).trans HSV.out), HO4, by rw [List.length_append, HLN.out]; simp; omega, HB4⟩
                            case measure => simp [intOf]; omega
                  · have HSS : Hid (stW row (some l) z = (numR z).bind fun k => if row && decide (2 ≤ ln) then none else some (l ++ [k])) := Lib.hid (by
                      rw [HSTW.out, if_neg]
                      intro h
                      simp only [Bool.and_eq_true, decide_eq_true_eq, beq_iff_eq] at h
                      exact hfull ⟨h.1, h.2.1, h.2.2.1, h.2.2.2⟩)
                    cases row
                    · cases ci
                      · as_aux_lemma =>
                          go_wp2_with (go_at_call 38; refine HNZ.out.mono ?_; rintro e X2 ⟨nk, rfl, hnk, hb2⟩; refine Hid.out ?_)
                          refine Lib.hid ?_
                          have HBX := Lib.hid (nb_trans HB1.out hb2)
                          have HNK := Lib.hid hnk
                          have d0 : X2.cell? ⟨q, 0, none⟩ = some (.string (bs F)) := by rw [hb2.cell (p := ⟨q, 0, none⟩) hq1]; exact hd1
                          have hq2 : q < X2.heap.size := Nat.lt_of_lt_of_le hq1 hb2.size
                          have HON2 := Lib.hid (HON.out.later hb2)
                          clear hb2 hnk
                          obtain ⟨okz, hokz⟩ : ∃ b, (numR z).isSome = b := ⟨_, rfl⟩
                          rw [hokz]
                          have HOKZ := Lib.hid hokz
                          clear hokz
                          cases okz
                          · skip
                            have HE : Hid (reE t = 9) := Lib.hid (HBADW.out (foldW_bad HZK.out hfo.out (by
                              rw [HSS.out]
                              cases hq : numR z with
                              | none => rfl
                              | some _ => have := HOKZ.out; rw [hq] at this; cases this)))
                            have HBV := Lib.hid (nb_trans HBV0.out HBX.out)
                            have HZ0 := Lib.hid ((HBX.out.block _ (Array.getElem?_eq_some_iff.1 H1V.out).1).trans H1V.out)
                            clear d0 hq2
                            go_wp2_with (go_at_call 34; refine (bad_any _).mono ?_; rintro e WB ⟨rfl, hbb⟩; refine Hid.out ?_)
                            refine Lib.hid ?_
                            have hz0 := (hbb.block _ (Array.getElem?_eq_some_iff.1 HZ0.out).1).trans HZ0.out
                            have k0 : WB.cell? ⟨w.heap.size, 0, none⟩ = some (.slice none 0 0) := by rw [cell_of_row _ _ _ _ _ _ hz0]; rfl
                            have k1 : WB.cell? ⟨w.heap.size, 1, none⟩ = some (.slice none 0 0) := by rw [cell_of_row _ _ _ _ _ _ hz0]; rfl
                            have k2 : WB.cell? ⟨w.heap.size, 2, none⟩ = some (.slice none 0 0) := by rw [cell_of_row _ _ _ _ _ _ hz0]; rfl
                            have fz : ∀ j, WB.frozen? ⟨w.heap.size, j, none⟩ = false := fun j => frozen_of_row _ _ _ _ _ hz0
                            have hzl : w.heap.size < WB.heap.size := (Array.getElem?_eq_some_iff.1 hz0).1
                            have HBB := Lib.hid (nb_trans HBV.out hbb)
                            clear hz0 hbb
                            go_wp2
                            refine bodyPost_ret (v := .tuple #[.agg #[.slice none 0 0, .slice none 0 0, .slice none 0 0], .int .i64 9]) (by simp [results, Tryz.results11, go_sem, k0, k1, k2]) rfl (RParsePost.no HE.out (by decide) ?_)
                            iterate 3 (refine nb_setW ?_ _ _ _ (Nat.le_refl _))
                            exact HBB.out
                          · skip
                            obtain ⟨nv, hnv⟩ : ∃ v, numR z = some v := Option.isSome_iff_exists.1 HOKZ.out
                            obtain rfl := HNK.out _ hnv
                            have HSV : Hid (stW _ (some l) z = some (l ++ [nk])) := Lib.hid (by rw [HSS.out, hnv]; first | rfl | (rw [Option.bind_some, if_neg]; simp; omega))
                            obtain ⟨v3, X3, hrun, ho3, hb3⟩ := app_new [nk] HON2.out (by rw [HLN.out]; simp; omega) HBX.out.size
                            rw [show (Builtin.append_ #[22, 22] 22 #[.slice na ln nc, .slice (some ⟨X2.heap.size, 0, none⟩) [nk].length [nk].length]).run Tryz.prog (X2.alloc (.cells ([nk].map (Value.int .i64)).toArray 3)) = (Builtin.append_ #[22, 22] 22 #[.slice na ln nc, .slice (some ⟨X2.heap.size, 0, none⟩) 1 1]).run Tryz.prog (X2.alloc (.cells #[.int .i64 nk] 3)) from rfl] at hrun
                            have HRUN := Lib.hid hrun
                            have HO3 := Lib.hid ho3
                            have HB3 := Lib.hid (HBX.out.trans hb3)
                            clear hrun ho3 hb3 hnv
                            go_wp2_with (at_builtin; refine wpList_append_run rfl _ _ 22 22 rfl rfl _ _ _ rfl rfl HRUN.out ?_)
                            go_roundw
                            case rel => exact ⟨j + 1, l ++ [nk], by omega, by go_num, Lib.hid ((foldW_next HZK.out hfo.out).trans HSV.out), HO3, by rw [List.length_append, HLN.out]; simp; omega, HB3⟩
                            case measure => simp [intOf]; omega
                      · as_aux_lemma =>
                          go_wp2_with (go_at_call 38; refine HNZ.out.mono ?_; rintro e X2 ⟨nk, rfl, hnk, hb2⟩; refine Hid.out ?_)
                          refine Lib.hid ?_
                          have HBX := Lib.hid (nb_trans HB1.out hb2)
                          have HNK := Lib.hid hnk
                          have d0 : X2.cell? ⟨q, 0, none⟩ = some (.string (bs F)) := by rw [hb2.cell (p := ⟨q, 0, none⟩) hq1]; exact hd1
                          have hq2 : q < X2.heap.size := Nat.lt_of_lt_of_le hq1 hb2.size
                          have HON2 := Lib.hid (HON.out.later hb2)
                          clear hb2 hnk
                          obtain ⟨okz, hokz⟩ : ∃ b, (numR z).isSome = b := ⟨_, rfl⟩
                          rw [hokz]
                          have HOKZ := Lib.hid hokz
                          clear hokz
                          cases okz
                          · skip
                            have HE : Hid (reE t = 9) := Lib.hid (HBADW.out (foldW_bad HZK.out hfo.out (by
                              rw [HSS.out]
                              cases hq : numR z with
                              | none => rfl
                              | some _ => have := HOKZ.out; rw [hq] at this; cases this)))
                            have HBV := Lib.hid (nb_trans HBV0.out HBX.out)
                            have HZ0 := Lib.hid ((HBX.out.block _ (Array.getElem?_eq_some_iff.1 H1V.out).1).trans H1V.out)
                            clear d0 hq2
                            go_wp2_with (go_at_call 34; refine (bad_any _).mono ?_; rintro e WB ⟨rfl, hbb⟩; refine Hid.out ?_)
                            refine Lib.hid ?_
                            have hz0 := (hbb.block _ (Array.getElem?_eq_some_iff.1 HZ0.out).1).trans HZ0.out
                            have k0 : WB.cell? ⟨w.heap.size, 0, none⟩ = some (.slice none 0 0) := by rw [cell_of_row _ _ _ _ _ _ hz0]; rfl
                            have k1 : WB.cell? ⟨w.heap.size, 1, none⟩ = some (.slice none 0 0) := by rw [cell_of_row _ _ _ _ _ _ hz0]; rfl
                            have k2 : WB.cell? ⟨w.heap.size, 2, none⟩ = some (.slice none 0 0) := by rw [cell_of_row _ _ _ _ _ _ hz0]; rfl
                            have fz : ∀ j, WB.frozen? ⟨w.heap.size, j, none⟩ = false := fun j => frozen_of_row _ _ _ _ _ hz0
                            have hzl : w.heap.size < WB.heap.size := (Array.getElem?_eq_some_iff.1 hz0).1
                            have HBB := Lib.hid (nb_trans HBV.out hbb)
                            clear hz0 hbb
                            go_wp2
                            refine bodyPost_ret (v := .tuple #[.agg #[.slice none 0 0, .slice none 0 0, .slice none 0 0], .int .i64 9]) (by simp [results, Tryz.results11, go_sem, k0, k1, k2]) rfl (RParsePost.no HE.out (by decide) ?_)
                            iterate 3 (refine nb_setW ?_ _ _ _ (Nat.le_refl _))
                            exact HBB.out
                          · skip
                            obtain ⟨nv, hnv⟩ : ∃ v, numR z = some v := Option.isSome_iff_exists.1 HOKZ.out
                            obtain rfl := HNK.out _ hnv
                            have HSV : Hid (stW _ (some l) z = some (l ++ [nk])) := Lib.hid (by rw [HSS.out, hnv]; first | rfl | (rw [Option.bind_some, if_neg]; simp; omega))
                            obtain ⟨v3, X3, hrun, ho3, hb3⟩ := app_new [nk] HON2.out (by rw [HLN.out]; simp; omega) HBX.out.size
                            rw [show (Builtin.append_ #[22, 22] 22 #[.slice na ln nc, .slice (some ⟨X2.heap.size, 0, none⟩) [nk].length [nk].length]).run Tryz.prog (X2.alloc (.cells ([nk].map (Value.int .i64)).toArray 3)) = (Builtin.append_ #[22, 22] 22 #[.slice na ln nc, .slice (some ⟨X2.heap.size, 0, none⟩) 1 1]).run Tryz.prog (X2.alloc (.cells #[.int .i64 nk] 3)) from rfl] at hrun
                            have HRUN := Lib.hid hrun
                            have HO3 := Lib.hid ho3
                            have HB3 := Lib.hid (HBX.out.trans hb3)
                            clear hrun ho3 hb3 hnv
                            go_wp2_with (at_builtin; refine wpList_append_run rfl _ _ 22 22 rfl rfl _ _ _ rfl rfl HRUN.out ?_)
                            go_roundw
                            case rel => exact ⟨j + 1, l ++ [nk], by omega, by go_num, Lib.hid ((foldW_next HZK.out hfo.out).trans HSV.out), HO3, by rw [List.length_append, HLN.out]; simp; omega, HB3⟩
                            case measure => simp [intOf]; omega
                    · by_cases h2 : 2 ≤ ln
                      · cases ci
                        · as_aux_lemma =>
                            go_wp2_with (go_at_call 38; refine HNZ.out.mono ?_; rintro e X2 ⟨nk, rfl, hnk, hb2⟩; refine Hid.out ?_)
                            refine Lib.hid ?_
                            have HBX := Lib.hid (nb_trans HB1.out hb2)
                            have HNK := Lib.hid hnk
                            have d0 : X2.cell? ⟨q, 0, none⟩ = some (.string (bs F)) := by rw [hb2.cell (p := ⟨q, 0, none⟩) hq1]; exact hd1
                            have hq2 : q < X2.heap.size := Nat.lt_of_lt_of_le hq1 hb2.size
                            have HON2 := Lib.hid (HON.out.later hb2)
                            clear hb2 hnk
                            obtain ⟨okz, hokz⟩ : ∃ b, (numR z).isSome = b := ⟨_, rfl⟩
                            rw [hokz]
                            have HOKZ := Lib.hid hokz
                            clear hokz
                            have HE : Hid (reE t = 9) := Lib.hid (HBADW.out (foldW_bad HZK.out hfo.out (by
                              rw [HSS.out]
                              cases hq : numR z with
                              | none => rfl
                              | some _ => rw [Option.bind_some, if_pos]; simp; omega)))
                            have HBV := Lib.hid (nb_trans HBV0.out HBX.out)
                            have HZ0 := Lib.hid ((HBX.out.block _ (Array.getElem?_eq_some_iff.1 H1V.out).1).trans H1V.out)
                            cases okz
                            · skip
                              go_wp2_with (go_at_call 34; refine (bad_any _).mono ?_; rintro e WB ⟨rfl, hbb⟩; refine Hid.out ?_)
                              refine Lib.hid ?_
                              have hz0 := (hbb.block _ (Array.getElem?_eq_some_iff.1 HZ0.out).1).trans HZ0.out
                              have k0 : WB.cell? ⟨w.heap.size, 0, none⟩ = some (.slice none 0 0) := by rw [cell_of_row _ _ _ _ _ _ hz0]; rfl
                              have k1 : WB.cell? ⟨w.heap.size, 1, none⟩ = some (.slice none 0 0) := by rw [cell_of_row _ _ _ _ _ _ hz0]; rfl
                              have k2 : WB.cell? ⟨w.heap.size, 2, none⟩ = some (.slice none 0 0) := by rw [cell_of_row _ _ _ _ _ _ hz0]; rfl
                              have fz : ∀ j, WB.frozen? ⟨w.heap.size, j, none⟩ = false := fun j => frozen_of_row _ _ _ _ _ hz0
                              have hzl : w.heap.size < WB.heap.size := (Array.getElem?_eq_some_iff.1 hz0).1
                              have HBB := Lib.hid (nb_trans HBV.out hbb)
                              clear hz0 hbb
                              go_wp2
                              refine bodyPost_ret (v := .tuple #[.agg #[.slice none 0 0, .slice none 0 0, .slice none 0 0], .int .i64 9]) (by simp [results, Tryz.results11, go_sem, k0, k1, k2]) rfl (RParsePost.no HE.out (by decide) ?_)
                              iterate 3 (refine nb_setW ?_ _ _ _ (Nat.le_refl _))
                              exact HBB.out
                            · skip
                              go_wp2_with (go_at_call 34; refine (bad_any _).mono ?_; rintro e WB ⟨rfl, hbb⟩; refine Hid.out ?_)
                              refine Lib.hid ?_
                              have hz0 := (hbb.block _ (Array.getElem?_eq_some_iff.1 HZ0.out).1).trans HZ0.out
                              have k0 : WB.cell? ⟨w.heap.size, 0, none⟩ = some (.slice none 0 0) := by rw [cell_of_row _ _ _ _ _ _ hz0]; rfl
                              have k1 : WB.cell? ⟨w.heap.size, 1, none⟩ = some (.slice none 0 0) := by rw [cell_of_row _ _ _ _ _ _ hz0]; rfl
                              have k2 : WB.cell? ⟨w.heap.size, 2, none⟩ = some (.slice none 0 0) := by rw [cell_of_row _ _ _ _ _ _ hz0]; rfl
                              have fz : ∀ j, WB.frozen? ⟨w.heap.size, j, none⟩ = false := fun j => frozen_of_row _ _ _ _ _ hz0
                              have hzl : w.heap.size < WB.heap.size := (Array.getElem?_eq_some_iff.1 hz0).1
                              have HBB := Lib.hid (nb_trans HBV.out hbb)
                              clear hz0 hbb
                              go_wp2
                              refine bodyPost_ret (v := .tuple #[.agg #[.slice none 0 0, .slice none 0 0, .slice none 0 0], .int .i64 9]) (by simp [results, Tryz.results11, go_sem, k0, k1, k2]) rfl (RParsePost.no HE.out (by decide) ?_)
                              iterate 3 (refine nb_setW ?_ _ _ _ (Nat.le_refl _))
                              exact HBB.out
                        · have hm2 : (ln : Int) % 2 = 1 := by
                            by_cases hm : ln % 2 = 0
                            · exact absurd ⟨rfl, rfl, h2, hm⟩ hfull
                            · omega
                          go_wp2_with (go_at_call 38; refine HNZ.out.mono ?_; rintro e X2 ⟨nk, rfl, hnk, hb2⟩; refine Hid.out ?_)
                          refine Lib.hid ?_
                          have HBX := Lib.hid (nb_trans HB1.out hb2)
                          have HNK := Lib.hid hnk
                          have d0 : X2.cell? ⟨q, 0, none⟩ = some (.string (bs F)) := by rw [hb2.cell (p := ⟨q, 0, none⟩) hq1]; exact hd1
                          have hq2 : q < X2.heap.size := Nat.lt_of_lt_of_le hq1 hb2.size
                          have HON2 := Lib.hid (HON.out.later hb2)
                          clear hb2 hnk
                          obtain ⟨okz, hokz⟩ : ∃ b, (numR z).isSome = b := ⟨_, rfl⟩
                          rw [hokz]
                          have HOKZ := Lib.hid hokz
                          clear hokz
                          have HE : Hid (reE t = 9) := Lib.hid (HBADW.out (foldW_bad HZK.out hfo.out (by
                            rw [HSS.out]
                            cases hq : numR z with
                            | none => rfl
                            | some _ => rw [Option.bind_some, if_pos]; simp; omega)))
                          have HBV := Lib.hid (nb_trans HBV0.out HBX.out)
                          have HZ0 := Lib.hid ((HBX.out.block _ (Array.getElem?_eq_some_iff.1 H1V.out).1).trans H1V.out)
                          cases okz
                          · skip
                            go_wp2_with (go_at_call 34; refine (bad_any _).mono ?_; rintro e WB ⟨rfl, hbb⟩; refine Hid.out ?_)
                            refine Lib.hid ?_
                            have hz0 := (hbb.block _ (Array.getElem?_eq_some_iff.1 HZ0.out).1).trans HZ0.out
                            have k0 : WB.cell? ⟨w.heap.size, 0, none⟩ = some (.slice none 0 0) := by rw [cell_of_row _ _ _ _ _ _ hz0]; rfl
                            have k1 : WB.cell? ⟨w.heap.size, 1, none⟩ = some (.slice none 0 0) := by rw [cell_of_row _ _ _ _ _ _ hz0]; rfl
                            have k2 : WB.cell? ⟨w.heap.size, 2, none⟩ = some (.slice none 0 0) := by rw [cell_of_row _ _ _ _ _ _ hz0]; rfl
                            have fz : ∀ j, WB.frozen? ⟨w.heap.size, j, none⟩ = false := fun j => frozen_of_row _ _ _ _ _ hz0
                            have hzl : w.heap.size < WB.heap.size := (Array.getElem?_eq_some_iff.1 hz0).1
                            have HBB := Lib.hid (nb_trans HBV.out hbb)
                            clear hz0 hbb
                            go_wp2
                            refine bodyPost_ret (v := .tuple #[.agg #[.slice none 0 0, .slice none 0 0, .slice none 0 0], .int .i64 9]) (by simp [results, Tryz.results11, go_sem, k0, k1, k2]) rfl (RParsePost.no HE.out (by decide) ?_)
                            iterate 3 (refine nb_setW ?_ _ _ _ (Nat.le_refl _))
                            exact HBB.out
                          · skip
                            go_wp2_with (go_at_call 34; refine (bad_any _).mono ?_; rintro e WB ⟨rfl, hbb⟩; refine Hid.out ?_)
                            refine Lib.hid ?_
                            have hz0 := (hbb.block _ (Array.getElem?_eq_some_iff.1 HZ0.out).1).trans HZ0.out
                            have k0 : WB.cell? ⟨w.heap.size, 0, none⟩ = some (.slice none 0 0) := by rw [cell_of_row _ _ _ _ _ _ hz0]; rfl
                            have k1 : WB.cell? ⟨w.heap.size, 1, none⟩ = some (.slice none 0 0) := by rw [cell_of_row _ _ _ _ _ _ hz0]; rfl
                            have k2 : WB.cell? ⟨w.heap.size, 2, none⟩ = some (.slice none 0 0) := by rw [cell_of_row _ _ _ _ _ _ hz0]; rfl
                            have fz : ∀ j, WB.frozen? ⟨w.heap.size, j, none⟩ = false := fun j => frozen_of_row _ _ _ _ _ hz0
                            have hzl : w.heap.size < WB.heap.size := (Array.getElem?_eq_some_iff.1 hz0).1
                            have HBB := Lib.hid (nb_trans HBV.out hbb)
                            clear hz0 hbb
                            go_wp2
                            refine bodyPost_ret (v := .tuple #[.agg #[.slice none 0 0, .slice none 0 0, .slice none 0 0], .int .i64 9]) (by simp [results, Tryz.results11, go_sem, k0, k1, k2]) rfl (RParsePost.no HE.out (by decide) ?_)
                            iterate 3 (refine nb_setW ?_ _ _ _ (Nat.le_refl _))
                            exact HBB.out
                      · cases ci
                        · as_aux_lemma =>
                            go_wp2_with (go_at_call 38; refine HNZ.out.mono ?_; rintro e X2 ⟨nk, rfl, hnk, hb2⟩; refine Hid.out ?_)
                            refine Lib.hid ?_
                            have HBX := Lib.hid (nb_trans HB1.out hb2)
                            have HNK := Lib.hid hnk
                            have d0 : X2.cell? ⟨q, 0, none⟩ = some (.string (bs F)) := by rw [hb2.cell (p := ⟨q, 0, none⟩) hq1]; exact hd1
                            have hq2 : q < X2.heap.size := Nat.lt_of_lt_of_le hq1 hb2.size
                            have HON2 := Lib.hid (HON.out.later hb2)
                            clear hb2 hnk
                            obtain ⟨okz, hokz⟩ : ∃ b, (numR z).isSome = b := ⟨_, rfl⟩
                            rw [hokz]
                            have HOKZ := Lib.hid hokz
                            clear hokz
                            cases okz
                            · skip
                              have HE : Hid (reE t = 9) := Lib.hid (HBADW.out (foldW_bad HZK.out hfo.out (by
                                rw [HSS.out]
                                cases hq : numR z with
                                | none => rfl
                                | some _ => have := HOKZ.out; rw [hq] at this; cases this)))
                              have HBV := Lib.hid (nb_trans HBV0.out HBX.out)
                              have HZ0 := Lib.hid ((HBX.out.block _ (Array.getElem?_eq_some_iff.1 H1V.out).1).trans H1V.out)
                              clear d0 hq2
                              go_wp2_with (go_at_call 34; refine (bad_any _).mono ?_; rintro e WB ⟨rfl, hbb⟩; refine Hid.out ?_)
                              refine Lib.hid ?_
                              have hz0 := (hbb.block _ (Array.getElem?_eq_some_iff.1 HZ0.out).1).trans HZ0.out
                              have k0 : WB.cell? ⟨w.heap.size, 0, none⟩ = some (.slice none 0 0) := by rw [cell_of_row _ _ _ _ _ _ hz0]; rfl
                              have k1 : WB.cell? ⟨w.heap.size, 1, none⟩ = some (.slice none 0 0) := by rw [cell_of_row _ _ _ _ _ _ hz0]; rfl
                              have k2 : WB.cell? ⟨w.heap.size, 2, none⟩ = some (.slice none 0 0) := by rw [cell_of_row _ _ _ _ _ _ hz0]; rfl
                              have fz : ∀ j, WB.frozen? ⟨w.heap.size, j, none⟩ = false := fun j => frozen_of_row _ _ _ _ _ hz0
                              have hzl : w.heap.size < WB.heap.size := (Array.getElem?_eq_some_iff.1 hz0).1
                              have HBB := Lib.hid (nb_trans HBV.out hbb)
                              clear hz0 hbb
                              go_wp2
                              refine bodyPost_ret (v := .tuple #[.agg #[.slice none 0 0, .slice none 0 0, .slice none 0 0], .int .i64 9]) (by simp [results, Tryz.results11, go_sem, k0, k1, k2]) rfl (RParsePost.no HE.out (by decide) ?_)
                              iterate 3 (refine nb_setW ?_ _ _ _ (Nat.le_refl _))
                              exact HBB.out
                            · skip
                              obtain ⟨nv, hnv⟩ : ∃ v, numR z = some v := Option.isSome_iff_exists.1 HOKZ.out
                              obtain rfl := HNK.out _ hnv
                              have HSV : Hid (stW _ (some l) z = some (l ++ [nk])) := Lib.hid (by rw [HSS.out, hnv]; first | rfl | (rw [Option.bind_some, if_neg]; simp; omega))
                              obtain ⟨v3, X3, hrun, ho3, hb3⟩ := app_new [nk] HON2.out (by rw [HLN.out]; simp; omega) HBX.out.size
                              rw [show (Builtin.append_ #[22, 22] 22 #[.slice na ln nc, .slice (some ⟨X2.heap.size, 0, none⟩) [nk].length [nk].length]).run Tryz.prog (X2.alloc (.cells ([nk].map (Value.int .i64)).toArray 3)) = (Builtin.append_ #[22, 22] 22 #[.slice na ln nc, .slice (some ⟨X2.heap.size, 0, none⟩) 1 1]).run Tryz.prog (X2.alloc (.cells #[.int .i64 nk] 3)) from rfl] at hrun
                              have HRUN := Lib.hid hrun
                              have HO3 := Lib.hid ho3
                              have HB3 := Lib.hid (HBX.out.trans hb3)
                              clear hrun ho3 hb3 hnv
                              go_wp2_with (at_builtin; refine wpList_append_run rfl _ _ 22 22 rfl rfl _ _ _ rfl rfl HRUN.out ?_)
                              go_roundw
                              case rel => exact ⟨j + 1, l ++ [nk], by omega, by go_num, Lib.hid ((foldW_next HZK.out hfo.out).trans HSV.out), HO3, by rw [List.length_append, HLN.out]; simp; omega, HB3⟩
                              case measure => simp [intOf]; omega
                        · as_aux_lemma =>
                            go_wp2_with (go_at_call 38; refine HNZ.out.mono ?_; rintro e X2 ⟨nk, rfl, hnk, hb2⟩; refine Hid.out ?_)
                            refine Lib.hid ?_
                            have HBX := Lib.hid (nb_trans HB1.out hb2)
                            have HNK := Lib.hid hnk
                            have d0 : X2.cell? ⟨q, 0, none⟩ = some (.string (bs F)) := by rw [hb2.cell (p := ⟨q, 0, none⟩) hq1]; exact hd1
                            have hq2 : q < X2.heap.size := Nat.lt_of_lt_of_le hq1 hb2.size
                            have HON2 := Lib.hid (HON.out.later hb2)
                            clear hb2 hnk
                            obtain ⟨okz, hokz⟩ : ∃ b, (numR z).isSome = b := ⟨_, rfl⟩
                            rw [hokz]
                            have HOKZ := Lib.hid hokz
                            clear hokz
                            cases okz
                            · skip
                              have HE : Hid (reE t = 9) := Lib.hid (HBADW.out (foldW_bad HZK.out hfo.out (by
                                rw [HSS.out]
                                cases hq : numR z with
                                | none => rfl
                                | some _ => have := HOKZ.out; rw [hq] at this; cases this)))
                              have HBV := Lib.hid (nb_trans HBV0.out HBX.out)
                              have HZ0 := Lib.hid ((HBX.out.block _ (Array.getElem?_eq_some_iff.1 H1V.out).1).trans H1V.out)
                              clear d0 hq2
                              go_wp2_with (go_at_call 34; refine (bad_any _).mono ?_; rintro e WB ⟨rfl, hbb⟩; refine Hid.out ?_)
                              refine Lib.hid ?_
                              have hz0 := (hbb.block _ (Array.getElem?_eq_some_iff.1 HZ0.out).1).trans HZ0.out
                              have k0 : WB.cell? ⟨w.heap.size, 0, none⟩ = some (.slice none 0 0) := by rw [cell_of_row _ _ _ _ _ _ hz0]; rfl
                              have k1 : WB.cell? ⟨w.heap.size, 1, none⟩ = some (.slice none 0 0) := by rw [cell_of_row _ _ _ _ _ _ hz0]; rfl
                              have k2 : WB.cell? ⟨w.heap.size, 2, none⟩ = some (.slice none 0 0) := by rw [cell_of_row _ _ _ _ _ _ hz0]; rfl
                              have fz : ∀ j, WB.frozen? ⟨w.heap.size, j, none⟩ = false := fun j => frozen_of_row _ _ _ _ _ hz0
                              have hzl : w.heap.size < WB.heap.size := (Array.getElem?_eq_some_iff.1 hz0).1
                              have HBB := Lib.hid (nb_trans HBV.out hbb)
                              clear hz0 hbb
                              go_wp2
                              refine bodyPost_ret (v := .tuple #[.agg #[.slice none 0 0, .slice none 0 0, .slice none 0 0], .int .i64 9]) (by simp [results, Tryz.results11, go_sem, k0, k1, k2]) rfl (RParsePost.no HE.out (by decide) ?_)
                              iterate 3 (refine nb_setW ?_ _ _ _ (Nat.le_refl _))
                              exact HBB.out
                            · skip
                              obtain ⟨nv, hnv⟩ : ∃ v, numR z = some v := Option.isSome_iff_exists.1 HOKZ.out
                              obtain rfl := HNK.out _ hnv
                              have HSV : Hid (stW _ (some l) z = some (l ++ [nk])) := Lib.hid (by rw [HSS.out, hnv]; first | rfl | (rw [Option.bind_some, if_neg]; simp; omega))
                              obtain ⟨v3, X3, hrun, ho3, hb3⟩ := app_new [nk] HON2.out (by rw [HLN.out]; simp; omega) HBX.out.size
                              rw [show (Builtin.append_ #[22, 22] 22 #[.slice na ln nc, .slice (some ⟨X2.heap.size, 0, none⟩) [nk].length [nk].length]).run Tryz.prog (X2.alloc (.cells ([nk].map (Value.int .i64)).toArray 3)) = (Builtin.append_ #[22, 22] 22 #[.slice na ln nc, .slice (some ⟨X2.heap.size, 0, none⟩) 1 1]).run Tryz.prog (X2.alloc (.cells #[.int .i64 nk] 3)) from rfl] at hrun
                              have HRUN := Lib.hid hrun
                              have HO3 := Lib.hid ho3
                              have HB3 := Lib.hid (HBX.out.trans hb3)
                              clear hrun ho3 hb3 hnv
                              go_wp2_with (at_builtin; refine wpList_append_run rfl _ _ 22 22 rfl rfl _ _ _ rfl rfl HRUN.out ?_)
                              go_roundw
                              case rel => exact ⟨j + 1, l ++ [nk], by omega, by go_num, Lib.hid ((foldW_next HZK.out hfo.out).trans HSV.out), HO3, by rw [List.length_append, HLN.out]; simp; omega, HB3⟩
                              case measure => simp [intOf]; omega
              · obtain rfl : j = N := by omega
                have HFW : Hid (Tl.foldl (stW row) (some []) = some l) := Lib.hid (by have := hfo.out; rwa [List.take_of_length_le (by rw [HNT.out]; exact Nat.le_refl _)] at this)
                have HRW : Hid (rfLine k s y = if k = 0 ∧ F = gensW then some ⟨l, s.r, s.b⟩ else if 0 < k ∧ F = rowW ∧ 2 ≤ l.length ∧ s.b = [] then (addK (l.drop 2) 0 (fun _ => 0)).map fun b => ⟨s.g, s.r ++ [⟨l.getD 0 0, l.getD 1 0, b.1, b.2⟩], s.b⟩ else if 0 < k ∧ F = bondW ∧ l.length = 4 then some ⟨s.g, s.r, s.b ++ [((l.getD 0 0, l.getD 1 0), (l.getD 2 0, l.getD 3 0))]⟩ else none) := Lib.hid (by rw [HRF.out, HFW.out]; rfl)
                have hWX := (hBx.out.block _ (Array.getElem?_eq_some_iff.1 HWB.out).1).trans HWB.out
                have hd0 : wr.cell? ⟨q, 0, none⟩ = some (.string (bs F)) := by rw [cell_of_row _ _ _ _ _ _ hWX]; rfl
                have hq0 : q < wr.heap.size := (Array.getElem?_eq_some_iff.1 hWX).1
                have HOX := Lib.hid (HOV.out.later hBx.out)
                have HBV := Lib.hid (nb_trans HBV0.out hBx.out)
                have HZ0 := Lib.hid ((hBx.out.block _ (Array.getElem?_eq_some_iff.1 H1V.out).1).trans H1V.out)
                clear hWX hfo HBADW HRF
                by_cases hk0 : k = 0
                · as_aux_lemma =>
                    subst hk0
                    by_cases hF1 : F = gensW
                    · have e2 : (F == [103, 101, 110, 115]) = true := by rw [hF1]; rfl
                      have HRS2 : Hid (rfLine 0 s y = some ⟨l, s.r, s.b⟩) := Lib.hid (by rw [HRW.out, if_pos ⟨rfl, hF1⟩])
                      have hat := HOX.out.at_
                      have g0 : wr.cell? ⟨w.heap.size + 1, 0, none⟩ = some vg := by rw [cell_of_row _ _ _ _ _ _ hat]; rfl
                      have gf : wr.frozen? ⟨w.heap.size + 1, 0, none⟩ = false := frozen_of_row _ _ _ _ _ hat
                      have gl2 : w.heap.size + 1 < wr.heap.size := (Array.getElem?_eq_some_iff.1 hat).1
                      have HPUT := Lib.hid (HOV.out.putG (X := wr) (v' := .slice na ln nc) (xs := l) (Kept.ofBelow hBx.out) (hOn.out.weaken HBV0.out.size) (fun k e => .inr (hOn.out.ge e)))
                      clear hat hF1
                      go_wp2
                      go_roundw
                      case rel =>
                        have hkp := HPUT.out.2
                        refine ⟨1, ⟨l, s.r, s.b⟩, .slice na ln nc, vr, vb, by omega, by go_num, Lib.hid (rf_next HYK.out hs.out HRS2.out), Lib.hid HPUT.out.1, hnil, Lib.hid ((hkp.block _ (Array.getElem?_eq_some_iff.1 H1V.out).1 (HOV.out.far H1V.out (.inr rfl) (by omega))).trans H1V.out), Lib.hid ((hkp.block _ (Array.getElem?_eq_some_iff.1 HPV.out).1 (HOV.out.far HPV.out (.inl rfl) (by omega))).trans HPV.out), Lib.hid (HBV0.out.trans (hkp.below HBV0.out.size (HOV.out.fb (by omega)))), Lib.hid ⟨?_, ?_, ?_⟩⟩
                        · show l.length ≤ 12002
                          rw [HLN.out]; omega
                        · exact Nat.le_trans hz.out.2.1 (by omega)
                        · exact Nat.le_trans hz.out.2.2 (by omega)
                      case measure => simp [intOf]; omega
                    · have e2 : (F == [103, 101, 110, 115]) = false := by simp only [beq_eq_false_iff_ne]; exact hF1
                      have HE : Hid (reE t = 9) := Lib.hid (HBADL.out (by rw [HRW.out, if_neg (fun h => hF1 h.2), if_neg (fun h => by omega), if_neg (fun h => by omega)]))
                      clear hF1
                      go_wp2_with (go_at_call 34; refine (bad_any _).mono ?_; rintro e WB ⟨rfl, hbb⟩; refine Hid.out ?_)
                      refine Lib.hid ?_
                      have hz0 := (hbb.block _ (Array.getElem?_eq_some_iff.1 HZ0.out).1).trans HZ0.out
                      have k0 : WB.cell? ⟨w.heap.size, 0, none⟩ = some (.slice none 0 0) := by rw [cell_of_row _ _ _ _ _ _ hz0]; rfl
                      have k1 : WB.cell? ⟨w.heap.size, 1, none⟩ = some (.slice none 0 0) := by rw [cell_of_row _ _ _ _ _ _ hz0]; rfl
                      have k2 : WB.cell? ⟨w.heap.size, 2, none⟩ = some (.slice none 0 0) := by rw [cell_of_row _ _ _ _ _ _ hz0]; rfl
                      have fz : ∀ j, WB.frozen? ⟨w.heap.size, j, none⟩ = false := fun j => frozen_of_row _ _ _ _ _ hz0
                      have hzl : w.heap.size < WB.heap.size := (Array.getElem?_eq_some_iff.1 hz0).1
                      have HBB := Lib.hid (nb_trans HBV.out hbb)
                      clear hz0 hbb
                      go_wp2
                      refine bodyPost_ret (v := .tuple #[.agg #[.slice none 0 0, .slice none 0 0, .slice none 0 0], .int .i64 9]) (by simp [results, Tryz.results11, go_sem, k0, k1, k2]) rfl (RParsePost.no HE.out (by decide) ?_)
                      iterate 3 (refine nb_setW ?_ _ _ _ (Nat.le_refl _))
                      exact HBB.out
                · have hk1 : 0 < k := by omega
                  have hk1i : (0 : Int) < (k : Int) := by omega
                  obtain ⟨bnd, e3⟩ : ∃ b, (F == [98, 111, 110, 100]) = b := ⟨_, rfl⟩
                  have HBND := Lib.hid e3
                  cases row
                  · have HNR : Hid (¬ F = rowW) := Lib.hid (of_decide_eq_false HROW.out)
                    cases bnd
                    · as_aux_lemma =>
                        have HE : Hid (reE t = 9) := Lib.hid (HBADL.out (by rw [HRW.out, if_neg (fun h => hk0 h.1), if_neg (fun h => HNR.out h.2.1), if_neg (fun h => by have := HBND.out; rw [h.2.1] at this; cases this)]))
                        go_wp2_with (go_at_call 34; refine (bad_any _).mono ?_; rintro e WB ⟨rfl, hbb⟩; refine Hid.out ?_)
                        refine Lib.hid ?_
                        have hz0 := (hbb.block _ (Array.getElem?_eq_some_iff.1 HZ0.out).1).trans HZ0.out
                        have k0 : WB.cell? ⟨w.heap.size, 0, none⟩ = some (.slice none 0 0) := by rw [cell_of_row _ _ _ _ _ _ hz0]; rfl
                        have k1 : WB.cell? ⟨w.heap.size, 1, none⟩ = some (.slice none 0 0) := by rw [cell_of_row _ _ _ _ _ _ hz0]; rfl
                        have k2 : WB.cell? ⟨w.heap.size, 2, none⟩ = some (.slice none 0 0) := by rw [cell_of_row _ _ _ _ _ _ hz0]; rfl
                        have fz : ∀ j, WB.frozen? ⟨w.heap.size, j, none⟩ = false := fun j => frozen_of_row _ _ _ _ _ hz0
                        have hzl : w.heap.size < WB.heap.size := (Array.getElem?_eq_some_iff.1 hz0).1
                        have HBB := Lib.hid (nb_trans HBV.out hbb)
                        clear hz0 hbb
                        go_wp2
                        refine bodyPost_ret (v := .tuple #[.agg #[.slice none 0 0, .slice none 0 0, .slice none 0 0], .int .i64 9]) (by simp [results, Tryz.results11, go_sem, k0, k1, k2]) rfl (RParsePost.no HE.out (by decide) ?_)
                        iterate 3 (refine nb_setW ?_ _ _ _ (Nat.le_refl _))
                        exact HBB.out
                    · have HFB : Hid (F = bondW) := Lib.hid (eq_of_beq HBND.out)
                      by_cases h4 : ln = 4
                      · subst h4
                        obtain ⟨a0, b0, a1, b1, hl0⟩ : ∃ a b c d, l = [a, b, c, d] := by
                          have := HLN.out
                          match l, this with
                          | [a, b, c, d], _ => exact ⟨a, b, c, d, rfl⟩
                        have HRS2 : Hid (rfLine k s y = some ⟨s.g, s.r, s.b ++ [((a0, b0), (a1, b1))]⟩) := Lib.hid (by rw [HRW.out, if_neg (fun h => hk0 h.1), if_neg (fun h => HNR.out h.2.1), if_pos ⟨hk1, HFB.out, HLN.out⟩, hl0]; rfl)
                        have hno := hOn.out
                        rcases hno.owns.form with ⟨-, e⟩ | ⟨g, cap, cur, hsl, -, hgl, hnc, hcapm, -⟩
                        · rw [hl0] at e; cases e
                        · simp only [Value.slice.injEq] at hsl
                          obtain ⟨rfl, -, rfl⟩ := hsl
                          rw [HLN.out] at hnc
                          unfold maxLen at hcapm
                          have HNC : Hid (∀ i x, l[i]? = some x → wr.cell? ⟨g, i, none⟩ = some (.int .i64 x)) := Lib.hid (fun i x hx => by
                            obtain ⟨hi, e⟩ := List.getElem?_eq_some_iff.1 hx
                            rw [(hno.open1 rfl hi).1, List.getD_eq_getElem?_getD, hx]; rfl)
                          have n0 := HNC.out 0 a0 (by rw [hl0]; rfl)
                          have n1 := HNC.out 1 b0 (by rw [hl0]; rfl)
                          have n2 := HNC.out 2 a1 (by rw [hl0]; rfl)
                          have n3 := HNC.out 3 b1 (by rw [hl0]; rfl)
                          have hso := HOX.out
                          have hpl3 := (Array.getElem?_eq_some_iff.1 hso.at_).1
                          obtain ⟨i1, hi, hz0, hz1, hz2⟩ := info_parts infoBond
                          obtain ⟨ba, rc, hre, -⟩ := hso.b.reads
                          obtain ⟨rl, hrl⟩ : ∃ n, s.b.length = n := ⟨_, rfl⟩
                          rw [hrl] at hre
                          subst hre
                          have HRL := Lib.hid hrl
                          have cq : wr.cell? ⟨w.heap.size + 1, 2, none⟩ = some (.slice ba rl rc) := by rw [cell_of_row _ _ _ _ _ _ hso.at_]; rfl
                          have HNQ : Hid ((Value.slice ba rl rc).ownBlock ≠ some (w.heap.size + 1)) := Lib.hid (own_ne_at hso.b.owns hso.at_ (by decide))
                          have HNG : Hid ((Value.slice ba rl rc).ownBlock ≠ some g) := Lib.hid (fun e => own_ne hso.b.owns hno.owns (by decide) _ e rfl)
                          have HSX : Hid (∀ x : World, x.heap[g]? = wr.heap[g]? → x.heap[w.heap.size + 1]? = wr.heap[w.heap.size + 1]? → (fun x : World => (x.cell? ⟨g, 0, none⟩ = some (.int .i64 a0) ∧ x.cell? ⟨g, 1, none⟩ = some (.int .i64 b0) ∧ x.cell? ⟨g, 2, none⟩ = some (.int .i64 a1) ∧ x.cell? ⟨g, 3, none⟩ = some (.int .i64 b1) ∧ x.cell? ⟨w.heap.size + 1, 2, none⟩ = some (.slice ba rl rc))) x) := Lib.hid (fun x e1 e2 => ⟨(World.cell?_of_block (a := ⟨g, 0, none⟩) e1).trans n0, (World.cell?_of_block (a := ⟨g, 1, none⟩) e1).trans n1, (World.cell?_of_block (a := ⟨g, 2, none⟩) e1).trans n2, (World.cell?_of_block (a := ⟨g, 3, none⟩) e1).trans n3, (World.cell?_of_block (a := ⟨w.heap.size + 1, 2, none⟩) e2).trans cq⟩)
                          have hS0 : (fun x : World => (x.cell? ⟨g, 0, none⟩ = some (.int .i64 a0) ∧ x.cell? ⟨g, 1, none⟩ = some (.int .i64 b0) ∧ x.cell? ⟨g, 2, none⟩ = some (.int .i64 a1) ∧ x.cell? ⟨g, 3, none⟩ = some (.int .i64 b1) ∧ x.cell? ⟨w.heap.size + 1, 2, none⟩ = some (.slice ba rl rc))) wr.drew := HSX.out _ rfl rfl
                          have HOA : Hid (∀ X, Below wr.heap.size wr X → X.ownsRow w.heap.size 58 4 (.slice ba rl rc) rl (s.b.flatMap elBond.enc)) := Lib.hid (fun X hX => by have := hso.b.later hX; unfold OwnsF at this; rw [HRL.out] at this; exact this)
                          have HBS : Hid (∀ X, Below wr.heap.size wr X → w.heap.size ≤ X.heap.size) := Lib.hid (fun X hX => Nat.le_trans HBV.out.size hX.size)
                          have hrl6 : rl ≤ 6001 := by have := hz.out.2.2; rw [hrl] at this; omega
                          have HL2 : Hid (rl + 1 ≤ maxLen) := Lib.hid (by unfold maxLen; omega)
                          have HL : Hid ((rl + 1) * 32 ≤ 140737488355328) := Lib.hid (by omega)
                          have HFQ : Hid (wr.frozen? ⟨w.heap.size + 1, 2, none⟩ = false) := Lib.hid (frozen_of_row _ _ _ _ _ hso.at_)
                          have HCQ := Lib.hid cq
                          clear n0 n1 n2 n3 cq hso hno hl0 hrl HNC HRW HFW HV HLL HRE HRS HTL HOX HZ0
                          go_wp2_with fail
                          refine wp_region_noPanic (wp_region_till (fun x : World => (x.cell? ⟨g, 0, none⟩ = some (.int .i64 a0) ∧ x.cell? ⟨g, 1, none⟩ = some (.int .i64 b0) ∧ x.cell? ⟨g, 2, none⟩ = some (.int .i64 a1) ∧ x.cell? ⟨g, 3, none⟩ = some (.int .i64 b1) ∧ x.cell? ⟨w.heap.size + 1, 2, none⟩ = some (.slice ba rl rc))) 20 (by as_aux_lemma => kernel_rfl) ?_)
                          refine Till.take (i := 0) (v := ?_) [1, 18] rfl (by as_aux_lemma => kernel_rfl) (by as_aux_lemma => kernel_rfl) (by as_aux_lemma => kernel_rfl) (by as_aux_lemma => kernel_rfl) (fun _ _ _ h => h) (Or.inl ⟨by rfl, ?_⟩) hS0 ?_
                          rotate_left
                          · (intro w hSw; (try dsimp only at hSw); go_simp; (try with_reducible rfl))
                          try simp only [Act.put, sp_t, sp_0, sp_s]
                          refine Till.take (i := 1) (v := ?_) [18] rfl (by as_aux_lemma => kernel_rfl) (by as_aux_lemma => kernel_rfl) (by as_aux_lemma => kernel_rfl) (by as_aux_lemma => kernel_rfl) (fun _ _ _ h => h) (Or.inl ⟨by rfl, ?_⟩) hS0 ?_
                          rotate_left
                          · (intro w hSw; (try dsimp only at hSw); go_simp; (try with_reducible rfl))
                          try simp only [Act.put, sp_t, sp_0, sp_s]
                          refine Till.take (i := 2) (v := ?_) [3, 4, 8, 16, 17, 18] rfl (by as_aux_lemma => kernel_rfl) (by as_aux_lemma => kernel_rfl) (by as_aux_lemma => kernel_rfl) (by as_aux_lemma => kernel_rfl) (fun _ _ _ h => h) (Or.inl ⟨by rfl, ?_⟩) hS0 ?_
                          rotate_left
                          · (intro w hSw; (try dsimp only at hSw); go_simp; (try with_reducible rfl))
                          try simp only [Act.put, sp_t, sp_0, sp_s]
                          refine Till.take (i := 3) (v := ?_) [4, 8, 16, 17, 18] rfl (by as_aux_lemma => kernel_rfl) (by as_aux_lemma => kernel_rfl) (by as_aux_lemma => kernel_rfl) (by as_aux_lemma => kernel_rfl) (fun _ _ _ h => h) (Or.inl ⟨by rfl, ?_⟩) hS0 ?_
                          rotate_left
                          · (intro w hSw; (try dsimp only at hSw); go_simp; (try with_reducible rfl))
                          try simp only [Act.put, sp_t, sp_0, sp_s]
                          refine Till.take (i := 4) (v := ?_) [8, 16, 17, 18] rfl (by as_aux_lemma => kernel_rfl) (by as_aux_lemma => kernel_rfl) (by as_aux_lemma => kernel_rfl) (by as_aux_lemma => kernel_rfl) (fun _ _ _ h => h) (Or.inl ⟨by rfl, ?_⟩) hS0 ?_
                          rotate_left
                          · (intro w hSw; (try dsimp only at hSw); go_simp; (try with_reducible rfl))
                          try simp only [Act.put, sp_t, sp_0, sp_s]
                          refine Till.take (i := 5) (v := ?_) [6, 7, 8, 16, 17, 18] rfl (by as_aux_lemma => kernel_rfl) (by as_aux_lemma => kernel_rfl) (by as_aux_lemma => kernel_rfl) (by as_aux_lemma => kernel_rfl) (fun _ _ _ h => h) (Or.inl ⟨by rfl, ?_⟩) hS0 ?_
                          rotate_left
                          · (intro w hSw; (try dsimp only at hSw); go_simp; (try with_reducible rfl))
                          try simp only [Act.put, sp_t, sp_0, sp_s]
                          refine Till.take (i := 6) (v := ?_) [7, 8, 16, 17, 18] rfl (by as_aux_lemma => kernel_rfl) (by as_aux_lemma => kernel_rfl) (by as_aux_lemma => kernel_rfl) (by as_aux_lemma => kernel_rfl) (fun _ _ _ h => h) (Or.inl ⟨by rfl, ?_⟩) hS0 ?_
                          rotate_left
                          · (intro w hSw; (try dsimp only at hSw); go_simp; (try with_reducible rfl))
                          try simp only [Act.put, sp_t, sp_0, sp_s]
                          refine Till.take (i := 7) (v := ?_) [8, 16, 17, 18] rfl (by as_aux_lemma => kernel_rfl) (by as_aux_lemma => kernel_rfl) (by as_aux_lemma => kernel_rfl) (by as_aux_lemma => kernel_rfl) (fun _ _ _ h => h) (Or.inl ⟨by rfl, ?_⟩) hS0 ?_
                          rotate_left
                          · (intro w hSw; (try dsimp only at hSw); go_simp; (try with_reducible rfl))
                          try simp only [Act.put, sp_t, sp_0, sp_s]
                          refine Till.take (i := 8) (v := ?_) [16, 17, 18] rfl (by as_aux_lemma => kernel_rfl) (by as_aux_lemma => kernel_rfl) (by as_aux_lemma => kernel_rfl) (by as_aux_lemma => kernel_rfl) (fun _ _ _ h => h) (Or.inl ⟨by rfl, ?_⟩) hS0 ?_
                          rotate_left
                          · (intro w hSw; (try dsimp only at hSw); go_simp; (try with_reducible rfl))
                          try simp only [Act.put, sp_t, sp_0, sp_s]
                          refine Till.take (i := 9) (v := ?_) [10, 11, 15, 16, 17, 18] rfl (by as_aux_lemma => kernel_rfl) (by as_aux_lemma => kernel_rfl) (by as_aux_lemma => kernel_rfl) (by as_aux_lemma => kernel_rfl) (fun _ _ _ h => h) (Or.inl ⟨by rfl, ?_⟩) hS0 ?_
                          rotate_left
                          · (intro w hSw; (try dsimp only at hSw); go_simp; (try with_reducible rfl))
                          try simp only [Act.put, sp_t, sp_0, sp_s]
                          refine Till.take (i := 10) (v := ?_) [11, 15, 16, 17, 18] rfl (by as_aux_lemma => kernel_rfl) (by as_aux_lemma => kernel_rfl) (by as_aux_lemma => kernel_rfl) (by as_aux_lemma => kernel_rfl) (fun _ _ _ h => h) (Or.inl ⟨by rfl, ?_⟩) hS0 ?_
                          rotate_left
                          · (intro w hSw; (try dsimp only at hSw); go_simp; (try with_reducible rfl))
                          try simp only [Act.put, sp_t, sp_0, sp_s]
                          refine Till.take (i := 11) (v := ?_) [15, 16, 17, 18] rfl (by as_aux_lemma => kernel_rfl) (by as_aux_lemma => kernel_rfl) (by as_aux_lemma => kernel_rfl) (by as_aux_lemma => kernel_rfl) (fun _ _ _ h => h) (Or.inl ⟨by rfl, ?_⟩) hS0 ?_
                          rotate_left
                          · (intro w hSw; (try dsimp only at hSw); go_simp; (try with_reducible rfl))
                          try simp only [Act.put, sp_t, sp_0, sp_s]
                          refine Till.take (i := 12) (v := ?_) [13, 14, 15, 16, 17, 18] rfl (by as_aux_lemma => kernel_rfl) (by as_aux_lemma => kernel_rfl) (by as_aux_lemma => kernel_rfl) (by as_aux_lemma => kernel_rfl) (fun _ _ _ h => h) (Or.inl ⟨by rfl, ?_⟩) hS0 ?_
                          rotate_left
                          · (intro w hSw; (try dsimp only at hSw); go_simp; (try with_reducible rfl))
                          try simp only [Act.put, sp_t, sp_0, sp_s]
                          refine Till.take (i := 13) (v := ?_) [14, 15, 16, 17, 18] rfl (by as_aux_lemma => kernel_rfl) (by as_aux_lemma => kernel_rfl) (by as_aux_lemma => kernel_rfl) (by as_aux_lemma => kernel_rfl) (fun _ _ _ h => h) (Or.inl ⟨by rfl, ?_⟩) hS0 ?_
                          rotate_left
                          · (intro w hSw; (try dsimp only at hSw); go_simp; (try with_reducible rfl))
                          try simp only [Act.put, sp_t, sp_0, sp_s]
                          refine Till.take (i := 14) (v := ?_) [15, 16, 17, 18] rfl (by as_aux_lemma => kernel_rfl) (by as_aux_lemma => kernel_rfl) (by as_aux_lemma => kernel_rfl) (by as_aux_lemma => kernel_rfl) (fun _ _ _ h => h) (Or.inl ⟨by rfl, ?_⟩) hS0 ?_
                          rotate_left
                          · (intro w hSw; (try dsimp only at hSw); go_simp; (try with_reducible rfl))
                          try simp only [Act.put, sp_t, sp_0, sp_s]
                          refine Till.take (i := 15) (v := ?_) [16, 17, 18] rfl (by as_aux_lemma => kernel_rfl) (by as_aux_lemma => kernel_rfl) (by as_aux_lemma => kernel_rfl) (by as_aux_lemma => kernel_rfl) (fun _ _ _ h => h) (Or.inl ⟨by rfl, ?_⟩) hS0 ?_
                          rotate_left
                          · (intro w hSw; (try dsimp only at hSw); go_simp; (try with_reducible rfl))
                          try simp only [Act.put, sp_t, sp_0, sp_s]
                          refine Till.take (i := 16) (v := ?_) [17, 18] rfl (by as_aux_lemma => kernel_rfl) (by as_aux_lemma => kernel_rfl) (by as_aux_lemma => kernel_rfl) (by as_aux_lemma => kernel_rfl) (fun _ _ _ h => h) (Or.inl ⟨by rfl, ?_⟩) hS0 ?_
                          rotate_left
                          · (intro w hSw; (try dsimp only at hSw); go_simp; (try with_reducible rfl))
                          try simp only [Act.put, sp_t, sp_0, sp_s]
                          refine Till.ready (rs := [17]) (by as_aux_lemma => kernel_rfl) (by simp) (TillAll.cons rfl (fun K hK => ?_) TillAll.nil)
                          go_simp
                          refine hK.out _ _ (.inr (HSX.out _ (Below.heap_alloc wr _ _ hgl) (Below.heap_alloc wr _ _ hpl3))) ?_
                          clear hK K
                          try simp only [Act.put, sp_t, sp_0, sp_s]
                          refine Till.ready (rs := [18]) (by as_aux_lemma => kernel_rfl) (by simp) (TillAll.cons rfl (fun K hK => ?_) TillAll.nil)
                          refine step_append_lies _ (by rfl) _ _ 24 (by rfl) w.heap.size 58 i1 _ 4 32 Tryz.underlying24 hi hz0 hz1 hz2 rfl (by decide) (.slice ba rl rc) rl (s.b.flatMap elBond.enc) (by rfl) (HOA.out _ (nb_alloc (Below.refl _ _).drew _)) _ 1 1 [.int .i64 a0, .int .i64 b0, .int .i64 a1, .int .i64 b1] (by rfl) rfl (World.news_of_block (heap_alloc_new _ _)) (elBond.one ((a0, b0), (a1, b1))) (by decide) HL2.out HL.out (HBS.out _ (nb_alloc (Below.refl _ _).drew _)) _ rfl ?_
                          intro g2 cap' w4 hown hgr hat hg4
                          have hG4 : Grew wr w4 (.slice ba rl rc) g2 := Grew.of (nb_alloc (Below.refl _ _).drew _) hgr hat hg4
                          have hq4 := hG4.far _ hpl3 HNQ.out
                          have hg4' := hG4.far _ hgl HNG.out
                          have HPUT := Lib.hid (HOV.out.putB (X := w4) (v' := .slice (some ⟨g2, 0, none⟩) (rl + 1) cap') (xs := s.b ++ [((a0, b0), (a1, b1))]) ((Kept.ofBelow hBx.out).trans (hG4.kept (fun b hb => hb)) (fun k e => .inl e)) (OwnsF.snoc (by rw [HRL.out]; exact hown)) (fun k e => by simp only [Value.ownBlock, Option.some.injEq] at e; subst e; exact hG4.at_.imp id (fun h => Nat.le_trans hBx.out.size h)))
                          have hS4 := HSX.out w4 hg4' hq4
                          have cq2 : w4.cell? ⟨w.heap.size + 1, 2, none⟩ = some (.slice ba rl rc) := (World.cell?_of_block (a := ⟨w.heap.size + 1, 2, none⟩) hq4).trans HCQ.out
                          have fq2 : w4.frozen? ⟨w.heap.size + 1, 2, none⟩ = false := (World.frozen?_of_block (a := ⟨w.heap.size + 1, 2, none⟩) hq4).trans HFQ.out
                          have hp4 : w.heap.size + 1 < w4.heap.size := Nat.lt_of_lt_of_le hpl3 hG4.size
                          clear hown hgr hat hG4 hq4 hg4' hg4
                          as_aux_lemma =>
                            refine hK.out _ _ (.inr hS4) ?_
                            clear hK K
                            try simp only [Act.put, sp_t, sp_0, sp_s]
                            refine Till.ready (rs := [19]) (by as_aux_lemma => kernel_rfl) (by simp) (TillAll.cons rfl (fun K hK => ?_) TillAll.nil)
                            go_simp
                            refine hK.out _ _ (.inr hS4) ?_
                            clear hK K hS0 hS4
                            try simp only [Act.put, sp_t, sp_0, sp_s]
                            refine Till.ready (rs := [20]) (by as_aux_lemma => kernel_rfl) (by simp) (TillAll.cons rfl (fun K hK => ?_) TillAll.nil)
                            go_simp
                            refine hK.out _ _ (.inl rfl) ?_
                            clear hK K
                            try simp only [Act.put, sp_t, sp_0, sp_s]
                            refine Till.done (by as_aux_lemma => kernel_rfl) (NoPanic.normal ?_) _
                            clear cq2 fq2 hp4
                            go_wp2
                            go_roundw
                            case rel =>
                              have hkp := HPUT.out.2
                              refine ⟨k + 1, ⟨s.g, s.r, s.b ++ [((a0, b0), (a1, b1))]⟩, vg, vr, .slice (some ⟨g2, 0, none⟩) (rl + 1) cap', by omega, by go_num, Lib.hid (rf_next HYK.out hs.out HRS2.out), Lib.hid HPUT.out.1, Lib.hid (fun h => by simp at h), Lib.hid ((hkp.block _ (Array.getElem?_eq_some_iff.1 H1V.out).1 (HOV.out.far H1V.out (.inr rfl) (by omega))).trans H1V.out), Lib.hid ((hkp.block _ (Array.getElem?_eq_some_iff.1 HPV.out).1 (HOV.out.far HPV.out (.inl rfl) (by omega))).trans HPV.out), Lib.hid (HBV0.out.trans (hkp.below HBV0.out.size (HOV.out.fb (by omega)))), Lib.hid ⟨hz.out.1, ?_, ?_⟩⟩
                              · exact Nat.le_trans hz.out.2.1 (by omega)
                              · rw [List.length_append]; exact Nat.succ_le_succ hz.out.2.2
                            case measure => simp [intOf]; omega
                      · as_aux_lemma =>
                          have HE : Hid (reE t = 9) := Lib.hid (HBADL.out (by rw [HRW.out, if_neg (fun h => hk0 h.1), if_neg (fun h => HNR.out h.2.1), if_neg (fun h => h4 (HLN.out.symm.trans h.2.2))]))
                          have h4i : ¬ (ln : Int) = 4 := by omega
                          go_wp2_with (go_at_call 34; refine (bad_any _).mono ?_; rintro e WB ⟨rfl, hbb⟩; refine Hid.out ?_)
                          refine Lib.hid ?_
                          have hz0 := (hbb.block _ (Array.getElem?_eq_some_iff.1 HZ0.out).1).trans HZ0.out
                          have k0 : WB.cell? ⟨w.heap.size, 0, none⟩ = some (.slice none 0 0) := by rw [cell_of_row _ _ _ _ _ _ hz0]; rfl
                          have k1 : WB.cell? ⟨w.heap.size, 1, none⟩ = some (.slice none 0 0) := by rw [cell_of_row _ _ _ _ _ _ hz0]; rfl
                          have k2 : WB.cell? ⟨w.heap.size, 2, none⟩ = some (.slice none 0 0) := by rw [cell_of_row _ _ _ _ _ _ hz0]; rfl
                          have fz : ∀ j, WB.frozen? ⟨w.heap.size, j, none⟩ = false := fun j => frozen_of_row _ _ _ _ _ hz0
                          have hzl : w.heap.size < WB.heap.size := (Array.getElem?_eq_some_iff.1 hz0).1
                          have HBB := Lib.hid (nb_trans HBV.out hbb)
                          clear hz0 hbb
                          go_wp2
                          refine bodyPost_ret (v := .tuple #[.agg #[.slice none 0 0, .slice none 0 0, .slice none 0 0], .int .i64 9]) (by simp [results, Tryz.results11, go_sem, k0, k1, k2]) rfl (RParsePost.no HE.out (by decide) ?_)
                          iterate 3 (refine nb_setW ?_ _ _ _ (Nat.le_refl _))
                          exact HBB.out
                  · have HFR : Hid (F = rowW) := Lib.hid (of_decide_eq_true HROW.out)
                    obtain rfl : bnd = false := by rw [← e3, HFR.out]; rfl
                    by_cases h2 : 2 ≤ ln
                    · have h2i : (2 : Int) ≤ (ln : Int) := by omega
                      by_cases hsb : s.b = []
                      · skip
                        have h2l : 2 ≤ l.length := by rw [HLN.out]; exact h2
                        obtain ⟨a0, b0, ps, hl0, hps⟩ : ∃ s g ps, l = s :: g :: prs ps ∧ ∀ p ∈ ps, isK p.1 = true := by
                          obtain ⟨s1, g1, ps, e, -, hp⟩ := words_row HFW.out h2l
                          exact ⟨s1, g1, ps, e, hp⟩
                        obtain ⟨M, hM⟩ : ∃ n, ps.length = n := ⟨_, rfl⟩
                        have HLM : Hid (ln = 2 + 2 * M) := Lib.hid (by have := HLN.out; rw [hl0] at this; simp [prs_len, hM] at this; omega)
                        have HPS := Lib.hid hps
                        have HM := Lib.hid hM
                        have HRS2 : Hid (rfLine k s y = (addK (prs ps) 0 (fun _ => 0)).map fun b => ⟨s.g, s.r ++ [⟨a0, b0, b.1, b.2⟩], s.b⟩) := Lib.hid (by rw [HRW.out, if_neg (fun h => hk0 h.1), if_pos ⟨hk1, HFR.out, h2l, hsb⟩, hl0]; rfl)
                        obtain rfl := hnil.out hsb
                        have HSB := Lib.hid hsb
                        have hno := hOn.out
                        rcases hno.owns.form with ⟨-, e⟩ | ⟨g, cap, cur, hsl, -, hgl, hnc, hcapm, -⟩
                        · rw [hl0] at e; cases e
                        · simp only [Value.slice.injEq] at hsl
                          obtain ⟨rfl, -, rfl⟩ := hsl
                          rw [HLN.out] at hnc
                          unfold maxLen at hcapm
                          have HNC : Hid (∀ i x, l[i]? = some x → wr.cell? ⟨g, i, none⟩ = some (.int .i64 x)) := Lib.hid (fun i x hx => by
                            obtain ⟨hi, e⟩ := List.getElem?_eq_some_iff.1 hx
                            rw [(hno.open1 rfl hi).1, List.getD_eq_getElem?_getD, hx]; rfl)
                          have n0 := HNC.out 0 a0 (by rw [hl0]; rfl)
                          have n1 := HNC.out 1 b0 (by rw [hl0]; rfl)
                          have HNK : Hid (∀ i p, ps[i]? = some p → wr.cell? ⟨g, 2 + 2 * i, none⟩ = some (.int .i64 p.1) ∧ wr.cell? ⟨g, 2 + 2 * i + 1, none⟩ = some (.int .i64 p.2)) := Lib.hid (fun i p hp => by
                            obtain ⟨h1, h2⟩ := prs_get ps i p hp
                            refine ⟨HNC.out _ _ ?_, HNC.out _ _ ?_⟩
                            · rw [hl0, show 2 + 2 * i = 2 * i + 1 + 1 by omega]; simpa using h1
                            · rw [hl0, show 2 + 2 * i + 1 = 2 * i + 1 + 1 + 1 by omega]; simpa using h2)
                          have hat := HOX.out.at_
                          have s2 : wr.cell? ⟨w.heap.size + 1, 2, none⟩ = some (.slice none 0 0) := by rw [cell_of_row _ _ _ _ _ _ hat]; rfl
                          have gl2 : w.heap.size + 1 < wr.heap.size := (Array.getElem?_eq_some_iff.1 hat).1
                          have heqN : ∀ x : World, (binOp .eql 24 (.slice none 0 0) (.slice none 0 0)).run Tryz.prog x = .ok (.bool true) x := fun x => Lib.run_eql_slice_nil x 24 _ none 0 0 0 0 Tryz.underlying24
                          clear hat hno hl0 hps hM hsb h2l HNC HFW HRW
                          go_wp2_with fail
                          rename World => Y
                          clear HV HLL HRE HRS HTL s2 gl2
                          go_region
                          have HBZ : Hid (Below Y.heap.size Y ((Y.alloc (.cells #[.int .i64 a0, .int .i64 b0, .int .i64 0, .int .i64 0, .int .i64 0, .int .i64 0, .int .i64 0, .int .i64 0, .int .i64 0, .int .i64 0, .int .i64 0] 54)).drew)) := Lib.hid (nb_alloc (Below.refl _ _) _).drew
                          have HRZ : Hid (((Y.alloc (.cells #[.int .i64 a0, .int .i64 b0, .int .i64 0, .int .i64 0, .int .i64 0, .int .i64 0, .int .i64 0, .int .i64 0, .int .i64 0, .int .i64 0, .int .i64 0] 54)).drew).heap[Y.heap.size]? = some (.cells #[.int .i64 a0, .int .i64 b0, .int .i64 0, .int .i64 0, .int .i64 0, .int .i64 0, .int .i64 0, .int .i64 0, .int .i64 0, .int .i64 0, .int .i64 0] 54)) := Lib.hid (heap_alloc_new _ _)
                          generalize ((Y.alloc (.cells #[.int .i64 a0, .int .i64 b0, .int .i64 0, .int .i64 0, .int .i64 0, .int .i64 0, .int .i64 0, .int .i64 0, .int .i64 0, .int .i64 0, .int .i64 0] 54)).drew) = Y2 at *
                          clear n0 n1
                          go_wp2
                          go_loopw [22] (fun c wr => ∃ (i d : Nat) (m : Int) (f : Nat → Int), i ≤ M ∧ Hid (d = 2 + 2 * i) ∧ c = .int .i64 d ∧ Hid (addK (prs ps) 0 (fun _ => 0) = addK (prs (ps.drop i)) m f) ∧ Hid (0 ≤ m ∧ m ≤ 255) ∧ Hid (wr.heap[Y.heap.size]? = some (.cells #[.int .i64 a0, .int .i64 b0, .int .i64 m, .int .i64 (f 0), .int .i64 (f 1), .int .i64 (f 2), .int .i64 (f 3), .int .i64 (f 4), .int .i64 (f 5), .int .i64 (f 6), .int .i64 (f 7)] 54)) ∧ Hid (Below Y.heap.size Y wr)) (fun c _ => ln - (intOf c).toNat)
                          case atStart => exact ⟨0, 2, 0, fun _ => 0, by omega, Lib.hid rfl, rfl, Lib.hid rfl, Lib.hid ⟨by decide, by decide⟩, HRZ, HBZ⟩
                          case round =>
                            obtain ⟨i, d, m, f, hi, hd, rfl, hak, hm, hrow, hBy⟩ := hrel
                            clear HRZ HBZ
                            by_cases hlti : i < M
                            · obtain ⟨⟨kk, vv⟩, hp⟩ : ∃ p, ps[i]? = some p := ⟨_, List.getElem?_eq_getElem (by rw [HM.out]; exact hlti)⟩
                              have hik : isK kk = true := HPS.out _ (List.mem_of_getElem? hp)
                              obtain ⟨hz0, hz7⟩ := isK_iff.1 hik
                              obtain ⟨t8, rfl⟩ := Int.eq_ofNat_of_zero_le hz0
                              have ht8 : t8 < 8 := by omega
                              have hnk := HNK.out i _ hp
                              rw [← hd.out] at hnk
                              have p0 : wr.cell? ⟨g, d, none⟩ = some (.int .i64 (t8 : Int)) := by rw [hBy.out.cell (p := ⟨g, d, none⟩) hgl]; exact hnk.1
                              have p1 : wr.cell? ⟨g, d + 1, none⟩ = some (.int .i64 vv) := by rw [hBy.out.cell (p := ⟨g, d + 1, none⟩) hgl]; exact hnk.2
                              obtain ⟨P, hP⟩ : ∃ P : Int, (2 : Int) ^ t8 = P := ⟨_, rfl⟩
                              have HSTEP : Hid (addK (prs ps) 0 (fun _ => 0) = if hasK m (t8 : Int) || decide (P ≤ m) then none else addK (prs (ps.drop (i + 1))) (m + P) (upd f t8 vv)) := Lib.hid (by
                                rw [hak.out, addK_next hp, Int.toNat_natCast, hP])
                              have hP7 := pow_le7 t8 ht8
                              rw [hP] at hP7
                              obtain ⟨hP1, hP0⟩ := hP7
                              have q2 : wr.cell? ⟨Y.heap.size, 2, none⟩ = some (.int .i64 m) := by rw [cell_of_row _ _ _ _ _ _ hrow.out]; rfl
                              have hrbl : Y.heap.size < wr.heap.size := (Array.getElem?_eq_some_iff.1 hrow.out).1
                              have hgl' : g < wr.heap.size := Nat.lt_trans hgl hrbl
                              have hdl : (d : Int) < (ln : Int) := by have := HLM.out; have := hd.out; omega
                              have hdl1 : (d : Int) + 1 < (ln : Int) := by have := HLM.out; have := hd.out; omega
                              have hdn : ¬ (d : Int) < 0 := by omega
                              have ht0 : (0 : Int) ≤ (t8 : Int) := by omega
                              have ht7 : (t8 : Int) < 8 := by omega
                              obtain ⟨bh, hbh⟩ : ∃ b, tb m t8 = b := ⟨_, rfl⟩
                              have HHK : Hid (∀ W, Calls Tryz.prog 40 #[.int .i64 m, .int .i64 (t8 : Int)] W fun e w' => e = .returned (.bool bh) ∧ w' = W) := Lib.hid (fun W => (refHasKind_any m (t8 : Int) W (by omega) (by omega)).mono (fun e w' h => ⟨by rw [h.1, Int.toNat_natCast, hbh], h.2.symm⟩))
                              have HPW : Hid (∀ W, Calls Tryz.prog 41 #[.int .i64 (t8 : Int)] W fun e w' => e = .returned (.int .i64 P) ∧ w' = W) := Lib.hid (fun W => (power_any (t8 : Int) W (by omega) (by omega)).mono (fun e w' h => ⟨by rw [h.1, Int.toNat_natCast, hP], h.2.symm⟩))
                              have HBH : Hid (hasK m (t8 : Int) = bh) := Lib.hid (by rw [hasK, Int.toNat_natCast]; exact hbh)
                              obtain ⟨hm0, hm1⟩ := hm.out
                              have HM8 := hm
                              have HT8 := Lib.hid ht8
                              clear hp hik hz0 hz7 hnk hP hbh hak ht8
                              have HBY := Lib.hid (nb_trans HBV.out hBy.out)
                              have HZY := Lib.hid ((hBy.out.block _ (Array.getElem?_eq_some_iff.1 HZ0.out).1).trans HZ0.out)
                              cases bh
                              · by_cases hPm : P ≤ m
                                · as_aux_lemma =>
                                    have HE : Hid (reE t = 9) := Lib.hid (HBADL.out (by rw [HRS2.out, HSTEP.out, HBH.out, decide_eq_true hPm]; rfl))
                                    go_wp2_with fail
                                    go_quiet ((first | (go_at_call 40; exact Calls.quiet_of_same (HHK.out _)) | (go_at_call 41; exact Calls.quiet_of_same (HPW.out _))))
                                    as_aux_lemma =>
                                      clear HBV HZ0
                                      have HBV : Hid (Below w.heap.size w (wr.drewN nq)) := Lib.hid (nb_drewN HBY.out)
                                      have HZ0 : Hid ((wr.drewN nq).heap[w.heap.size]? = some (.cells #[.slice none 0 0, .slice none 0 0, .slice none 0 0] 26)) := Lib.hid HZY.out
                                      clear hrow hBy HHK HPW q2 p0 p1 hrbl hgl' HBY HZY
                                      generalize wr.drewN nq = W1 at *
                                      go_wp2_with (go_at_call 34; refine (bad_any _).mono ?_; rintro e WB ⟨rfl, hbb⟩; refine Hid.out ?_)
                                      refine Lib.hid ?_
                                      have hz0 := (hbb.block _ (Array.getElem?_eq_some_iff.1 HZ0.out).1).trans HZ0.out
                                      have k0 : WB.cell? ⟨w.heap.size, 0, none⟩ = some (.slice none 0 0) := by rw [cell_of_row _ _ _ _ _ _ hz0]; rfl
                                      have k1 : WB.cell? ⟨w.heap.size, 1, none⟩ = some (.slice none 0 0) := by rw [cell_of_row _ _ _ _ _ _ hz0]; rfl
                                      have k2 : WB.cell? ⟨w.heap.size, 2, none⟩ = some (.slice none 0 0) := by rw [cell_of_row _ _ _ _ _ _ hz0]; rfl
                                      have fz : ∀ j, WB.frozen? ⟨w.heap.size, j, none⟩ = false := fun j => frozen_of_row _ _ _ _ _ hz0
                                      have hzl : w.heap.size < WB.heap.size := (Array.getElem?_eq_some_iff.1 hz0).1
                                      have HBB := Lib.hid (nb_trans HBV.out hbb)
                                      clear hz0 hbb
                                      go_wp2
                                      refine bodyPost_ret (v := .tuple #[.agg #[.slice none 0 0, .slice none 0 0, .slice none 0 0], .int .i64 9]) (by simp [results, Tryz.results11, go_sem, k0, k1, k2]) rfl (RParsePost.no HE.out (by decide) ?_)
                                      iterate 3 (refine nb_setW ?_ _ _ _ (Nat.le_refl _))
                                      exact HBB.out
                                · have HP255 : Hid (0 ≤ m + P ∧ m + P ≤ 255) := Lib.hid (by omega)
                                  have HNX : Hid (addK (prs ps) 0 (fun _ => 0) = addK (prs (ps.drop (i + 1))) (m + P) (upd f t8 vv)) := Lib.hid (by rw [HSTEP.out, HBH.out, decide_eq_false hPm]; rfl)
                                  go_wp2_with fail
                                  go_quiet ((first | (go_at_call 40; exact Calls.quiet_of_same (HHK.out _)) | (go_at_call 41; exact Calls.quiet_of_same (HPW.out _))))
                                  have hrw5 : (wr.drewN nq).heap[Y.heap.size]? = some (.cells #[.int .i64 a0, .int .i64 b0, .int .i64 m, .int .i64 (f 0), .int .i64 (f 1), .int .i64 (f 2), .int .i64 (f 3), .int .i64 (f 4), .int .i64 (f 5), .int .i64 (f 6), .int .i64 (f 7)] 54) := hrow.out
                                  have hB5 : Below Y.heap.size Y (wr.drewN nq) := nb_drewN hBy.out
                                  replace p0 : (wr.drewN nq).cell? ⟨g, d, none⟩ = some (.int .i64 (t8 : Int)) := p0
                                  replace p1 : (wr.drewN nq).cell? ⟨g, d + 1, none⟩ = some (.int .i64 vv) := p1
                                  replace q2 : (wr.drewN nq).cell? ⟨Y.heap.size, 2, none⟩ = some (.int .i64 m) := q2
                                  replace hrbl : Y.heap.size < (wr.drewN nq).heap.size := hrbl
                                  replace hgl' : g < (wr.drewN nq).heap.size := hgl'
                                  clear HBY HZY hrow hBy HHK HBH HSTEP
                                  generalize wr.drewN nq = W1 at *
                                  have fq2 : W1.frozen? ⟨Y.heap.size, 2, none⟩ = false := frozen_of_row _ _ _ _ _ hrw5
                                  have HW2 : Hid (Below Y.heap.size Y (W1.setCell ⟨Y.heap.size, 2, none⟩ (.int .i64 (m + P))).drew ∧ (W1.setCell ⟨Y.heap.size, 2, none⟩ (.int .i64 (m + P))).drew.heap[Y.heap.size]? = some (.cells #[.int .i64 a0, .int .i64 b0, .int .i64 (m + P), .int .i64 (f 0), .int .i64 (f 1), .int .i64 (f 2), .int .i64 (f 3), .int .i64 (f 4), .int .i64 (f 5), .int .i64 (f 6), .int .i64 (f 7)] 54)) := Lib.hid ⟨(nb_setW hB5 _ _ _ (Nat.le_refl _)).drew, heap_setCell_same W1 _ 2 _ _ _ hrw5⟩
                                  have hng : ¬ g = Y.heap.size := by omega
                                  have hng2 : ¬ Y.heap.size = g := by omega
                                  have HP0 : Hid ((W1.setCell ⟨Y.heap.size, 2, none⟩ (.int .i64 (m + P))).drew.cell? ⟨g, d, none⟩ = some (.int .i64 (t8 : Int))) := Lib.hid ((World.cell?_setCell_other _ _ _ _ (by intro e; simp only [Addr.mk.injEq] at e; omega)).trans p0)
                                  have HP1 : Hid ((W1.setCell ⟨Y.heap.size, 2, none⟩ (.int .i64 (m + P))).drew.cell? ⟨g, d + 1, none⟩ = some (.int .i64 vv)) := Lib.hid ((World.cell?_setCell_other _ _ _ _ (by intro e; simp only [Addr.mk.injEq] at e; omega)).trans p1)
                                  clear hrw5 hB5 p1
                                  have hwr : IntKind.i64.wrap (m + P) = m + P := by rw [IntKind.wrap_i64]; omega
                                  go_upto_region 37 with fail
                                  go_cut [22] from 179 to 230 (fun c wx => c = .int .i64 d ∧ wx = (W1.setCell ⟨Y.heap.size, 2, none⟩ (.int .i64 (m + P))).drew)
                                  case first =>
                                    go_region_law (first | (go_simp; go_at_call 41; refine (HPW.out _).mono ?_; rintro e w' ⟨rfl, rfl⟩))
                                    all_goals
                                      go_wp2_with fail
                                      go_meet
                                      exact ⟨rfl, rfl⟩
                                  case rest =>
                                    obtain ⟨rfl, rfl⟩ := hcut
                                    as_aux_lemma =>
                                      generalize (W1.setCell ⟨Y.heap.size, 2, none⟩ (.int .i64 (m + P))).drew = W2 at *
                                      clear p0 q2 fq2 hrbl hgl' hwr hPm hm0 hm1 hP0 hP1
                                      obtain ⟨m2, hm2⟩ : ∃ z, m + P = z := ⟨_, rfl⟩
                                      rw [hm2] at HW2 HNX HP255
                                      clear hm2
                                      have hrw2 := HW2.out.2
                                      have e0 := HP0.out
                                      have e1' := HP1.out
                                      have hrbl : Y.heap.size < W2.heap.size := (Array.getElem?_eq_some_iff.1 hrw2).1
                                      have hgl' : g < W2.heap.size := Nat.lt_trans hgl hrbl
                                      have kj : W2.cell? ⟨Y.heap.size, 2 + 1 + t8, none⟩ = some (.int .i64 (f t8)) := by rw [cell_of_row _ _ _ _ _ _ hrw2]; exact rowv_at a0 b0 m2 f t8 HT8.out
                                      have fj : ∀ j, W2.frozen? ⟨Y.heap.size, j, none⟩ = false := fun j => frozen_of_row _ _ _ _ _ hrw2
                                      have HROW2 : Hid ((W2.drew.setCell ⟨Y.heap.size, 2 + 1 + t8, none⟩ (.int .i64 vv)).heap[Y.heap.size]? = some (.cells #[.int .i64 a0, .int .i64 b0, .int .i64 m2, .int .i64 ((upd f t8 vv) 0), .int .i64 ((upd f t8 vv) 1), .int .i64 ((upd f t8 vv) 2), .int .i64 ((upd f t8 vv) 3), .int .i64 ((upd f t8 vv) 4), .int .i64 ((upd f t8 vv) 5), .int .i64 ((upd f t8 vv) 6), .int .i64 ((upd f t8 vv) 7)] 54)) := Lib.hid (by
                                        have := heap_setCell_same W2.drew Y.heap.size (2 + 1 + t8) _ _ (.int .i64 vv) hrw2
                                        rw [rowv_set a0 b0 m2 f t8 vv HT8.out] at this; exact this)
                                      have HB2 : Hid (Below Y.heap.size Y (W2.drew.setCell ⟨Y.heap.size, 2 + 1 + t8, none⟩ (.int .i64 vv))) := Lib.hid (nb_setW HW2.out.1.drew _ _ _ (Nat.le_refl _))
                                      have hwd : IntKind.i64.wrap ((d : Int) + 1) = (d : Int) + 1 := by rw [IntKind.wrap_i64]; omega
                                      have hdn1 : ¬ (d : Int) + 1 < 0 := by omega
                                      have hdt : ((d : Int) + 1).toNat = d + 1 := by omega
                                      clear hrw2
                                      go_wp2_with fail
                                      go_still_tail 12, (by as_aux_lemma => kernel_rfl)
                                      change wpList _ _ _ _ _ W2.drew
                                      clear e0 e1'
                                      go_wp2
                                      go_roundw
                                      case rel => exact ⟨i + 1, d + 2, m2, upd f t8 vv, by omega, Lib.hid (by have := hd.out; omega), by go_num, HNX, HP255, HROW2, HB2⟩
                                      case measure => simp [intOf]; omega
                              · as_aux_lemma =>
                                  have HE : Hid (reE t = 9) := Lib.hid (HBADL.out (by rw [HRS2.out, HSTEP.out, HBH.out]; rfl))
                                  go_wp2_with fail
                                  go_quiet ((first | (go_at_call 40; exact Calls.quiet_of_same (HHK.out _)) | (go_at_call 41; exact Calls.quiet_of_same (HPW.out _))))
                                  as_aux_lemma =>
                                    clear HBV HZ0
                                    have HBV : Hid (Below w.heap.size w (wr.drewN nq)) := Lib.hid (nb_drewN HBY.out)
                                    have HZ0 : Hid ((wr.drewN nq).heap[w.heap.size]? = some (.cells #[.slice none 0 0, .slice none 0 0, .slice none 0 0] 26)) := Lib.hid HZY.out
                                    clear hrow hBy HHK HPW q2 p0 p1 hrbl hgl' HBY HZY
                                    generalize wr.drewN nq = W1 at *
                                    go_wp2_with (go_at_call 34; refine (bad_any _).mono ?_; rintro e WB ⟨rfl, hbb⟩; refine Hid.out ?_)
                                    refine Lib.hid ?_
                                    have hz0 := (hbb.block _ (Array.getElem?_eq_some_iff.1 HZ0.out).1).trans HZ0.out
                                    have k0 : WB.cell? ⟨w.heap.size, 0, none⟩ = some (.slice none 0 0) := by rw [cell_of_row _ _ _ _ _ _ hz0]; rfl
                                    have k1 : WB.cell? ⟨w.heap.size, 1, none⟩ = some (.slice none 0 0) := by rw [cell_of_row _ _ _ _ _ _ hz0]; rfl
                                    have k2 : WB.cell? ⟨w.heap.size, 2, none⟩ = some (.slice none 0 0) := by rw [cell_of_row _ _ _ _ _ _ hz0]; rfl
                                    have fz : ∀ j, WB.frozen? ⟨w.heap.size, j, none⟩ = false := fun j => frozen_of_row _ _ _ _ _ hz0
                                    have hzl : w.heap.size < WB.heap.size := (Array.getElem?_eq_some_iff.1 hz0).1
                                    have HBB := Lib.hid (nb_trans HBV.out hbb)
                                    clear hz0 hbb
                                    go_wp2
                                    refine bodyPost_ret (v := .tuple #[.agg #[.slice none 0 0, .slice none 0 0, .slice none 0 0], .int .i64 9]) (by simp [results, Tryz.results11, go_sem, k0, k1, k2]) rfl (RParsePost.no HE.out (by decide) ?_)
                                    iterate 3 (refine nb_setW ?_ _ _ _ (Nat.le_refl _))
                                    exact HBB.out
                            · obtain rfl : M = i := by omega
                              obtain ⟨x, hx⟩ : ∃ x : Rw, x = ⟨a0, b0, m, f⟩ := ⟨_, rfl⟩
                              have HRS3 : Hid (rfLine k s y = some ⟨s.g, s.r ++ [x], s.b⟩) := Lib.hid (by rw [HRS2.out, hak.out, List.drop_of_length_le (by rw [HM.out]; exact Nat.le_refl _), hx]; rfl)
                              have hA : wr.heap[Y.heap.size]? = some (.cells #[.int .i64 x.s, .int .i64 x.g, .int .i64 x.m, .int .i64 (x.f 0), .int .i64 (x.f 1), .int .i64 (x.f 2), .int .i64 (x.f 3), .int .i64 (x.f 4), .int .i64 (x.f 5), .int .i64 (x.f 6), .int .i64 (x.f 7)] 54) := by rw [hx]; exact hrow.out
                              obtain ⟨k0, k1, k2, k3, k4, k5, k6, k7, k8, k9, k10⟩ := rCells (r := x) hA
                              have hAl : Y.heap.size < wr.heap.size := (Array.getElem?_eq_some_iff.1 hA).1
                              have hdn : ¬ (d : Int) < (ln : Int) := by have := HLM.out; have := hd.out; omega
                              have hso := HOX.out.later hBy.out
                              have hVwr := nb_trans hBx.out hBy.out
                              have hpl2 := (Array.getElem?_eq_some_iff.1 hso.at_).1
                              obtain ⟨v', X4, hrun, ho4, hk4, hv4⟩ := appR_new x hso.r (by have := hz.out.2.1; omega) (Nat.le_trans HBV0.out.size hVwr.size)
                              have HPUT := Lib.hid (HOV.out.putR (X := X4) (v' := v') (xs := s.r ++ [x]) ((Kept.ofBelow hVwr).trans hk4 (fun k e => .inl e)) ho4 (fun k e => (hv4 k e).imp id (fun h => Nat.le_trans hVwr.size h)))
                              obtain ⟨ra, rc, hre, -⟩ := hso.r.reads
                              obtain ⟨rl, hrl⟩ : ∃ n, s.r.length = n := ⟨_, rfl⟩
                              rw [hrl] at hre
                              subst hre
                              obtain ⟨xa, xc, hxe, -⟩ := ho4.reads
                              obtain ⟨xl, hxl⟩ : ∃ n, (s.r ++ [x]).length = n := ⟨_, rfl⟩
                              rw [hxl] at hxe
                              subst hxe
                              have hp3 : X4.heap[w.heap.size + 1]? = some (.cells #[vg, .slice ra rl rc, .slice none 0 0] 26) := by rw [hk4.block _ hpl2 (own_ne_at hso.r.owns hso.at_ (by decide))]; exact hso.at_
                              have hpl3 := (Array.getElem?_eq_some_iff.1 hp3).1
                              have c1 : wr.cell? ⟨w.heap.size + 1, 1, none⟩ = some (.slice ra rl rc) := by rw [cell_of_row _ _ _ _ _ _ hso.at_]; rfl
                              have c3 : X4.cell? ⟨w.heap.size + 1, 1, none⟩ = some (.slice ra rl rc) := by rw [cell_of_row _ _ _ _ _ _ hp3]; rfl
                              have f3 : X4.frozen? ⟨w.heap.size + 1, 1, none⟩ = false := frozen_of_row _ _ _ _ _ hp3
                              have HRUN := Lib.hid hrun
                              clear hx hA hak hrow hso hVwr hrun ho4 hk4 hv4 hrl hxl hp3 HOX HBV HZ0 HNK
                              go_wp2_with (at_builtin; refine wpList_append_run rfl _ _ 23 23 rfl rfl _ _ _ rfl rfl HRUN.out ?_; refine Hid.out ?_)
                              refine Lib.hid ?_
                              clear k0 k1 k2 k3 k4 k5 k6 k7 k8 k9 k10 hdn c1
                              as_aux_lemma =>
                                go_wp2
                                go_roundw
                                case rel =>
                                  have hkp := HPUT.out.2
                                  refine ⟨k + 1, ⟨s.g, s.r ++ [x], s.b⟩, vg, .slice xa xl xc, .slice none 0 0, by omega, by go_num, Lib.hid (rf_next HYK.out hs.out HRS3.out), Lib.hid HPUT.out.1, Lib.hid (fun _ => rfl), Lib.hid ((hkp.block _ (Array.getElem?_eq_some_iff.1 H1V.out).1 (HOV.out.far H1V.out (.inr rfl) (by omega))).trans H1V.out), Lib.hid ((hkp.block _ (Array.getElem?_eq_some_iff.1 HPV.out).1 (HOV.out.far HPV.out (.inl rfl) (by omega))).trans HPV.out), Lib.hid (HBV0.out.trans (hkp.below HBV0.out.size (HOV.out.fb (by omega)))), Lib.hid ⟨hz.out.1, ?_, ?_⟩⟩
                                  · rw [List.length_append]; exact Nat.succ_le_succ hz.out.2.1
                                  · exact Nat.le_trans hz.out.2.2 (by omega)
                                case measure => simp [intOf]; omega
                      · as_aux_lemma =>
                          have HE : Hid (reE t = 9) := Lib.hid (HBADL.out (by rw [HRW.out, if_neg (fun h => hk0 h.1), if_neg (fun h => hsb h.2.2.2), if_neg (fun h => by have := HBND.out; rw [h.2.1] at this; cases this)]))
                          rcases HOX.out.b.owns.form with ⟨-, e⟩ | ⟨bg, bcap, bcur, hsl, -, -, -, -, -⟩
                          · exact absurd e hsb
                          · obtain ⟨bl, hbl⟩ : ∃ n, s.b.length = n := ⟨_, rfl⟩
                            rw [hbl] at hsl
                            subst hsl
                            have hat := HOX.out.at_
                            have s2 : wr.cell? ⟨w.heap.size + 1, 2, none⟩ = some (.slice (some ⟨bg, 0, none⟩) bl bcap) := by rw [cell_of_row _ _ _ _ _ _ hat]; rfl
                            have gl2 : w.heap.size + 1 < wr.heap.size := (Array.getElem?_eq_some_iff.1 hat).1
                            have heqS : ∀ x : World, (binOp .eql 24 (.slice (some ⟨bg, 0, none⟩) bl bcap) (.slice none 0 0)).run Tryz.prog x = .ok (.bool false) x := fun x => Lib.run_eql_slice_nil x 24 _ (some ⟨bg, 0, none⟩) bl bcap 0 0 Tryz.underlying24
                            clear hat hbl hsb HFW HRW
                            go_wp2_with (go_at_call 34; refine (bad_any _).mono ?_; rintro e WB ⟨rfl, hbb⟩; refine Hid.out ?_)
                            refine Lib.hid ?_
                            have hz0 := (hbb.block _ (Array.getElem?_eq_some_iff.1 HZ0.out).1).trans HZ0.out
                            have k0 : WB.cell? ⟨w.heap.size, 0, none⟩ = some (.slice none 0 0) := by rw [cell_of_row _ _ _ _ _ _ hz0]; rfl
                            have k1 : WB.cell? ⟨w.heap.size, 1, none⟩ = some (.slice none 0 0) := by rw [cell_of_row _ _ _ _ _ _ hz0]; rfl
                            have k2 : WB.cell? ⟨w.heap.size, 2, none⟩ = some (.slice none 0 0) := by rw [cell_of_row _ _ _ _ _ _ hz0]; rfl
                            have fz : ∀ j, WB.frozen? ⟨w.heap.size, j, none⟩ = false := fun j => frozen_of_row _ _ _ _ _ hz0
                            have hzl : w.heap.size < WB.heap.size := (Array.getElem?_eq_some_iff.1 hz0).1
                            have HBB := Lib.hid (nb_trans HBV.out hbb)
                            clear hz0 hbb
                            go_wp2
                            refine bodyPost_ret (v := .tuple #[.agg #[.slice none 0 0, .slice none 0 0, .slice none 0 0], .int .i64 9]) (by simp [results, Tryz.results11, go_sem, k0, k1, k2]) rfl (RParsePost.no HE.out (by decide) ?_)
                            iterate 3 (refine nb_setW ?_ _ _ _ (Nat.le_refl _))
                            exact HBB.out
                    · as_aux_lemma =>
                        have HE : Hid (reE t = 9) := Lib.hid (HBADL.out (by rw [HRW.out, if_neg (fun h => hk0 h.1), if_neg (fun h => h2 (by rw [← HLN.out]; exact h.2.2.1)), if_neg (fun h => by have := HBND.out; rw [h.2.1] at this; cases this)]))
                        have h2i : ¬ (2 : Int) ≤ (ln : Int) := by omega
                        go_wp2_with (go_at_call 34; refine (bad_any _).mono ?_; rintro e WB ⟨rfl, hbb⟩; refine Hid.out ?_)
                        refine Lib.hid ?_
                        have hz0 := (hbb.block _ (Array.getElem?_eq_some_iff.1 HZ0.out).1).trans HZ0.out
                        have k0 : WB.cell? ⟨w.heap.size, 0, none⟩ = some (.slice none 0 0) := by rw [cell_of_row _ _ _ _ _ _ hz0]; rfl
                        have k1 : WB.cell? ⟨w.heap.size, 1, none⟩ = some (.slice none 0 0) := by rw [cell_of_row _ _ _ _ _ _ hz0]; rfl
                        have k2 : WB.cell? ⟨w.heap.size, 2, none⟩ = some (.slice none 0 0) := by rw [cell_of_row _ _ _ _ _ _ hz0]; rfl
                        have fz : ∀ j, WB.frozen? ⟨w.heap.size, j, none⟩ = false := fun j => frozen_of_row _ _ _ _ _ hz0
                        have hzl : w.heap.size < WB.heap.size := (Array.getElem?_eq_some_iff.1 hz0).1
                        have HBB := Lib.hid (nb_trans HBV.out hbb)
                        clear hz0 hbb
                        go_wp2
                        refine bodyPost_ret (v := .tuple #[.agg #[.slice none 0 0, .slice none 0 0, .slice none 0 0], .int .i64 9]) (by simp [results, Tryz.results11, go_sem, k0, k1, k2]) rfl (RParsePost.no HE.out (by decide) ?_)
                        iterate 3 (refine nb_setW ?_ _ _ _ (Nat.le_refl _))
                        exact HBB.out
        · as_aux_lemma =>
            obtain rfl : k = ls.length := by omega
            have HRL : Hid (rfLines 0 sttZ ls = some s) := Lib.hid (by rw [hs.out, List.drop_length]; rfl)
            have HEND := Lib.hid (hO.out.out h1.out (Nat.le_refl _))
            have hg0 := hO.out.g.reads
            have hr0 := hO.out.r.reads
            have hb0 := hO.out.b.reads
            have HPR := Lib.hid (HPRT.out vg vr vb s.g s.r s.b wr (Ints.ofReads hg0) hr0 hb0)
            have HOO := hO
            obtain ⟨ga, gc, hge, -⟩ := hg0
            obtain ⟨ra, rc, hre, -⟩ := hr0
            obtain ⟨ba, bc, hbe, -⟩ := hb0
            have hp := hO.out.at_
            obtain ⟨pz, hpz⟩ : ∃ z, prE s.g s.r s.b = z := ⟨_, rfl⟩
            have HPZ := Lib.hid hpz
            rw [hpz] at HPR
            generalize prT s.g s.r s.b = pt at *
            generalize s.g.length = gl at *
            generalize s.r.length = rl at *
            generalize s.b.length = bl at *
            subst hge hre hbe
            have c0 : wr.cell? ⟨w.heap.size + 1, 0, none⟩ = some (.slice ga gl gc) := by rw [cell_of_row _ _ _ _ _ _ hp]; rfl
            have c1 : wr.cell? ⟨w.heap.size + 1, 1, none⟩ = some (.slice ra rl rc) := by rw [cell_of_row _ _ _ _ _ _ hp]; rfl
            have c2 : wr.cell? ⟨w.heap.size + 1, 2, none⟩ = some (.slice ba bl bc) := by rw [cell_of_row _ _ _ _ _ _ hp]; rfl
            have hbl : w.heap.size + 1 < wr.heap.size := (Array.getElem?_eq_some_iff.1 hp).1
            have HP5 := Lib.hid hp
            clear hp hpz hO hs hnil hPc
            go_wp2_with (go_at_call 9; refine HPR.out.mono ?_; rintro e V ⟨rfl, hbv⟩; refine Hid.out ?_)
            refine Lib.hid ?_
            have HBV := Lib.hid (nb_trans hB.out hbv)
            have HZ0 := Lib.hid ((hbv.block _ (Array.getElem?_eq_some_iff.1 h1.out).1).trans h1.out)
            have HO5 := Lib.hid (HOO.out.later hbv)
            clear hbv c0 c1 c2 hbl HP5 HPR HEND HOO h1 hB
            by_cases hp0 : pz = 0
            · subst hp0
              have HE : Hid (reE t = 0) := Lib.hid (by rw [HRE.out, HRL.out]; exact if_pos HPZ.out)
              have HSS : Hid (reS t = s) := Lib.hid (by rw [HRS.out, if_pos HE.out, HRL.out]; rfl)
              have hp := HO5.out.at_
              have c0 : V.cell? ⟨w.heap.size + 1, 0, none⟩ = some (.slice ga gl gc) := by rw [cell_of_row _ _ _ _ _ _ hp]; rfl
              have c1 : V.cell? ⟨w.heap.size + 1, 1, none⟩ = some (.slice ra rl rc) := by rw [cell_of_row _ _ _ _ _ _ hp]; rfl
              have c2 : V.cell? ⟨w.heap.size + 1, 2, none⟩ = some (.slice ba bl bc) := by rw [cell_of_row _ _ _ _ _ _ hp]; rfl
              have hbl : w.heap.size + 1 < V.heap.size := (Array.getElem?_eq_some_iff.1 hp).1
              have k0 : V.cell? ⟨w.heap.size, 0, none⟩ = some (.slice none 0 0) := by rw [cell_of_row _ _ _ _ _ _ HZ0.out]; rfl
              have k1 : V.cell? ⟨w.heap.size, 1, none⟩ = some (.slice none 0 0) := by rw [cell_of_row _ _ _ _ _ _ HZ0.out]; rfl
              have k2 : V.cell? ⟨w.heap.size, 2, none⟩ = some (.slice none 0 0) := by rw [cell_of_row _ _ _ _ _ _ HZ0.out]; rfl
              have fz : ∀ j, V.frozen? ⟨w.heap.size, j, none⟩ = false := fun j => frozen_of_row _ _ _ _ _ HZ0.out
              have HEND := Lib.hid (HO5.out.out HZ0.out (Nat.le_refl _))
              clear hp
              go_wp2
              refine bodyPost_ret (v := .tuple #[.agg #[.slice ga gl gc, .slice ra rl rc, .slice ba bl bc], .int .i64 0]) (by simp [results, Tryz.results11, go_sem, k0, k1, k2]) rfl ⟨_, _, _, by rw [HE.out], by rw [HSS.out]; exact HEND.out.1, HBV.out.trans (HEND.out.2)⟩
            · have HE : Hid (reE t = 9) := Lib.hid (by rw [HRE.out, HRL.out]; exact if_neg (fun h => hp0 (HPZ.out.symm.trans h)))
              go_wp2_with (go_at_call 34; refine (bad_any _).mono ?_; rintro e WB ⟨rfl, hbb⟩; refine Hid.out ?_)
              refine Lib.hid ?_
              have hz0 := (hbb.block _ (Array.getElem?_eq_some_iff.1 HZ0.out).1).trans HZ0.out
              have k0 : WB.cell? ⟨w.heap.size, 0, none⟩ = some (.slice none 0 0) := by rw [cell_of_row _ _ _ _ _ _ hz0]; rfl
              have k1 : WB.cell? ⟨w.heap.size, 1, none⟩ = some (.slice none 0 0) := by rw [cell_of_row _ _ _ _ _ _ hz0]; rfl
              have k2 : WB.cell? ⟨w.heap.size, 2, none⟩ = some (.slice none 0 0) := by rw [cell_of_row _ _ _ _ _ _ hz0]; rfl
              have fz : ∀ j, WB.frozen? ⟨w.heap.size, j, none⟩ = false := fun j => frozen_of_row _ _ _ _ _ hz0
              have hzl : w.heap.size < WB.heap.size := (Array.getElem?_eq_some_iff.1 hz0).1
              have HBB := Lib.hid (nb_trans HBV.out hbb)
              clear hz0 hbb
              go_wp2
              refine bodyPost_ret (v := .tuple #[.agg #[.slice none 0 0, .slice none 0 0, .slice none 0 0], .int .i64 9]) (by simp [results, Tryz.results11, go_sem, k0, k1, k2]) rfl (RParsePost.no HE.out (by decide) ?_)
              iterate 3 (refine nb_setW ?_ _ _ _ (Nat.le_refl _))
              exact HBB.out
end Go.Proofs.YtndhomjfjhohoaaGreatDoor

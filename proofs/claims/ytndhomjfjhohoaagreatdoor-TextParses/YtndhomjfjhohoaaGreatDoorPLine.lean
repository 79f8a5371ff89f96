
/- text.readLine. -/
import Derived.Test.YtndhomjfjhohoaaGreatDoorPReadR
import Derived.Test.YtndhomjfjhohoaaGreatDoorGroundD
namespace Go.Proofs.YtndhomjfjhohoaaGreatDoor
set_option maxRecDepth 8000
set_option maxRecDepth 8000
open Go.RowKit

theorem own_ne_at {α : Type} {E : El α} {w : World} {T T' : TypeId} {v : Value} {xs : List α} {p : Nat} {cs : Array Value} (h : Owns E w T v xs) (hb : w.heap[p]? = some (.cells cs T' (0, 0))) (hT : T ≠ T') : v.ownBlock ≠ some p := fun e => by
  obtain ⟨c, hc⟩ := h.isC e
  rw [hb] at hc; cases hc; exact hT rfl
theorem own_ne {α β : Type} {E : El α} {E' : El β} {w : World} {T T' : TypeId} {v v' : Value} {xs : List α} {ys : List β} (h : Owns E w T v xs) (h' : Owns E' w T' v' ys) (hT : T ≠ T') : ∀ k, v.ownBlock = some k → v'.ownBlock ≠ some k := fun k e e' => by
  obtain ⟨c, hc⟩ := h.isC e
  exact own_ne_at h' hc hT.symm e'
/-- A state that is being read: its block, its slices, all of the call's own. -/
structure StO (w : World) (p B : Nat) (s : Stt) (vg vr vb : Value) : Prop where
  at_ : w.heap[p]? = some (.cells #[vg, vr, vb] 26)
  g : OwnsF elInt w B 3 vg s.g
  r : OwnsF elRow w B 54 vr s.r
  b : OwnsF elBond w B 58 vb s.b
def FB (p : Nat) (vg vr vb : Value) (k : Nat) : Prop := k = p ∨ vg.ownBlock = some k ∨ vr.ownBlock = some k ∨ vb.ownBlock = some k
theorem StO.later {w w' : World} {p B : Nat} {s : Stt} {vg vr vb : Value} (h : StO w p B s vg vr vb) (hb : Below w.heap.size w w') : StO w' p B s vg vr vb :=
  ⟨by rw [hb.block p (Array.getElem?_eq_some_iff.1 h.at_).1]; exact h.at_, h.g.later hb, h.r.later hb, h.b.later hb⟩
theorem StO.putG {W X : World} {p B : Nat} {s : Stt} {vg vr vb v' : Value} {xs : List Int} (h : StO W p B s vg vr vb) (hk : Kept (fun k => vg.ownBlock = some k) W X) (ho : OwnsF elInt X B 3 v' xs) (hv : ∀ k, v'.ownBlock = some k → vg.ownBlock = some k ∨ W.heap.size ≤ k) :
    StO (X.setCell ⟨p, 0, none⟩ v') p B ⟨xs, s.r, s.b⟩ v' vr vb ∧ Kept (FB p vg vr vb) W (X.setCell ⟨p, 0, none⟩ v') := by
  have hpl := (Array.getElem?_eq_some_iff.1 h.at_).1
  have hks : Kept (fun b => b = p) X (X.setCell ⟨p, 0, none⟩ v') := Kept.setCell (F := fun b => b = p) _ (p := ⟨p, 0, none⟩) rfl _
  have hX : X.heap[p]? = some (.cells #[vg, vr, vb] 26) := by rw [hk.block p hpl (own_ne_at h.g.owns h.at_ (by decide))]; exact h.at_
  refine ⟨⟨heap_setCell_same _ _ 0 _ _ _ hX, ho.kept hks (fun k e e2 => ?_), (h.r.kept hk (own_ne h.r.owns h.g.owns (by decide))).kept hks (fun k e e2 => ?_), (h.b.kept hk (own_ne h.b.owns h.g.owns (by decide))).kept hks (fun k e e2 => ?_)⟩, (hk.mono (fun k e => .inl (.inr (.inl e)))).trans hks (fun k e => .inl (.inl e))⟩
  · subst e2
    rcases hv _ e with e | e
    · exact own_ne_at h.g.owns h.at_ (by decide) e
    · omega
  · subst e2; exact own_ne_at h.r.owns h.at_ (by decide) e
  · subst e2; exact own_ne_at h.b.owns h.at_ (by decide) e
theorem StO.putR {W X : World} {p B : Nat} {s : Stt} {vg vr vb v' : Value} {xs : List Rw} (h : StO W p B s vg vr vb) (hk : Kept (fun k => vr.ownBlock = some k) W X) (ho : OwnsF elRow X B 54 v' xs) (hv : ∀ k, v'.ownBlock = some k → vr.ownBlock = some k ∨ W.heap.size ≤ k) :
    StO (X.setCell ⟨p, 1, none⟩ v') p B ⟨s.g, xs, s.b⟩ vg v' vb ∧ Kept (FB p vg vr vb) W (X.setCell ⟨p, 1, none⟩ v') := by
  have hpl := (Array.getElem?_eq_some_iff.1 h.at_).1
  have hks : Kept (fun b => b = p) X (X.setCell ⟨p, 1, none⟩ v') := Kept.setCell (F := fun b => b = p) _ (p := ⟨p, 1, none⟩) rfl _
  have hX : X.heap[p]? = some (.cells #[vg, vr, vb] 26) := by rw [hk.block p hpl (own_ne_at h.r.owns h.at_ (by decide))]; exact h.at_
  refine ⟨⟨heap_setCell_same _ _ 1 _ _ _ hX, (h.g.kept hk (own_ne h.g.owns h.r.owns (by decide))).kept hks (fun k e e2 => ?_), ho.kept hks (fun k e e2 => ?_), (h.b.kept hk (own_ne h.b.owns h.r.owns (by decide))).kept hks (fun k e e2 => ?_)⟩, (hk.mono (fun k e => .inl (.inr (.inr (.inl e))))).trans hks (fun k e => .inl (.inl e))⟩
  · subst e2; exact own_ne_at h.g.owns h.at_ (by decide) e
  · subst e2
    rcases hv _ e with e | e
    · exact own_ne_at h.r.owns h.at_ (by decide) e
    · omega
  · subst e2; exact own_ne_at h.b.owns h.at_ (by decide) e
theorem StO.putB {W X : World} {p B : Nat} {s : Stt} {vg vr vb v' : Value} {xs : List Bd} (h : StO W p B s vg vr vb) (hk : Kept (fun k => vb.ownBlock = some k) W X) (ho : OwnsF elBond X B 58 v' xs) (hv : ∀ k, v'.ownBlock = some k → vb.ownBlock = some k ∨ W.heap.size ≤ k) :
    StO (X.setCell ⟨p, 2, none⟩ v') p B ⟨s.g, s.r, xs⟩ vg vr v' ∧ Kept (FB p vg vr vb) W (X.setCell ⟨p, 2, none⟩ v') := by
  have hpl := (Array.getElem?_eq_some_iff.1 h.at_).1
  have hks : Kept (fun b => b = p) X (X.setCell ⟨p, 2, none⟩ v') := Kept.setCell (F := fun b => b = p) _ (p := ⟨p, 2, none⟩) rfl _
  have hX : X.heap[p]? = some (.cells #[vg, vr, vb] 26) := by rw [hk.block p hpl (own_ne_at h.b.owns h.at_ (by decide))]; exact h.at_
  refine ⟨⟨heap_setCell_same _ _ 2 _ _ _ hX, (h.g.kept hk (own_ne h.g.owns h.b.owns (by decide))).kept hks (fun k e e2 => ?_), (h.r.kept hk (own_ne h.r.owns h.b.owns (by decide))).kept hks (fun k e e2 => ?_), ho.kept hks (fun k e e2 => ?_)⟩, (hk.mono (fun k e => .inl (.inr (.inr (.inr e))))).trans hks (fun k e => .inl (.inl e))⟩
  · subst e2; exact own_ne_at h.g.owns h.at_ (by decide) e
  · subst e2; exact own_ne_at h.r.owns h.at_ (by decide) e
  · subst e2
    rcases hv _ e with e | e
    · exact own_ne_at h.b.owns h.at_ (by decide) e
    · omega
def LinePost (w : World) (p B : Nat) (s : Stt) (vg vr vb : Value) (line : List UInt8) (e : Ending) (w' : World) : Prop :=
  e = .returned (.bool (rdLine s line).isSome) ∧ Kept (FB p vg vr vb) w w' ∧ ∀ s', rdLine s line = some s' → ∃ vg' vr' vb', StO w' p B s' vg' vr' vb'
/-- an append whose run is known -/
theorem wpList_append_run {P : Program} {w w' : World} {ops : Array Oper} {rest : List Oper} {o : Oper} {a : Act} {Q : Exit → Act → World → Prop} (hgd : o.guard = none) (s x : Operand) (t ty : TypeId)
    (ho : o.op = .call { callee := .builtin .append, args := #[s, x], argTypes := #[t, t] }) (hty : o.type = ty) (v u v' : Value) (hs : a.eval s = v) (hx : a.eval x = u) (hr : (Builtin.append_ #[t, t] ty #[v, u]).run P w = .ok v' w')
    (h : wpList P ops Q rest (a.put o.dst v') w') : wpList P ops Q (o :: rest) a w :=
  wpList_plain hgd fun _ hK => by
    subst hty
    unfold Oper.wp execOp
    simp only [ho, resolve, invoke, builtin, Sem.run_bind, Sem.run_pure, Result.andThen_ok, List.map_toArray, List.map_cons, List.map_nil, hs, hx, hr]
    exact hK _ _ h
/-- 'append(xs, ys...)' of numbers, as a run -/
theorem appG {w : World} {B B' : Nat} {v u : Value} {xs ys : List Int} (h : OwnsF elInt w B 3 v xs) (h' : OwnsF elInt w B' 3 u ys) (hl : (xs.length + ys.length) * 8 ≤ 140737488355328) (hB : B ≤ w.heap.size) :
    ∃ v' w', (Builtin.append_ #[22, 22] 22 #[v, u]).run Tryz.prog w = .ok v' w' ∧ OwnsF elInt w' B 3 v' (xs ++ ys) ∧ Kept (fun k => v.ownBlock = some k) w w' ∧ (∀ k, v'.ownBlock = some k → v.ownBlock = some k ∨ w.heap.size ≤ k) := by
  obtain ⟨i0, hi, hz0, hz1, hz2⟩ := info_parts infoInt
  rcases h'.owns.form with ⟨rfl, rfl⟩ | ⟨g, cap, cur, rfl, hh, hg, hn, hcap, hsz⟩
  · refine ⟨v, w, run_append_owned_none w B 22 _ 3 i0 1 Tryz.underlying22 hi v _ _ h, by rw [List.append_nil]; exact h, Kept.refl _ _, fun k e => .inl e⟩
  · obtain ⟨v', w', hr, ho, hgr, -, hat⟩ := run_append_own_at (P := Tryz.prog) w B 22 22 3 i0 (.int .i64 0) 1 8 Tryz.underlying22 hi hz0 hz1 hz2 rfl (by decide) v _ _ h ⟨g, 0, none⟩ ys.length cap (ys.flatMap elInt.enc) (length_enc elInt ys) (fun j u hu => by
      have hj := (List.getElem?_eq_some_iff.1 hu).1
      rw [length_enc] at hj
      rw [addr_add', Nat.zero_add, World.ownsRow.cellAt h'.owns j hj]; exact hu) (fun u hu => by
      obtain ⟨x, _, hx⟩ := List.mem_flatMap.1 hu
      exact elInt.one x u hx) (by unfold maxLen; omega) hl hB
    refine ⟨v', w', hr, by unfold OwnsF; rw [List.flatMap_append, List.length_append]; exact ho, Kept.grown hgr (fun k e => e), fun k e => ?_⟩
    rcases hat with hat | hat
    · exact .inl (hat ▸ e)
    · rw [hat] at e; simp only [Option.some.injEq] at e; exact .inr (by omega)
set_option maxHeartbeats 4000000 in
theorem readLine_any (p B : Nat) (s : Stt) (vg vr vb : Value) (line : List UInt8) (w : World) (h : StO w p B s vg vr vb) (hB : B ≤ w.heap.size) (hl : line.length ≤ 6000) (hsg : s.g.length ≤ 100000000) (hsr : s.r.length ≤ 10000) (hsb : s.b.length ≤ 10000) (hv : VarsIs w) :
    Calls Tryz.prog 69 #[.pointer (some ⟨p, 0, none⟩), .string (bs line)] w (LinePost w p B s vg vr vb line) := by
  have HS := Lib.hid (split_any 32 line (by omega) w hv)
  have HO := Lib.hid h
  have HV := Lib.hid hv
  have hpl := (Array.getElem?_eq_some_iff.1 h.at_).1
  have HRD : Hid (rdLine s line = if (spl 32 line).headD [] = gensW then (numsA (spl 32 line).tail).map fun l => ⟨s.g ++ l, s.r, s.b⟩
  else if (spl 32 line).headD [] = rowW then (rdRow (spl 32 line).tail).map fun r => ⟨s.g, s.r ++ [r], s.b⟩
  else if (spl 32 line).headD [] = bondW then (rdBond (spl 32 line).tail).map fun b => ⟨s.g, s.r, s.b ++ [b]⟩
  else none) := Lib.hid rfl
  have hsl := spl_len 32 line
  have hcnt : line.count 32 ≤ line.length := List.count_le_length
  have HLE : Hid (∀ x ∈ (spl 32 line).tail, x.length ≤ 1000000) := Lib.hid (fun x hx => by have := spl_le (List.mem_of_mem_tail hx); omega)
  obtain ⟨F, hF⟩ : ∃ F, (spl 32 line).headD [] = F := ⟨_, rfl⟩
  obtain ⟨T, hT⟩ : ∃ F, (spl 32 line).tail = F := ⟨_, rfl⟩
  have hsp : spl 32 line = F :: T := by rw [← hF, ← hT]; exact spl_cons 32 line
  rw [hF, hT] at HRD
  rw [hT] at HLE
  rw [hsp] at HS hsl
  have hTl : T.length ≤ 6000 := by simp at hsl; omega
  have HX : Hid (Below w.heap.size w (w.alloc (.cells ((F :: T).map fun x => Value.string (bs x)).toArray 9))) := Lib.hid (nb_alloc (Below.refl _ _) _)
  have hR0 : Reads elStr (w.alloc (.cells ((F :: T).map fun x => Value.string (bs x)).toArray 9)) (.slice (some ⟨w.heap.size, 0, none⟩) (F :: T).length (F :: T).length) (F :: T) := Reads.ofBlock (E := elStr) (xs := F :: T) (by
    have : (F :: T).flatMap elStr.enc = (F :: T).map fun x => Value.string (bs x) := by
      rw [List.flatMap_def]; induction F :: T with
      | nil => rfl
      | cons a l ih => simp [elStr] at ih ⊢; exact ih
    rw [this]; exact heap_alloc_new w _) (by unfold maxLen; simp; omega)
  have c0 : (w.alloc (.cells ((F :: T).map fun x => Value.string (bs x)).toArray 9)).cell? ⟨w.heap.size, 0, none⟩ = some (.string { data := F.toArray }) := by
    rw [cell_of_row _ _ _ _ _ _ (heap_alloc_new w _)]; rfl
  have HC0 := Lib.hid c0
  have HR0 := Lib.hid hR0
  obtain ⟨N, hN⟩ : ∃ n, T.length = n := ⟨_, rfl⟩
  simp only [List.length_cons, hN] at HS HR0
  have hsz : (w.alloc (.cells ((F :: T).map fun x => Value.string (bs x)).toArray 9)).heap.size = w.heap.size + 1 := by simp
  have HOX := Lib.hid (h.later HX.out)
  generalize (w.alloc (.cells ((F :: T).map fun x => Value.string (bs x)).toArray 9)) = X at *
  clear hF hT hsp hsl hcnt hR0 c0 h hv
  go_enter Tryz.func69, Tryz.ntmps69
  go_wp2_with (go_at_call 36; refine HS.out.mono ?_; rintro e W1 ⟨rfl, rfl⟩; refine Hid.out ?_)
  refine Lib.hid ?_
  obtain ⟨v2, hv2, hr2⟩ : ∃ v2, (v2 = if N = 0 then .slice (some ⟨w.heap.size, 0, none⟩) 0 0 else .slice (some ⟨w.heap.size, 1, none⟩) N N) ∧ Reads elStr W1 v2 T := by
    by_cases hcc : N = 0
    · refine ⟨_, rfl, ?_⟩
      rw [if_pos hcc, List.eq_nil_of_length_eq_zero (hN.trans hcc)]
      exact Reads.emptyW (by unfold maxLen; omega)
    · refine ⟨_, rfl, ?_⟩
      rw [if_neg hcc]
      exact HR0.out.dropW (t := 1) (by simp)
  have HR2 := Lib.hid hr2
  have kc : ∀ n : Later W1, n.w.cell? ⟨w.heap.size, 0, none⟩ = some (.string { data := F.toArray }) := fun n => n.cell HC0.out
  have hbw : ∀ n : Later W1, w.heap.size < n.w.heap.size := fun n => Nat.lt_of_lt_of_le (by omega) n.below.size
  clear hr2
  have HEND : Hid (∀ (nq : Later W1) (Q : Prop), (Below W1.heap.size W1 nq.w → Q) → Q) := Lib.hid (fun nq Q f => f nq.below)
  by_cases hcc : N = 0
  all_goals
    first | rw [if_pos hcc] at hv2 | rw [if_neg hcc] at hv2
    subst hv2
    first | subst hcc | skip
    go_wp2_with fail
    refine wp_region_later (by kernel_rfl) (by kernel_rfl) ?_
    repeat (go_big_quiet_step (fail))
    refine wpQuiet_nil ?_
    rintro _ ⟨nq, rfl⟩
    have HNV := Lib.hid nq.below
    generalize nq.w = V at *
    have HRV := Lib.hid (HR2.out.later HNV.out)
    have HOV := Lib.hid (HOX.out.later HNV.out)
    have HBV := Lib.hid (nb_trans HX.out HNV.out)
    have HVV := Lib.hid (HV.out.later HBV.out)
    clear kc hbw
    have hsV : w.heap.size < V.heap.size := by have := HNV.out.size; omega
    by_cases hF1 : F = gensW
    · have e1 : (F == [103, 101, 110, 115]) = true := by rw [hF1]; rfl
      have HRA : Hid (rdLine s line = (numsA T).map fun l => ⟨s.g ++ l, s.r, s.b⟩) := Lib.hid (by rw [HRD.out, if_pos hF1])
      have HNN := Lib.hid (readNumbers_any _ T V HRV.out (by omega) HLE.out HVV.out)
      clear hF1
      go_wp2_with (go_at_call 107; refine HNN.out.mono ?_; rintro e W2 ⟨u, rfl, ho, hb2⟩; refine Hid.out ?_)
      refine Lib.hid ?_
      have HB2 := Lib.hid (nb_trans HBV.out hb2)
      have hso := HOV.out.later hb2
      have HSO := Lib.hid hso
      have hpl2 := (Array.getElem?_eq_some_iff.1 hso.at_).1
      have hgl : ((numsA T).getD []).length ≤ 6000 := by
        cases hq : numsA T with
        | none => simp
        | some l => have := numsA_len hq; simp; omega
      obtain ⟨v', W3, hrun, ho3, hk3, hv3⟩ := appG hso.g ho (by omega) (Nat.le_trans hB HB2.out.size)
      have hput := hso.putG hk3 ho3 hv3
      obtain ⟨ga, gc, hge, -⟩ := hso.g.reads
      obtain ⟨ua, uc, hue, -⟩ := ho.reads
      obtain ⟨gl, hgl2⟩ : ∃ n, s.g.length = n := ⟨_, rfl⟩
      obtain ⟨ul, hul⟩ : ∃ n, ((numsA T).getD []).length = n := ⟨_, rfl⟩
      rw [hgl2] at hge
      rw [hul] at hue
      subst hge hue
      obtain ⟨xa, xc, hxe, -⟩ := ho3.reads
      have hp3 : W3.heap[p]? = some (.cells #[.slice ga gl gc, vr, vb] 26) := by rw [hk3.block p hpl2 (own_ne_at hso.g.owns hso.at_ (by decide))]; exact hso.at_
      have hpl3 := (Array.getElem?_eq_some_iff.1 hp3).1
      subst hxe
      have HPUT := Lib.hid hput
      have c0 : W2.cell? ⟨p, 0, none⟩ = some (.slice ga gl gc) := by rw [cell_of_row _ _ _ _ _ _ hso.at_]; rfl
      have c3 : W3.cell? ⟨p, 0, none⟩ = some (.slice ga gl gc) := by rw [cell_of_row _ _ _ _ _ _ hp3]; rfl
      have f3 : W3.frozen? ⟨p, 0, none⟩ = false := frozen_of_row _ _ _ _ _ hp3
      obtain ⟨xl, hxl⟩ : ∃ n, (s.g ++ (numsA T).getD []).length = n := ⟨_, rfl⟩
      rw [hxl] at hrun HPUT
      have HRUN := Lib.hid hrun
      have HEND2 : Hid (rdLine s line = (numsA T).map fun l => ⟨s.g ++ l, s.r, s.b⟩) := HRA
      obtain ⟨ok, hok⟩ : ∃ o, (numsA T).isSome = o := ⟨_, rfl⟩
      rw [hok]
      have HOK := Lib.hid hok
      clear hrun ho hb2 hso hgl hgl2 hul ho3 hk3 hv3 hput hp3 hxl hok HNN
      go_wp2_with (at_builtin; refine wpList_append_run rfl _ _ 22 22 rfl rfl _ _ _ rfl rfl HRUN.out ?_)
      go_ret
      refine ⟨by rw [HEND2.out, Option.isSome_map, HOK.out]; rfl, ((Kept.ofBelow HB2.out).trans HPUT.out.2 (fun k e => .inl e)), fun s' hs' => ?_⟩
      rw [HEND2.out] at hs'
      cases hq : numsA T with
      | none => rw [hq] at hs'; cases hs'
      | some l =>
        have hh := HPUT.out.1
        rw [hq] at hs' hh
        cases hs'
        exact ⟨_, _, _, hh⟩
    · have e1 : (F == [103, 101, 110, 115]) = false := by simp only [beq_eq_false_iff_ne]; exact hF1
      by_cases hF2 : F = rowW
      · have e2 : (F == [114, 111, 119]) = true := by rw [hF2]; rfl
        have HRA : Hid (rdLine s line = (rdRow T).map fun r => ⟨s.g, s.r ++ [r], s.b⟩) := Lib.hid (by rw [HRD.out, if_neg hF1, if_pos hF2])
        obtain ⟨i1, hi, hz0, hz1, hz2⟩ := info_parts infoRow
        clear hF2
        have HNN := Lib.hid (readRow_any _ T V HRV.out (by omega) HLE.out HVV.out)
        clear hF1
        go_wp2_with (go_at_call 108; refine HNN.out.mono ?_; rintro e W2 ⟨x, rfl, hxe, hb2⟩; refine Hid.out ?_)
        refine Lib.hid ?_
        have HXE := Lib.hid hxe
        have HW3 : Hid (Below w.heap.size w (W2.alloc (.cells #[.int .i64 x.s, .int .i64 x.g, .int .i64 x.m, .int .i64 (x.f 0), .int .i64 (x.f 1), .int .i64 (x.f 2), .int .i64 (x.f 3), .int .i64 (x.f 4), .int .i64 (x.f 5), .int .i64 (x.f 6), .int .i64 (x.f 7)] 54))) := Lib.hid (nb_alloc (nb_trans HBV.out hb2) _)
        have hso := (HOV.out.later hb2).later (nb_alloc (Below.refl _ _) (.cells #[.int .i64 x.s, .int .i64 x.g, .int .i64 x.m, .int .i64 (x.f 0), .int .i64 (x.f 1), .int .i64 (x.f 2), .int .i64 (x.f 3), .int .i64 (x.f 4), .int .i64 (x.f 5), .int .i64 (x.f 6), .int .i64 (x.f 7)] 54))
        have hA : (W2.alloc (.cells #[.int .i64 x.s, .int .i64 x.g, .int .i64 x.m, .int .i64 (x.f 0), .int .i64 (x.f 1), .int .i64 (x.f 2), .int .i64 (x.f 3), .int .i64 (x.f 4), .int .i64 (x.f 5), .int .i64 (x.f 6), .int .i64 (x.f 7)] 54)).heap[W2.heap.size]? = some (.cells #[.int .i64 x.s, .int .i64 x.g, .int .i64 x.m, .int .i64 (x.f 0), .int .i64 (x.f 1), .int .i64 (x.f 2), .int .i64 (x.f 3), .int .i64 (x.f 4), .int .i64 (x.f 5), .int .i64 (x.f 6), .int .i64 (x.f 7)] 54) := heap_alloc_new _ _
        obtain ⟨ok, hok⟩ : ∃ o, (rdRow T).isSome = o := ⟨_, rfl⟩
        rw [hok]
        have HOK := Lib.hid hok
        obtain ⟨ra, rc, hre, -⟩ := hso.r.reads
        obtain ⟨rl, hrl⟩ : ∃ n, s.r.length = n := ⟨_, rfl⟩
        rw [hrl] at hre
        subst hre
        have HRL := Lib.hid hrl
        clear hb2 hxe hok HNN hrl
        go_wp2_with fail
        generalize W2.alloc (.cells #[.int .i64 x.s, .int .i64 x.g, .int .i64 x.m, .int .i64 (x.f 0), .int .i64 (x.f 1), .int .i64 (x.f 2), .int .i64 (x.f 3), .int .i64 (x.f 4), .int .i64 (x.f 5), .int .i64 (x.f 6), .int .i64 (x.f 7)] 54) = W3 at *
        obtain ⟨k0, k1, k2, k3, k4, k5, k6, k7, k8, k9, k10⟩ := rCells (r := x) hA
        have hAl : W2.heap.size < W3.heap.size := (Array.getElem?_eq_some_iff.1 hA).1
        have hpl3 := (Array.getElem?_eq_some_iff.1 hso.at_).1
        have HSO := Lib.hid hso
        have cq : W3.cell? ⟨p, 1, none⟩ = some (.slice ra rl rc) := by rw [cell_of_row _ _ _ _ _ _ hso.at_]; rfl
        have fq : W3.frozen? ⟨p, 1, none⟩ = false := frozen_of_row _ _ _ _ _ hso.at_
        have HNQ : Hid ((Value.slice ra rl rc).ownBlock ≠ some p) := Lib.hid (own_ne_at hso.r.owns hso.at_ (by decide))
        have HOA : Hid (∀ X, Below W3.heap.size W3 X → X.ownsRow B 54 11 (.slice ra rl rc) rl (s.r.flatMap elRow.enc)) := Lib.hid (fun X hX => by have := hso.r.later hX; unfold OwnsF at this; rw [HRL.out] at this; exact this)
        have HBS : Hid (∀ X, Below W3.heap.size W3 X → B ≤ X.heap.size) := Lib.hid (fun X hX => Nat.le_trans (Nat.le_trans hB HW3.out.size) hX.size)
        have HL2 : Hid (rl + 1 ≤ maxLen) := Lib.hid (by have := HRL.out; unfold maxLen; omega)
        have HL : Hid ((rl + 1) * 88 ≤ 140737488355328) := Lib.hid (by have := HRL.out; omega)
        clear hso hA
        go_region_law (first
          | ((refine step_append_lies _ (by rfl) _ _ 23 (by rfl) B 54 i1 _ 11 88 Tryz.underlying23 hi hz0 hz1 hz2 rfl (by decide) (.slice ra rl rc) rl (s.r.flatMap elRow.enc) (by rfl) (HOA.out _ (nb_alloc (Below.refl _ _).drew _)) _ 1 1 [.int .i64 x.s, .int .i64 x.g, .int .i64 x.m, .int .i64 (x.f 0), .int .i64 (x.f 1), .int .i64 (x.f 2), .int .i64 (x.f 3), .int .i64 (x.f 4), .int .i64 (x.f 5), .int .i64 (x.f 6), .int .i64 (x.f 7)] (by rfl) rfl (World.news_of_block (heap_alloc_new _ _)) (elRow.one x) (by decide) HL2.out HL.out (HBS.out _ (nb_alloc (Below.refl _ _).drew _)) _ rfl ?_
              intro g cap' w4 hown hgr hat hg4
              have hG4 : Grew W3 w4 (.slice ra rl rc) g := Grew.of (nb_alloc (Below.refl _ _).drew _) hgr hat hg4
              have HD := Lib.hid (HSO.out.putR (X := w4) (v' := .slice (some ⟨g, 0, none⟩) (rl + 1) cap') (xs := s.r ++ [x]) (hG4.kept (fun b hb => hb)) (OwnsF.snoc (by rw [HRL.out]; exact hown)) (fun k e => by simp only [Value.ownBlock, Option.some.injEq] at e; subst e; exact hG4.at_))
              have cq2 : w4.cell? ⟨p, 1, none⟩ = some (.slice ra rl rc) := by rw [World.cell?_of_block (a := ⟨p, 1, none⟩) (hG4.far p hpl3 HNQ.out)]; exact cq
              have fq2 : w4.frozen? ⟨p, 1, none⟩ = false := by rw [World.frozen?_of_block (a := ⟨p, 1, none⟩) (hG4.far p hpl3 HNQ.out)]; exact fq
              have hp4 : p < w4.heap.size := Nat.lt_of_lt_of_le hpl3 hG4.size
              clear hown hgr hat hG4)))
        all_goals
          have HEND2 := Lib.hid HD.out
          clear HD cq fq k0 k1 k2 k3 k4 k5 k6 k7 k8 k9 k10
          go_wp2
          go_ret
          refine ⟨by rw [HRA.out, Option.isSome_map, HOK.out]; rfl, (Kept.ofBelow HW3.out).trans HEND2.out.2 (fun k e => .inl e), fun s' hs' => ?_⟩
          rw [HRA.out] at hs'
          cases hq : rdRow T with
          | none => rw [hq] at hs'; cases hs'
          | some y =>
            obtain rfl := HXE.out _ hq
            rw [hq] at hs'
            cases hs'
            exact ⟨_, _, _, HEND2.out.1⟩
      · have e2 : (F == [114, 111, 119]) = false := by simp only [beq_eq_false_iff_ne]; exact hF2
        by_cases hF3 : F = bondW
        · have e3 : (F == [98, 111, 110, 100]) = true := by rw [hF3]; rfl
          have HRA : Hid (rdLine s line = (rdBond T).map fun b => ⟨s.g, s.r, s.b ++ [b]⟩) := Lib.hid (by rw [HRD.out, if_neg hF1, if_neg hF2, if_pos hF3])
          obtain ⟨i1, hi, hz0, hz1, hz2⟩ := info_parts infoBond
          clear hF2 hF3
          have HNN := Lib.hid (readBond_any _ T V HRV.out (by omega) HLE.out HVV.out)
          clear hF1
          go_wp2_with (go_at_call 109; refine HNN.out.mono ?_; rintro e W2 ⟨x, rfl, hxe, hb2⟩; refine Hid.out ?_)
          refine Lib.hid ?_
          have HXE := Lib.hid hxe
          have HW3 : Hid (Below w.heap.size w (W2.alloc (.cells #[.int .i64 x.1.1, .int .i64 x.1.2, .int .i64 x.2.1, .int .i64 x.2.2] 58))) := Lib.hid (nb_alloc (nb_trans HBV.out hb2) _)
          have hso := (HOV.out.later hb2).later (nb_alloc (Below.refl _ _) (.cells #[.int .i64 x.1.1, .int .i64 x.1.2, .int .i64 x.2.1, .int .i64 x.2.2] 58))
          have hA : (W2.alloc (.cells #[.int .i64 x.1.1, .int .i64 x.1.2, .int .i64 x.2.1, .int .i64 x.2.2] 58)).heap[W2.heap.size]? = some (.cells #[.int .i64 x.1.1, .int .i64 x.1.2, .int .i64 x.2.1, .int .i64 x.2.2] 58) := heap_alloc_new _ _
          obtain ⟨ok, hok⟩ : ∃ o, (rdBond T).isSome = o := ⟨_, rfl⟩
          rw [hok]
          have HOK := Lib.hid hok
          obtain ⟨ba, rc, hre, -⟩ := hso.b.reads
          obtain ⟨rl, hrl⟩ : ∃ n, s.b.length = n := ⟨_, rfl⟩
          rw [hrl] at hre
          subst hre
          have HRL := Lib.hid hrl
          clear hb2 hxe hok HNN hrl
          go_wp2_with fail
          generalize W2.alloc (.cells #[.int .i64 x.1.1, .int .i64 x.1.2, .int .i64 x.2.1, .int .i64 x.2.2] 58) = W3 at *
          have k0 : W3.cell? ⟨W2.heap.size, 0, none⟩ = some (.int .i64 x.1.1) := by rw [cell_of_row _ _ _ _ _ _ hA]; rfl
          have k1 : W3.cell? ⟨W2.heap.size, 1, none⟩ = some (.int .i64 x.1.2) := by rw [cell_of_row _ _ _ _ _ _ hA]; rfl
          have k2 : W3.cell? ⟨W2.heap.size, 2, none⟩ = some (.int .i64 x.2.1) := by rw [cell_of_row _ _ _ _ _ _ hA]; rfl
          have k3 : W3.cell? ⟨W2.heap.size, 3, none⟩ = some (.int .i64 x.2.2) := by rw [cell_of_row _ _ _ _ _ _ hA]; rfl
          have hAl : W2.heap.size < W3.heap.size := (Array.getElem?_eq_some_iff.1 hA).1
          have hpl3 := (Array.getElem?_eq_some_iff.1 hso.at_).1
          have HSO := Lib.hid hso
          have cq : W3.cell? ⟨p, 2, none⟩ = some (.slice ba rl rc) := by rw [cell_of_row _ _ _ _ _ _ hso.at_]; rfl
          have fq : W3.frozen? ⟨p, 2, none⟩ = false := frozen_of_row _ _ _ _ _ hso.at_
          have HNQ : Hid ((Value.slice ba rl rc).ownBlock ≠ some p) := Lib.hid (own_ne_at hso.b.owns hso.at_ (by decide))
          have HOA : Hid (∀ X, Below W3.heap.size W3 X → X.ownsRow B 58 4 (.slice ba rl rc) rl (s.b.flatMap elBond.enc)) := Lib.hid (fun X hX => by have := hso.b.later hX; unfold OwnsF at this; rw [HRL.out] at this; exact this)
          have HBS : Hid (∀ X, Below W3.heap.size W3 X → B ≤ X.heap.size) := Lib.hid (fun X hX => Nat.le_trans (Nat.le_trans hB HW3.out.size) hX.size)
          have HL2 : Hid (rl + 1 ≤ maxLen) := Lib.hid (by have := HRL.out; unfold maxLen; omega)
          have HL : Hid ((rl + 1) * 32 ≤ 140737488355328) := Lib.hid (by have := HRL.out; omega)
          clear hso hA
          go_region_law (first
            | ((refine step_append_lies _ (by rfl) _ _ 24 (by rfl) B 58 i1 _ 4 32 Tryz.underlying24 hi hz0 hz1 hz2 rfl (by decide) (.slice ba rl rc) rl (s.b.flatMap elBond.enc) (by rfl) (HOA.out _ (nb_alloc (Below.refl _ _).drew _)) _ 1 1 [.int .i64 x.1.1, .int .i64 x.1.2, .int .i64 x.2.1, .int .i64 x.2.2] (by rfl) rfl (World.news_of_block (heap_alloc_new _ _)) (elBond.one x) (by decide) HL2.out HL.out (HBS.out _ (nb_alloc (Below.refl _ _).drew _)) _ rfl ?_
                intro g cap' w4 hown hgr hat hg4
                have hG4 : Grew W3 w4 (.slice ba rl rc) g := Grew.of (nb_alloc (Below.refl _ _).drew _) hgr hat hg4
                have HD := Lib.hid (HSO.out.putB (X := w4) (v' := .slice (some ⟨g, 0, none⟩) (rl + 1) cap') (xs := s.b ++ [x]) (hG4.kept (fun b hb => hb)) (OwnsF.snoc (by rw [HRL.out]; exact hown)) (fun k e => by simp only [Value.ownBlock, Option.some.injEq] at e; subst e; exact hG4.at_))
                have cq2 : w4.cell? ⟨p, 2, none⟩ = some (.slice ba rl rc) := by rw [World.cell?_of_block (a := ⟨p, 2, none⟩) (hG4.far p hpl3 HNQ.out)]; exact cq
                have fq2 : w4.frozen? ⟨p, 2, none⟩ = false := by rw [World.frozen?_of_block (a := ⟨p, 2, none⟩) (hG4.far p hpl3 HNQ.out)]; exact fq
                have hp4 : p < w4.heap.size := Nat.lt_of_lt_of_le hpl3 hG4.size
                clear hown hgr hat hG4)))
          all_goals
            have HEND2 := Lib.hid HD.out
            clear HD cq fq k0 k1 k2 k3
            go_wp2
            go_ret
            refine ⟨by rw [HRA.out, Option.isSome_map, HOK.out]; rfl, (Kept.ofBelow HW3.out).trans HEND2.out.2 (fun k e => .inl e), fun s' hs' => ?_⟩
            rw [HRA.out] at hs'
            cases hq : rdBond T with
            | none => rw [hq] at hs'; cases hs'
            | some y =>
              obtain rfl := HXE.out _ hq
              rw [hq] at hs'
              cases hs'
              exact ⟨_, _, _, HEND2.out.1⟩
        · have e3 : (F == [98, 111, 110, 100]) = false := by simp only [beq_eq_false_iff_ne]; exact hF3
          have HE : Hid (rdLine s line = none) := Lib.hid (by rw [HRD.out, if_neg hF1, if_neg hF2, if_neg hF3])
          clear hF1 hF2 hF3
          go_wp2
          go_ret
          exact ⟨by rw [HE.out]; rfl, Kept.ofBelow HBV.out, fun s' hs' => by rw [HE.out] at hs'; cases hs'⟩
end Go.Proofs.YtndhomjfjhohoaaGreatDoor

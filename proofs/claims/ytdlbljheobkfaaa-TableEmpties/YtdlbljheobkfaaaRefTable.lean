/- The reference's table in memory, and the contracts of its functions. -/
import Derived.Test.YtdlbljheobkfaaaTableRemove
namespace Go.Proofs.Ytdlbljheobkfaaa
open Go.RowKit

theorem infoRow : (Try.prog.info? 41).map (fun i => (i.zero, i.size, i.bytes)) = some (some (.agg #[.int .i64 0, .int .i64 0, .int .i64 0, .int .i64 0, .int .i64 0, .int .i64 0, .int .i64 0, .int .i64 0, .int .i64 0, .int .i64 0, .int .i64 0]), 11, 88) := by kernel_rfl

/-- At block q lies the reference's table of the set m with these rows, in the blocks G. -/
def RefTab (w : World) (q : Nat) (G : Nat → Prop) (m : Int) (rows : List Rw) : Prop :=
  ∃ v, ColIs elRow 41 w q 1 #[.int .i64 m, v] 30 v rows ∧ G q ∧ (∀ k, v.ownBlock = some k → G k) ∧ ∀ k, G k → k < w.heap.size
theorem RefTab.kept {w w' : World} {q : Nat} {G H : Nat → Prop} {m : Int} {rows : List Rw} (h : RefTab w q G m rows) (hk : Kept H w w') (hf : ∀ k, G k → ¬ H k) : RefTab w' q G m rows := by
  obtain ⟨v, hc, hq, hv, hl⟩ := h
  exact ⟨v, hc.kept hk (hf q hq) (fun k e => hf k (hv k e)), hq, hv, fun k e => Nat.lt_of_lt_of_le (hl k e) hk.size⟩
theorem RefTab.later {w w' : World} {q : Nat} {G : Nat → Prop} {m : Int} {rows : List Rw} (h : RefTab w q G m rows) (hb : Below w.heap.size w w') : RefTab w' q G m rows :=
  h.kept (H := fun _ => False) (Kept.ofBelow hb) (fun _ _ => id)
theorem RefTab.lt {w : World} {q : Nat} {G : Nat → Prop} {m : Int} {rows : List Rw} (h : RefTab w q G m rows) : ∀ k, G k → k < w.heap.size := by
  obtain ⟨v, hc, hq, hv, hl⟩ := h; exact hl
/-- Its list has been set anew. -/
theorem RefTab.step {w w' : World} {q : Nat} {G : Nat → Prop} {m : Int} {rows rows' : List Rw} {v' : Value} (h : RefTab w q G m rows) (hk : Kept (fun k => k = q) w w') (hq : w'.heap[q]? = some (.cells #[.int .i64 m, v'] 30)) (ho : OwnsF elRow w' w.heap.size 41 v' rows') :
    ∃ G', RefTab w' q G' m rows' ∧ Kept G w w' ∧ Moves w G G' := by
  obtain ⟨v, hc, hGq, hv, hl⟩ := h
  have hql := hl q hGq
  refine ⟨fun b => b = q ∨ (w.heap.size ≤ b ∧ b < w'.heap.size), ⟨v', ⟨hq, rfl, ho.weaken (Nat.zero_le _), fun k e => by have := ho.ge e; omega⟩, .inl rfl, fun k e => .inr ⟨ho.ge e, ho.lt e⟩, fun k e => ?_⟩, hk.mono (fun k e => .inl (by rw [e]; exact hGq)), fun k e => e.imp (fun e => by rw [e]; exact hGq) And.left⟩
  rcases e with rfl | e
  · exact Nat.lt_of_lt_of_le hql hk.size
  · exact e.2

/-- An own slice of rows, opened. -/
theorem OwnsF.at11 {w : World} {B : Nat} {T : TypeId} {v : Value} {xs : List Rw} (h : OwnsF elRow w B T v xs) (h0 : 0 < xs.length) :
    ∃ g cap, v = .slice (some ⟨g, 0, none⟩) xs.length cap ∧ B ≤ g ∧ g < w.heap.size ∧ xs.length ≤ cap ∧ cap ≤ maxLen ∧ (∀ j, w.frozen? ⟨g, j, none⟩ = false) ∧ ∀ k, k < xs.length → ∀ j, j < 11 → w.cell? ⟨g, k * 11 + j, none⟩ = (elRow.enc (xs.getD k rowZ))[j]? := by
  have hB := fun k e => h.ge (k := k) e
  rcases h.owns.form with ⟨rfl, rfl⟩ | ⟨g, cap, cur, rfl, hh, hg, hn, hcap, hsz⟩
  · simp at h0
  · refine ⟨g, cap, rfl, hB g rfl, hg, hn, hcap, fun j => frozen_of_row _ _ _ _ _ hh, fun k hk j hj => ?_⟩
    have h1 := enc_at elRow xs k j hk hj
    rw [show elRow.size = 11 from rfl] at h1
    rw [World.ownsRow.cellAt h.owns _ (by rw [show elRow.size = 11 from rfl]; omega), h1]; rfl

set_option maxHeartbeats 1000000 in
theorem copyRow_any (v : Value) (xs : List Rw) (w : World) (h : OwnsF elRow w 0 41 v xs) (hl : xs.length * 88 ≤ 140737488355328) :
    Calls Try.prog 30 #[v] w fun e w' => ∃ v', e = .returned v' ∧ OwnsF elRow w' w.heap.size 41 v' xs ∧ Below w.heap.size w w' := by
  obtain ⟨i0, hi, hz0, hz1, hz2⟩ := info_parts infoRow
  rcases h.owns.form with ⟨rfl, rfl⟩ | ⟨g, cap, cur, rfl, hh, hg, hn, hcap, hsz⟩
  · go_enter Try.func30, Try.ntmps30
    go_wp2
    go_ret
    exact ⟨_, rfl, OwnsF.nil _ _ _ _, Below.refl _ _⟩
  · have HC : Hid (∀ j u, (xs.flatMap elRow.enc)[j]? = some u → w.cell? ((⟨g, 0, none⟩ : Addr).add j) = some u) := Lib.hid (fun j u hu => by
      rw [addr_add', Nat.zero_add, World.ownsRow.cellAt h.owns j (by have := (List.getElem?_eq_some_iff.1 hu).1; rwa [length_enc] at this)]
      exact hu)
    have HL := Lib.hid hl
    have HL2 : Hid (xs.length ≤ maxLen) := Lib.hid (Nat.le_trans hn hcap)
    clear h hh
    go_enter Try.func30, Try.ntmps30
    go_wp2_with (first | (at_builtin; refine wpList_append_own _ rfl _ _ 28 rfl w.heap.size 41 i0 _ 11 88 Try.underlying28 hi hz0 hz1 hz2 rfl (by decide) _ 0 [] rfl (World.ownsRow_nil w w.heap.size 41 11) ⟨g, 0, none⟩ xs.length cap (xs.flatMap elRow.enc) rfl (length_enc elRow xs) HC.out (by intro u hu; obtain ⟨x, _, hx⟩ := List.mem_flatMap.1 hu; exact elRow.one x u hx) (by rw [Nat.zero_add]; exact HL2.out) (by rw [Nat.zero_add]; exact HL.out) (Nat.le_refl _) ?_))
    intro v' w2 hown hgr _
    have HB2 : Hid (Below w.heap.size w w2) := Lib.hid ((Below.refl _ _).grown hgr (Nat.le_refl _) (fun j hj => by cases hj))
    have HO2 : Hid (OwnsF elRow w2 w.heap.size 41 v' xs) := Lib.hid hown
    clear hown hgr
    go_wp2
    go_ret
    exact ⟨_, rfl, HO2.out, HB2.out⟩

theorem step_call_by {P : Program} {ops : Array Oper} {o : Oper} {a : Act} {w : World} {K : Act → World → Prop} {Q : Exit → Act → World → Prop} {E : Prop} (hgd : o.guard = none) (f : FuncId) (args : Array Value) (hrun : (execOp a.eval o).run P w = .ok (.enter f args) w)
    (hc : Calls P f args w fun e w' => ∃ v, e = .returned v ∧ K (a.put o.dst v) w') : if Region.wanted o (yielded ops a.tmps) = true then Oper.wp P o a w K Q else E := by
  have hw : Region.wanted o (yielded ops a.tmps) = true := by simp [Region.wanted, hgd]
  rw [if_pos hw]
  unfold Oper.wp
  rw [hrun, Oper.upon_enter]
  refine hc.mono fun e w'' hh => ?_
  obtain ⟨v, rfl, h⟩ := hh
  exact h

def RAddPost (w : World) (q : Nat) (G : Nat → Prop) (m : Int) (rows : List Rw) (r : Rw) (e : Ending) (w' : World) : Prop :=
  e = .returned (.tuple #[.int .i64 (addN m rows r), .int .i64 (addE m r)]) ∧ ∃ G', RefTab w' q G' m (addL m rows r) ∧ Kept G w w' ∧ Moves w G G'
theorem RAddPost.no {w w' : World} {q : Nat} {G : Nat → Prop} {m : Int} {rows : List Rw} {r : Rw} {x : Int} (h : RefTab w q G m rows) (hx : addE m r = x) (h0 : x ≠ 0) (hb : Below w.heap.size w w') : RAddPost w q G m rows r (.returned (.tuple #[.int .i64 0, .int .i64 x])) w' := by
  subst hx
  refine ⟨by rw [addN, if_neg h0], G, ?_, Kept.ofBelow hb, Moves.refl _ _⟩
  rw [addL, if_neg h0]; exact h.later hb
theorem RefTab.cell0 {w : World} {q : Nat} {m : Int} {rows : List Rw} {v : Value} (h : ColIs elRow 41 w q 1 #[.int .i64 m, v] 30 v rows) : w.cell? ⟨q, 0, none⟩ = some (.int .i64 m) := by rw [cell_of_row _ _ _ _ _ _ h.heap]; rfl

set_option maxHeartbeats 4000000 in
theorem refAdd_any (q : Nat) (G : Nat → Prop) (m : Int) (rows : List Rw) (r : Rw) (w : World) (h : RefTab w q G m rows) (hl : (rows.length + 1) * 88 ≤ 140737488355328) :
    Calls Try.prog 9 #[.pointer (some ⟨q, 0, none⟩), .agg #[.int .i64 r.s, .int .i64 r.g], .agg #[.int .i64 r.m, .int .i64 (r.f 0), .int .i64 (r.f 1), .int .i64 (r.f 2), .int .i64 (r.f 3), .int .i64 (r.f 4), .int .i64 (r.f 5), .int .i64 (r.f 6), .int .i64 (r.f 7)]] w (RAddPost w q G m rows r) := by
  have HT := Lib.hid h
  by_cases he : bErr r.m [r.f 0, r.f 1, r.f 2, r.f 3, r.f 4, r.f 5, r.f 6, r.f 7] = 0
  · by_cases hm : r.m = m
    · subst hm
      obtain ⟨i0, hi, hz0, hz1, hz2⟩ := info_parts infoRow
      have HL := Lib.hid hl
      obtain ⟨v, hc, -⟩ := h
      have HE := Lib.hid he
      have hne : (r.m != r.m) = false := by simp
      have hql := hc.lt
      have HC := Lib.hid hc
      clear he
      go_enter Try.func9, Try.ntmps9
      go_wp2_with fail
      refine (refBeastCheck_any _ _ _ _ _ _ _ _ _ _).mono ?_
      rintro e w' ⟨rfl, hw'⟩
      rw [HE.out]
      have hb' : Below w.heap.size w w' := by rw [← hw']; exact nb_alloc (nb_alloc (nb_alloc (Below.refl _ _) _) _) _
      have c0 := RefTab.cell0 (hc.later hb')
      have cb0 : w'.cell? ⟨w.heap.size + 1, 0, none⟩ = some (.int .i64 r.m) := by rw [← hw', box2_cell]; rfl
      have hbb : w'.heap[w.heap.size + 1]? = some (.cells #[.int .i64 r.m, .int .i64 (r.f 0), .int .i64 (r.f 1), .int .i64 (r.f 2), .int .i64 (r.f 3), .int .i64 (r.f 4), .int .i64 (r.f 5), .int .i64 (r.f 6), .int .i64 (r.f 7)] 35) := by rw [← hw']; exact box2_block _ _ _ _ _
      have hbh : w'.heap[w.heap.size]? = some (.cells #[.int .i64 r.s, .int .i64 r.g] 32) := by rw [← hw']; exact box1_block _ _ _ _
      have hqw : q < w'.heap.size := Nat.lt_of_lt_of_le hql hb'.size
      have HB' := Lib.hid hb'
      have HBB := Lib.hid hbb
      have HBH := Lib.hid hbh
      clear hw' hb' hbb hbh hc
      go_wp2_with fail
      go_quiet (fail)
      go_wp2_with fail
      clear cb0 c0
      have HBW : Hid (Below w.heap.size w (w'.drewN nq)) := Lib.hid (nb_drewN HB'.out)
      have HBX : Hid (∀ x, Below (w'.drewN nq).heap.size (w'.drewN nq) x → x.cell? ⟨w.heap.size, 0, none⟩ = some (.int .i64 r.s) ∧ x.cell? ⟨w.heap.size, 1, none⟩ = some (.int .i64 r.g) ∧ x.cell? ⟨w.heap.size + 1, 0, none⟩ = some (.int .i64 r.m) ∧ x.cell? ⟨w.heap.size + 1, 1, none⟩ = some (.int .i64 (r.f 0)) ∧ x.cell? ⟨w.heap.size + 1, 2, none⟩ = some (.int .i64 (r.f 1)) ∧ x.cell? ⟨w.heap.size + 1, 3, none⟩ = some (.int .i64 (r.f 2)) ∧ x.cell? ⟨w.heap.size + 1, 4, none⟩ = some (.int .i64 (r.f 3)) ∧ x.cell? ⟨w.heap.size + 1, 5, none⟩ = some (.int .i64 (r.f 4)) ∧ x.cell? ⟨w.heap.size + 1, 6, none⟩ = some (.int .i64 (r.f 5)) ∧ x.cell? ⟨w.heap.size + 1, 7, none⟩ = some (.int .i64 (r.f 6)) ∧ x.cell? ⟨w.heap.size + 1, 8, none⟩ = some (.int .i64 (r.f 7))) := Lib.hid (fun x hx => by
        have h1 : x.heap[w.heap.size]? = some (.cells #[.int .i64 r.s, .int .i64 r.g] 32) := by rw [hx.block _ (Array.getElem?_eq_some_iff.1 HBH.out).1]; exact HBH.out
        have h2 : x.heap[w.heap.size + 1]? = some (.cells #[.int .i64 r.m, .int .i64 (r.f 0), .int .i64 (r.f 1), .int .i64 (r.f 2), .int .i64 (r.f 3), .int .i64 (r.f 4), .int .i64 (r.f 5), .int .i64 (r.f 6), .int .i64 (r.f 7)] 35) := by rw [hx.block _ (Array.getElem?_eq_some_iff.1 HBB.out).1]; exact HBB.out
        exact ⟨by rw [cell_of_row _ _ _ _ _ _ h1]; rfl, by rw [cell_of_row _ _ _ _ _ _ h1]; rfl, by rw [cell_of_row _ _ _ _ _ _ h2]; rfl, by rw [cell_of_row _ _ _ _ _ _ h2]; rfl, by rw [cell_of_row _ _ _ _ _ _ h2]; rfl, by rw [cell_of_row _ _ _ _ _ _ h2]; rfl, by rw [cell_of_row _ _ _ _ _ _ h2]; rfl, by rw [cell_of_row _ _ _ _ _ _ h2]; rfl, by rw [cell_of_row _ _ _ _ _ _ h2]; rfl, by rw [cell_of_row _ _ _ _ _ _ h2]; rfl, by rw [cell_of_row _ _ _ _ _ _ h2]; rfl⟩)
      have hqX : q < (w'.drewN nq).heap.size := hqw
      have hb1l : w.heap.size + 1 < (w'.drewN nq).heap.size := (Array.getElem?_eq_some_iff.1 HBB.out).1
      clear HBB HBH HB' hqw
      generalize w'.drewN nq = X at *
      have HCX : Hid (∀ x, Below X.heap.size X x → ColIs elRow 41 x q 1 #[.int .i64 r.m, v] 30 v rows) := Lib.hid (fun x hx => HC.out.later (HBW.out.trans (hx.mono HBW.out.size)))
      have cq := (HCX.out X (Below.refl _ _)).cell
      obtain ⟨kh0, kh1, kb0, kb1, kb2, kb3, kb4, kb5, kb6, kb7, kb8⟩ := HBX.out X (Below.refl _ _)
      have HL1 : Hid (rows.length * 88 ≤ 140737488355328) := Lib.hid (by omega)
      have HL2 : Hid (rows.length + 1 ≤ maxLen) := Lib.hid (by unfold maxLen; omega)
      have hb0l : w.heap.size < X.heap.size := by omega
      go_region_law (first
        | (refine step_append_lies _ (by rfl) _ _ 28 (by rfl) X.heap.size 41 i0 _ 11 88 Try.underlying28 hi hz0 hz1 hz2 rfl (by decide) v1 rows.length (rows.flatMap elRow.enc) (by rfl) (by first | exact HO1.out | exact World.ownsRow.alloc HO1.out _) _ 1 1 [.int .i64 r.s, .int .i64 r.g, .int .i64 r.m, .int .i64 (r.f 0), .int .i64 (r.f 1), .int .i64 (r.f 2), .int .i64 (r.f 3), .int .i64 (r.f 4), .int .i64 (r.f 5), .int .i64 (r.f 6), .int .i64 (r.f 7)] (by rfl) rfl (World.news_of_block (by first | exact heap_alloc_new _ _ | (rw [HN1.out.block _ (by simp)]; exact heap_alloc_new _ _))) (elRow.one r) (by decide) HL2.out HL.out (by first | exact HB1.out.size | exact (nb_alloc HB1.out _).size) _ rfl ?_
           intro g cap w2 hown hgr hat hg2
           have hB2 : Below X.heap.size X w2 := by first | exact HB1.out.grown hgr HB1.out.size (fun j hj => HO1.out.ge hj) | exact (nb_alloc HB1.out _).grown hgr (nb_alloc HB1.out _).size (fun j hj => HO1.out.ge hj)
           have HB2 := Lib.hid hB2
           have HO2 : Hid (OwnsF elRow w2 X.heap.size 41 (.slice (some ⟨g, 0, none⟩) (rows.length + 1) cap) (rows ++ [r])) := Lib.hid (OwnsF.snoc (x := r) hown)
           have cq2 := (HCX.out w2 hB2).cell
           have fq2 := (HCX.out w2 hB2).frz 1
           have hq2 : q < w2.heap.size := Nat.lt_of_lt_of_le hqX hB2.size
           clear hown hgr hat hB2)
        | (go_simp
           go_at_call 30
           refine (copyRow_any v rows _ (HCX.out _ (by first | exact (Below.refl _ _).drew | exact nb_alloc (Below.refl _ _).drew _)).own HL1.out).mono ?_
           rintro e w1 ⟨v1, rfl, ho1, hb1⟩
           have HB1 : Hid (Below X.heap.size X w1) := Lib.hid (by first | exact nb_trans (Below.refl _ _).drew hb1 | exact nb_trans (nb_alloc (Below.refl _ _).drew _) hb1)
           have HN1 := Lib.hid hb1
           have HO1 : Hid (OwnsF elRow w1 X.heap.size 41 v1 rows) := Lib.hid (ho1.weaken (by simp))
           obtain ⟨lh0, lh1, lb0, lb1, lb2, lb3, lb4, lb5, lb6, lb7, lb8⟩ := HBX.out w1 HB1.out
           have hs1 : X.heap.size ≤ w1.heap.size := HB1.out.size
           have hq1 : q < w1.heap.size := Nat.lt_of_lt_of_le hqX hs1
           have hb0l1 : w.heap.size < w1.heap.size := Nat.lt_of_lt_of_le hb0l hs1
           have hb1l1 : w.heap.size + 1 < w1.heap.size := Nat.lt_of_lt_of_le hb1l hs1
           clear ho1 hb1))
      all_goals
        have HEND : Hid (RAddPost w q G r.m rows r (.returned (.tuple #[.int .i64 rows.length, .int .i64 0])) (w2.setCell ⟨q, 1, none⟩ (.slice (some ⟨g, 0, none⟩) (rows.length + 1) cap))) := Lib.hid (by
          have h0 : addE r.m r = 0 := by rw [addE, if_pos HE.out, if_pos rfl]
          have hks : Kept (fun k => k = q) w2 (w2.setCell ⟨q, 1, none⟩ (.slice (some ⟨g, 0, none⟩) (rows.length + 1) cap)) := Kept.setCell (F := fun k => k = q) _ (p := ⟨q, 1, none⟩) rfl _
          have hkw : Kept (fun k => k = q) w (w2.setCell ⟨q, 1, none⟩ (.slice (some ⟨g, 0, none⟩) (rows.length + 1) cap)) := (Kept.ofBelow (HBW.out.trans (HB2.out.mono HBW.out.size))).trans hks (fun _ h => .inl h)
          have hho := (HO2.out.weaken HBW.out.size).kept hks (fun k e => by simp [Value.ownBlock] at e; have := HO2.out.ge (k := k) (by simpa [Value.ownBlock] using e); omega)
          obtain ⟨G', hR, hK, hM⟩ := HT.out.step hkw (by rw [heap_setCell_same _ _ _ _ _ _ (HCX.out w2 HB2.out).heap]; rfl) hho
          exact ⟨by rw [addN, if_pos h0, h0], G', by rw [addL, if_pos h0]; exact hR, hK, hM⟩)
        clear cq kh0 kh1 lh0 lh1
        have hlb := HL.out
        go_wp2
        go_ret2
        exact HEND.out
    · have HP : Hid (∀ w', Below w.heap.size w w' → RAddPost w q G m rows r (.returned (.tuple #[.int .i64 0, .int .i64 4])) w') := Lib.hid (fun w' hb => RAddPost.no HT.out (by rw [addE, if_pos he, if_neg hm]) (by decide) hb)
      have hne : (r.m != m) = true := by simpa using hm
      obtain ⟨v, hc, -⟩ := h
      have HB : Hid (Below w.heap.size w ((w.alloc (.cells #[.int .i64 r.s, .int .i64 r.g] 32)).alloc (.cells #[.int .i64 r.m, .int .i64 (r.f 0), .int .i64 (r.f 1), .int .i64 (r.f 2), .int .i64 (r.f 3), .int .i64 (r.f 4), .int .i64 (r.f 5), .int .i64 (r.f 6), .int .i64 (r.f 7)] 35))) := Lib.hid (nb_alloc (nb_alloc (Below.refl _ _) _) _)
      have HE := Lib.hid he
      clear he hm
      go_enter Try.func9, Try.ntmps9
      go_wp2_with fail
      refine (refBeastCheck_any _ _ _ _ _ _ _ _ _ _).mono ?_
      rintro e w' ⟨rfl, hw'⟩
      rw [HE.out]
      have hb' : Below w.heap.size w w' := by rw [← hw']; exact nb_alloc HB.out _
      have c0 := RefTab.cell0 (hc.later hb')
      have cb0 : w'.cell? ⟨w.heap.size + 1, 0, none⟩ = some (.int .i64 r.m) := by rw [← hw', box2_cell]; rfl
      have HB' := Lib.hid hb'
      clear hw' hb' hc
      go_wp2_with fail
      go_quiet (fail)
      go_wp2
      go_ret2
      exact HP.out _ (nb_drewN HB'.out)
  · have HP : Hid (∀ w', Below w.heap.size w w' → RAddPost w q G m rows r (.returned (.tuple #[.int .i64 0, .int .i64 (bErr r.m [r.f 0, r.f 1, r.f 2, r.f 3, r.f 4, r.f 5, r.f 6, r.f 7])])) w') := Lib.hid (fun w' hb => RAddPost.no HT.out (by rw [addE, if_neg he]) he hb)
    generalize hE : bErr r.m [r.f 0, r.f 1, r.f 2, r.f 3, r.f 4, r.f 5, r.f 6, r.f 7] = E at *
    have HE := Lib.hid hE
    clear hE
    have hne : (E != 0) = true := by simpa using he
    have HB : Hid (Below w.heap.size w ((w.alloc (.cells #[.int .i64 r.s, .int .i64 r.g] 32)).alloc (.cells #[.int .i64 r.m, .int .i64 (r.f 0), .int .i64 (r.f 1), .int .i64 (r.f 2), .int .i64 (r.f 3), .int .i64 (r.f 4), .int .i64 (r.f 5), .int .i64 (r.f 6), .int .i64 (r.f 7)] 35))) := Lib.hid (nb_alloc (nb_alloc (Below.refl _ _) _) _)
    clear he
    go_enter Try.func9, Try.ntmps9
    go_wp2_with fail
    refine (refBeastCheck_any _ _ _ _ _ _ _ _ _ _).mono ?_
    rintro e w' ⟨rfl, hw'⟩
    rw [HE.out]
    have HB' : Hid (Below w.heap.size w w') := Lib.hid (by rw [← hw']; exact nb_alloc HB.out _)
    clear hw'
    go_wp2
    go_ret2
    exact HP.out _ HB'.out
end Go.Proofs.Ytdlbljheobkfaaa

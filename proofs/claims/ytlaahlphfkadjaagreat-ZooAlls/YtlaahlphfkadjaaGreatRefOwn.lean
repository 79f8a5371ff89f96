
/- Own of the reference's zoo: a copy of it. -/
import Derived.Test.YtlaahlphfkadjaaGreatZooRefTell
import Derived.Test.YtlaahlphfkadjaaGreatRefTake
namespace Go.Proofs.YtlaahlphfkadjaaGreat
set_option maxRecDepth 8000
set_option maxRecDepth 8000
open Go.RowKit

theorem nilOwnsB (w : World) (B : Nat) : w.ownsRow B 4 1 (.slice none 0 0) 0 [] := World.ownsRow_nil _ _ _ _
set_option maxHeartbeats 2000000 in
theorem copyBool_any (v : Value) (xs : List Bool) (w : World) (h : Reads elBool w v xs) (hn : xs.length ≤ 140737488355328) (hs : (∃ g off k cap, v = .slice (some ⟨g, off, none⟩) k cap) ∨ v = .slice none 0 0) :
    Calls Tryz.prog 39 #[v] w fun e w' => ∃ v', e = .returned v' ∧ OwnsF elBool w' w.heap.size 4 v' xs ∧ Below w.heap.size w w' := by
  obtain ⟨i0, hi, hz0, hz1, hz2⟩ := info_parts infoBool
  rcases hs with ⟨g, off, k, cap, rfl⟩ | rfl
  · obtain ⟨a', cap', e, hl, hm, hc⟩ := h
    simp only [Value.slice.injEq] at e
    obtain ⟨rfl, rfl, rfl⟩ := e
    have HC : Hid (∀ j u, (xs.flatMap elBool.enc)[j]? = some u → w.cell? ((⟨g, off, none⟩ : Addr).add j) = some u) := Lib.hid (fun j u hu => by
      have hjl := (List.getElem?_eq_some_iff.1 hu).1
      rw [length_enc] at hjl
      have hjl' : j < xs.length * 1 := hjl
      obtain ⟨b0, off0, e0, hb0, hcc⟩ := hc j (by omega)
      simp only [Option.some.injEq, Addr.mk.injEq, and_true] at e0
      obtain ⟨rfl, rfl⟩ := e0
      have h9 := hcc 0 (by decide)
      have h8 := enc_at elBool xs j 0 (by omega) (by decide)
      rw [show elBool.size = 1 from rfl] at h8 h9
      rw [show j * 1 + 0 = j by omega] at h8
      rw [show off + j * 1 + 0 = off + j by omega] at h9
      rw [addr_add', h9, ← h8]; exact hu)
    have HL : Hid (xs.length ≤ maxLen) := Lib.hid (Nat.le_trans hl hm)
    clear hc
    go_enter Tryz.func39, Tryz.ntmps39
    go_wp2_with (first | (at_builtin; refine wpList_append_own _ rfl _ _ 27 rfl w.heap.size 4 i0 _ 1 1 Tryz.underlying27 hi hz0 hz1 hz2 rfl (by decide) _ 0 [] rfl (nilOwnsB w _) ⟨g, off, none⟩ xs.length cap (xs.flatMap elBool.enc) rfl (length_enc elBool xs) HC.out (by intro u hu; obtain ⟨x, _, hx⟩ := List.mem_flatMap.1 hu; exact elBool.one x u hx) (by rw [Nat.zero_add]; exact HL.out) ?d4 (Nat.le_refl _) ?_))
    case d4 => omega
    intro v' w2 hown hgr hnil
    have HB2 : Hid (Below w.heap.size w w2) := Lib.hid ((Below.refl _ _).grown hgr (Nat.le_refl _) (fun j hj => by simp [Value.ownBlock] at hj))
    have HO2 : Hid (OwnsF elBool w2 w.heap.size 4 v' xs) := Lib.hid hown
    clear hown hgr hnil
    go_wp2
    go_ret
    exact ⟨_, rfl, HO2.out, HB2.out⟩
  · obtain ⟨a', cap', e, _⟩ := h
    simp only [Value.slice.injEq] at e
    have hx0 : xs = [] := List.length_eq_zero_iff.1 e.2.1.symm
    subst hx0
    clear e hn
    go_enter Tryz.func39, Tryz.ntmps39
    go_wp2
    go_ret
    exact ⟨_, rfl, OwnsF.nil _ _ _ _, Below.refl _ _⟩

/-- A block with four slices, each made behind the one before it, the block the last, is a zoo. -/
theorem ZfAt.made {w : World} {q B1 B2 B3 B4 : Nat} {s : Zs} {vg vl vL vB : Value} (hq : w.heap[q]? = some (.cells #[vg, vl, vL, vB] 33 (0, 0)))
    (hg : OwnsF elInt w B1 3 vg (gensL s.l)) (hl : OwnsF elBool w B2 4 vl (livesL s.l)) (hL : OwnsF elRow w B3 56 vL s.rows) (hB : OwnsF elBond w B4 58 vB s.bs)
    (hgB : ∀ k, vg.ownBlock = some k → k < B2) (hlB : ∀ k, vl.ownBlock = some k → k < B3) (hLB : ∀ k, vL.ownBlock = some k → k < B4) (hBB : ∀ k, vB.ownBlock = some k → k < q) (h12 : B1 ≤ B2) (h23 : B2 ≤ B3) (h34 : B3 ≤ B4) (h4 : B4 ≤ q) :
    ZfAt w q (fun b => B1 ≤ b ∧ b < w.heap.size) s := by
  have hql := (Array.getElem?_eq_some_iff.1 hq).1
  have hlt : ∀ b, (b = q ∨ (B1 ≤ b ∧ b < B4)) → b < w.heap.size := fun b hb => hb.elim (fun e => by omega) (fun e => by omega)
  refine ⟨fun b => b = q ∨ (B1 ≤ b ∧ b < B4), fun b => B4 ≤ b ∧ b < w.heap.size ∧ b ≠ q, vB, ⟨⟨fun b => if b = q ∨ b < B3 then 0 else 1, vL, ⟨⟨vg, vl, hq, hg.owns, hl.owns, ⟨.inl rfl, if_pos (.inl rfl)⟩, fun k e => ?_, fun k e => ?_, fun k hb => hlt k hb.1⟩, hL.owns, fun k e => ?_, hlt⟩⟩, hB.owns, fun k e => ?_, fun b hb e => ?_, fun b hb => hb.2.1⟩, fun b => ?_⟩
  · have a1 := hgB k e; have a2 := hg.ge e; have a3 := hg.lt e
    exact ⟨⟨.inr ⟨a2, by omega⟩, if_pos (.inr (by omega))⟩, by omega⟩
  · have a1 := hlB k e; have a2 := hl.ge e; have a3 := hl.lt e
    exact ⟨⟨.inr ⟨by omega, by omega⟩, if_pos (.inr (by omega))⟩, by omega, fun e2 => by have := hgB k e2; omega⟩
  · have a1 := hLB k e; have a2 := hL.ge e; have a3 := hL.lt e
    exact ⟨.inr ⟨by omega, a1⟩, if_neg (by omega)⟩
  · have a1 := hBB k e; have a2 := hB.ge e; have a3 := hB.lt e
    exact ⟨by omega, a3, by omega⟩
  · rcases e with e | e
    · exact hb.2.2 e
    · omega
  · constructor
    · rintro ⟨e1, e2⟩
      by_cases hb : b < B4
      · exact .inl (.inr ⟨e1, hb⟩)
      · by_cases hc : b = q
        · exact .inl (.inl hc)
        · exact .inr ⟨by omega, e2, hc⟩
    · rintro ((e | e) | e)
      · exact ⟨by omega, by omega⟩
      · exact ⟨e.1, by omega⟩
      · exact ⟨by omega, e.2.1⟩
/-- The four slices of a zoo. -/
theorem ZfAt.slices4 {w : World} {q : Nat} {G : Nat → Prop} {s : Zs} (h : ZfAt w q G s) : ∃ vg vl vL vB, w.heap[q]? = some (.cells #[vg, vl, vL, vB] 33 (0, 0)) ∧ Owns elInt w 3 vg (gensL s.l) ∧ Owns elBool w 4 vl (livesL s.l) ∧ Owns elRow w 56 vL s.rows ∧ Owns elBond w 58 vB s.bs := by
  obtain ⟨G0, G1, vB, hz, -⟩ := h
  obtain ⟨c, vL, hzi⟩ := hz.zoo
  obtain ⟨vg, vl, hb, hg, hl, -⟩ := hzi.slots
  exact ⟨vg, vl, vL, vB, hb, hg, hl, hzi.own, hz.own⟩
/-- What Own leaves: a zoo of its own. -/
def OwnPost (w : World) (s : Zs) (e : Ending) (w' : World) : Prop := ∃ q' G', e = .returned (.pointer (some ⟨q', 0, none⟩)) ∧ ZfAt w' q' G' s ∧ (∀ b, G' b → w.heap.size ≤ b) ∧ Below w.heap.size w w'

set_option maxHeartbeats 4000000 in
theorem zfOwn (q : Nat) (G : Nat → Prop) (s : Zs) (w : World) (h : ZfAt w q G s) (ok : ZOk s) :
    Calls Tryz.prog 18 #[.pointer (some ⟨q, 0, none⟩)] w (OwnPost w s) := by
  obtain ⟨vg, vl, vL, vB, hq, hg, hl, hL, hB⟩ := h.slices4
  have HG := Lib.hid hg
  have HLV := Lib.hid hl
  have HL := Lib.hid hL
  have HBB := Lib.hid hB
  obtain ⟨ga, gc, rfl, -⟩ := hg.reads
  obtain ⟨la, lc, rfl, -⟩ := hL.reads
  obtain ⟨va, vc, hlv, hlf⟩ : ∃ va vc, vl = .slice va (livesL s.l).length vc ∧ ((∃ g off k cap, vl = .slice (some ⟨g, off, none⟩) k cap) ∨ vl = .slice none 0 0) := by
    rcases hl.form with ⟨rfl, e⟩ | ⟨g, cap, cur, rfl, _⟩
    · exact ⟨none, 0, by rw [e]; rfl, .inr rfl⟩
    · exact ⟨_, _, rfl, .inl ⟨g, 0, _, _, rfl⟩⟩
  obtain ⟨ba, bc, hbv, hbf⟩ : ∃ ba bc, vB = .slice ba s.bs.length bc ∧ ((∃ g off, ba = some ⟨g, off, none⟩) ∨ (ba = none ∧ s.bs.length = 0 ∧ bc = 0)) := by
    rcases hB.form with ⟨rfl, e⟩ | ⟨g, cap, cur, rfl, _⟩
    · exact ⟨none, 0, by rw [e]; rfl, .inr ⟨rfl, by rw [e]; rfl, rfl⟩⟩
    · exact ⟨_, _, rfl, .inl ⟨g, 0, rfl⟩⟩
  have HLF := Lib.hid hlf
  have HBF := Lib.hid hbf
  subst hlv hbv
  have HOK := Lib.hid ok
  have k0 : w.cell? ⟨q, 0, none⟩ = some (.slice ga (gensL s.l).length gc) := (cell_of_row _ _ _ _ _ _ hq).trans rfl
  have k1 : w.cell? ⟨q, 1, none⟩ = some (.slice va (livesL s.l).length vc) := (cell_of_row _ _ _ _ _ _ hq).trans rfl
  have k2 : w.cell? ⟨q, 2, none⟩ = some (.slice la s.rows.length lc) := (cell_of_row _ _ _ _ _ _ hq).trans rfl
  have k3 : w.cell? ⟨q, 3, none⟩ = some (.slice ba s.bs.length bc) := (cell_of_row _ _ _ _ _ _ hq).trans rfl
  have hql := (Array.getElem?_eq_some_iff.1 hq).1
  have HC0 : Hid (w.cell? ⟨q, 0, none⟩ = some (.slice ga (gensL s.l).length gc) ∧ w.cell? ⟨q, 1, none⟩ = some (.slice va (livesL s.l).length vc) ∧ w.cell? ⟨q, 2, none⟩ = some (.slice la s.rows.length lc) ∧ w.cell? ⟨q, 3, none⟩ = some (.slice ba s.bs.length bc)) := Lib.hid ⟨k0, k1, k2, k3⟩
  have HKK : Hid (∀ Y, Below w.heap.size w Y → Y.cell? ⟨q, 0, none⟩ = some (.slice ga (gensL s.l).length gc) ∧ Y.cell? ⟨q, 1, none⟩ = some (.slice va (livesL s.l).length vc) ∧ Y.cell? ⟨q, 2, none⟩ = some (.slice la s.rows.length lc) ∧ Y.cell? ⟨q, 3, none⟩ = some (.slice ba s.bs.length bc)) := Lib.hid (fun Y hY => ⟨(hY.cell (p := ⟨q, 0, none⟩) hql).trans HC0.out.1, (hY.cell (p := ⟨q, 1, none⟩) hql).trans HC0.out.2.1, (hY.cell (p := ⟨q, 2, none⟩) hql).trans HC0.out.2.2.1, (hY.cell (p := ⟨q, 3, none⟩) hql).trans HC0.out.2.2.2⟩)
  have HDR : Hid (Below w.heap.size w w.drew) := Lib.hid (Below.refl _ _).drew
  have hg60 : (gensL s.l).length ≤ 60 := by rw [gensL_len]; exact HOK.out.w.slots.len
  have hl60 : (livesL s.l).length ≤ 60 := by rw [livesL_len]; exact HOK.out.w.slots.len
  have hr60 : s.rows.length ≤ 60 := HOK.out.w.len60
  have hb60 : s.bs.length ≤ 60 := HOK.out.len
  clear h ok hq hg hl hL hB hlf hbf
  go_enter Tryz.func18, Tryz.ntmps18
  go_wp2_with fail
  go_region_held3 (fun x => (x.cell? ⟨q, 0, none⟩ = some (.slice ga (gensL s.l).length gc) ∧ x.cell? ⟨q, 1, none⟩ = some (.slice va (livesL s.l).length vc) ∧ x.cell? ⟨q, 2, none⟩ = some (.slice la s.rows.length lc) ∧ x.cell? ⟨q, 3, none⟩ = some (.slice ba s.bs.length bc))) (first | go_keep | exact HKK.out _ HX1.out | exact HKK.out _ HX2.out | exact HKK.out _ HX3.out | exact HKK.out _ HX4.out | exact HKK.out _ HXE.out) (first
    | ((go_at_call 26; refine (copyInt_any _ (gensL s.l) _ (Ints.ofReads (HG.out.reads.later HDR.out)) (by omega)).mono ?_; rintro e x1 ⟨v1, rfl, ho1, hx1⟩; have HO1 := Lib.hid ho1; have HX1 : Hid (Below w.heap.size w x1) := Lib.hid (nb_trans HDR.out hx1); obtain ⟨ua, uc, hve, -⟩ := ho1.reads; clear hx1 ho1; subst hve))
    | ((go_at_call 39; refine (copyBool_any _ (livesL s.l) _ (HLV.out.reads.later HX1.out) (by omega) HLF.out).mono ?_; rintro e x2 ⟨v2, rfl, ho2, hx2⟩; have HO2 := Lib.hid ho2; have HX12 := Lib.hid hx2; have HX2 : Hid (Below w.heap.size w x2) := Lib.hid (nb_trans HX1.out hx2); obtain ⟨ta, tc, hve, -⟩ := ho2.reads; clear hx2 ho2; subst hve))
    | ((go_at_call 27; refine (copyRow_any _ s.rows _ (HL.out.kept (F := fun _ => False) (Kept.ofBelow HX2.out) (fun _ _ => id)) (by omega)).mono ?_; rintro e x3 ⟨v3, rfl, ho3, hx3⟩; have HO3 := Lib.hid ho3; have HX23 := Lib.hid hx3; have HX3 : Hid (Below w.heap.size w x3) := Lib.hid (nb_trans HX2.out hx3); obtain ⟨ra, rc, hve, -⟩ := ho3.reads; clear hx3 ho3; subst hve))
    | ((go_at_call 28; refine (copyBond_any ba s.bs.length bc s.bs _ (HBB.out.reads.later HX3.out) (by omega) HBF.out).mono ?_; rintro e x4 ⟨v4, rfl, ho4, hx4⟩; have HO4 := Lib.hid ho4; have HX34 := Lib.hid hx4; have HX4 : Hid (Below w.heap.size w x4) := Lib.hid (nb_trans HX3.out hx4); obtain ⟨da, dc, hve, -⟩ := ho4.reads; have HXE : Hid (Below w.heap.size w (x4.alloc (.cells #[.slice ua (gensL s.l).length uc, .slice ta (livesL s.l).length tc, .slice ra s.rows.length rc, .slice da s.bs.length dc] 33))) := Lib.hid (by rw [← hve]; exact nb_alloc HX4.out _); clear hx4 ho4; subst hve)) | fail "none")
  have HEND : Hid (OwnPost w s (.returned (.pointer (some ⟨x4.heap.size, 0, none⟩))) (x4.alloc (.cells #[.slice ua (gensL s.l).length uc, .slice ta (livesL s.l).length tc, .slice ra s.rows.length rc, .slice da s.bs.length dc] 33))) := Lib.hid (by
    have hA := nb_alloc (Below.refl x4.heap.size x4) (.cells #[.slice ua (gensL s.l).length uc, .slice ta (livesL s.l).length tc, .slice ra s.rows.length rc, .slice da s.bs.length dc] 33)
    have hz := ZfAt.made (s := s) (heap_alloc_new x4 (.cells #[.slice ua (gensL s.l).length uc, .slice ta (livesL s.l).length tc, .slice ra s.rows.length rc, .slice da s.bs.length dc] 33))
      (HO1.out.later (nb_trans HX12.out (nb_trans HX23.out (nb_trans HX34.out hA)))) (HO2.out.later (nb_trans HX23.out (nb_trans HX34.out hA))) (HO3.out.later (nb_trans HX34.out hA)) (HO4.out.later hA)
      (fun k e => HO1.out.lt e) (fun k e => HO2.out.lt e) (fun k e => HO3.out.lt e) (fun k e => HO4.out.lt e) (Nat.le_trans (by simp) HX1.out.size) HX12.out.size HX23.out.size HX34.out.size
    exact ⟨_, _, rfl, hz, fun b hb => by simpa using hb.1, nb_alloc HX4.out _⟩)
  go_wp2
  go_ret
  exact HEND.out
end Go.Proofs.YtlaahlphfkadjaaGreat

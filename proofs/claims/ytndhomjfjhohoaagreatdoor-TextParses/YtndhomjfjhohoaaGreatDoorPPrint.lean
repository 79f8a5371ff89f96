
/- text.Print. -/
import Derived.Test.YtndhomjfjhohoaaGreatDoorPLines
import Derived.Test.YtndhomjfjhohoaaGreatDoorPOrder
import Derived.Test.YtndhomjfjhohoaaGreatDoorPZooLoad
namespace Go.Proofs.YtndhomjfjhohoaaGreatDoor
set_option maxRecDepth 8000
set_option maxRecDepth 100000
open Go.RowKit Go.Shelf
attribute [local go_sem] Oper.semAt_some

def txt (l : List Ln) : List UInt8 := (lnOf l).flatMap fun x => x ++ [10]
theorem txt_snoc (l : List Ln) (x : Ln) : txt (l ++ [x]) = (txt l ++ x.1) ++ [10] := by simp [txt, lnOf]
theorem txt_len : ∀ l : List Ln, (txt l).length ≤ 2001 * l.length
  | [] => by simp [txt, lnOf]
  | x :: l => by
    have h1 := txt_len l
    have h2 := x.2
    simp [txt, lnOf] at h1 ⊢; omega
theorem IsB.turned {B b : Nat} {l : List UInt8} {W W' : World} {row : Option Nat} (h : IsB B b l W) (hg : W.grownBy W' row) (hr : ∀ r, row = some r → ∃ o : Obj, W.heap[r]? = some o ∧ o.isCells = false) : IsB B b l W' := by
  have key : ∀ p, Lib.BuilderAtF 63 5 B b p (Lib.byteCells l) W → Lib.BuilderAtF 63 5 B b p (Lib.byteCells l) W' := fun p ⟨hB, v, hb, ho, hne⟩ => by
    refine ⟨hB, v, ?_, ho.kept hg ?_, hne⟩
    · rw [hg.block b (Array.getElem?_eq_some_iff.1 hb).1 (fun e => ?_)]
      · exact hb
      · obtain ⟨o, ho, hc⟩ := hr b e.symm
        rw [hb] at ho; cases ho; cases hc
    · rcases ho.2 with ⟨rfl, _⟩ | ⟨g, cap, cur, fz, rfl, _, hh, _⟩
      · exact .inl rfl
      · refine .inr (fun e => ?_)
        obtain ⟨o, ho', hc⟩ := hr g e.symm
        rw [hh] at ho'; cases ho'; cases hc
  exact h.elim (fun x => .inl (key _ x)) (fun x => .inr (key _ x))
theorem IsB.cells {B b : Nat} {l : List UInt8} {W : World} (h : IsB B b l W) : ∃ c, W.heap[b]? = some (.cells c 63 (0, 0)) := by
  rcases h with ⟨_, v, hb, _⟩ | ⟨_, v, hb, _⟩ <;> exact ⟨_, hb⟩
set_option maxHeartbeats 1000000 in
theorem lines_in (n : Nat) (vg vr vb : Value) (w : World) (h1 : (∃ a k c, vg = .slice a k c) ∧ (∃ a k c, vr = .slice a k c) ∧ ∃ a k c, vb = .slice a k c) :
    CallsIn Fence.wide n Tryz.prog 24 #[.agg #[vg, vr, vb]] w fun e w' => e = .returned (.func (.func 60) #[] #[.pointer (some ⟨w.heap.size, 0, none⟩)]) ∧ w' = w.alloc (.cells #[vg, vr, vb] 26) := by
  obtain ⟨⟨a, k, c, rfl⟩, ⟨a2, k2, c2, rfl⟩, a3, k3, c3, rfl⟩ := h1
  refine callsIn_of_wp Tryz.func24 rfl trivial ?_ rfl
  simp only [Tryz.ntmps24, List.size_toArray, List.length_cons, List.length_nil, Nat.reduceAdd, Nat.reduceSub, Array.replicate_succ, Array.replicate_zero, List.push_toArray, List.append_toArray, List.nil_append, List.cons_append]
  gi_wp2
  go_ret
  exact ⟨rfl, rfl⟩
theorem lines_stops (n : Nat) (hn : 1 ≤ n) (q : Nat) (vg vr vb : Value) (gens : List Int) (rs : List Rw) (bds : List Bd) (w0 w : World) (hq : w.heap[q]? = some (.cells #[vg, vr, vb] 26)) (hW : Below w0.heap.size w0 w) (hg : Ints w0 vg gens) (hr : Reads elRow w0 vr rs) (hb : Reads elBond w0 vb bds) (hf : Fine gens rs bds) (hgl : gens.length ≤ 60) (hv : VarsIs w0) :
    SeqStopsK Fence.wide n Tryz.prog 60 #[.pointer (some ⟨q, 0, none⟩)] (fun x : Ln => #[Value.string (bs x.1)]) (KpL w0.heap.size q) (fun zs => lnOf zs = lnsT gens rs bds) (fun _ => True) (1 + rs.length + bds.length) w := fun l J Jx W hW' hJ _ hY h0 =>
  lines1_in n hn l q _ vg vr vb gens rs bds w0 J Jx hY hJ W (by rw [hW'.block _ (Array.getElem?_eq_some_iff.1 hq).1]; exact hq) (hW.trans (hW'.mono hW.size)) hg hr hb hf hgl hv h0

set_option maxHeartbeats 4000000 in
theorem print_any (vg vr vb : Value) (gens : List Int) (rs : List Rw) (bds : List Bd) (w : World) (hg : Ints w vg gens) (hr : Reads elRow w vr rs) (hb : Reads elBond w vb bds) (hv : VarsIs w) :
    Calls Tryz.prog 8 #[.agg #[vg, vr, vb]] w fun e w' => e = .returned (.tuple #[.string (bs (prT gens rs bds)), .int .i64 (prE gens rs bds)]) ∧ Below w.heap.size w w' := by
  refine (callsIn_wide (n := 3)).1 ?_
  have hro : Fence.wide.round = none := rfl
  have h13 : 1 ≤ 3 := by omega
  obtain ⟨ga, gc, gn, hge⟩ : ∃ a k c, vg = .slice a k c := by
    rcases hg.open.2 with ⟨a, c, e, _⟩ | ⟨b, off, c, e, _⟩
    · exact ⟨_, _, _, e⟩
    · exact ⟨_, _, _, e⟩
  have HG := Lib.hid hg
  have HR := Lib.hid hr
  have HB := Lib.hid hb
  have HV := Lib.hid hv
  obtain ⟨ra, rc, hre, -⟩ := hr
  obtain ⟨ba, bc, hbe, -⟩ := hb
  obtain ⟨N1, hN1⟩ : ∃ n, rs.length = n := ⟨_, rfl⟩
  obtain ⟨N2, hN2⟩ : ∃ n, bds.length = n := ⟨_, rfl⟩
  rw [hN1] at hre
  rw [hN2] at hbe
  have HN1 := Lib.hid hN1
  have HN2 := Lib.hid hN2
  subst hge hre hbe
  have hX : Below w.heap.size w (w.alloc (.cells #[.slice ga gc gn, .slice ra N1 rc, .slice ba N2 bc] 26)) := nb_alloc (Below.refl _ _) _
  have hxb : (w.alloc (.cells #[.slice ga gc gn, .slice ra N1 rc, .slice ba N2 bc] 26)).heap[w.heap.size]? = some (.cells #[.slice ga gc gn, .slice ra N1 rc, .slice ba N2 bc] 26) := heap_alloc_new _ _
  have HX := Lib.hid hX
  have HXB := Lib.hid hxb
  have HZ := Lib.hid (zooLoad_any _ _ _ gens rs bds _ (hg.later hX) (HR.out.later hX) (HB.out.later hX))
  obtain ⟨ze, hze⟩ : ∃ x, zldE gens rs bds = x := ⟨_, rfl⟩
  have HZE := Lib.hid hze
  clear hg hv hX hxb hze hN1 hN2
  refine callsIn_of_wp_marks Tryz.func8 rfl trivial ?_ hro
  simp only [Tryz.ntmps8, List.size_toArray, List.length_cons, List.length_nil, Nat.reduceAdd, Nat.reduceSub, Array.replicate_succ, Array.replicate_zero, List.push_toArray, List.append_toArray, List.nil_append, List.cons_append]
  gi_wp2_with (refine ⟨trivial, ?_⟩; gi_at_call 17; refine (callsIn_wide.2 HZ.out).mono ?_; rintro e w1 ⟨u1, rfl, hb1, hbad1, hgood1⟩; refine Hid.out ?_)
  refine Lib.hid ?_
  rw [HZE.out] at hbad1 hgood1 ⊢
  have HB1 := Lib.hid (nb_trans HX.out hb1)
  have hq : w1.heap[w.heap.size]? = some (.cells #[.slice ga gc gn, .slice ra N1 rc, .slice ba N2 bc] 26) := (hb1.block _ (Array.getElem?_eq_some_iff.1 HXB.out).1).trans HXB.out
  have HQ := Lib.hid hq
  have hql := (Array.getElem?_eq_some_iff.1 hq).1
  clear hq hb1 HZ
  by_cases hz0 : ze = 0
  · subst hz0
    obtain ⟨p, F, rfl, -, -⟩ := hgood1 rfl
    clear hbad1 hgood1
    have c1 : w1.cell? ⟨w.heap.size, 1, none⟩ = some (.slice ra N1 rc) := by rw [cell_of_row _ _ _ _ _ _ HQ.out]; rfl
    have HI := Lib.hid (inOrderR_any _ rs w1 (HR.out.later HB1.out))
    obtain ⟨g1, hg1⟩ : ∃ g, upS rs = g := ⟨_, rfl⟩
    rw [hg1] at HI
    have HG1 := Lib.hid hg1
    clear hg1
    gi_wp2_with (refine ⟨trivial, ?_⟩; gi_at_call 20; refine (callsIn_wide.2 HI.out).mono ?_; rintro e w2 ⟨rfl, hb2⟩; refine Hid.out ?_)
    refine Lib.hid ?_
    have HB2 := Lib.hid (nb_trans HB1.out hb2)
    have hq2 : w2.heap[w.heap.size]? = some (.cells #[.slice ga gc gn, .slice ra N1 rc, .slice ba N2 bc] 26) := (hb2.block _ hql).trans HQ.out
    have HQ2 := Lib.hid hq2
    have hql2 := (Array.getElem?_eq_some_iff.1 hq2).1
    have c2 : w2.cell? ⟨w.heap.size, 2, none⟩ = some (.slice ba N2 bc) := by rw [cell_of_row _ _ _ _ _ _ hq2]; rfl
    have HI2 := Lib.hid (inOrderB_any _ bds w2 (HB.out.later HB2.out))
    obtain ⟨g2, hg2⟩ : ∃ g, upC bds = g := ⟨_, rfl⟩
    rw [hg2] at HI2
    have HG2 := Lib.hid hg2
    have HPE : Hid (prE gens rs bds = if g1 && g2 then 0 else 4) := Lib.hid (by rw [prE, HZE.out, if_pos rfl, HG1.out, HG2.out])
    clear hg2 c1 hb2 hq2 HI
    cases g1
    · have HE : Hid (prT gens rs bds = [] ∧ prE gens rs bds = 4) := Lib.hid (by
        have : prE gens rs bds = 4 := HPE.out
        exact ⟨by rw [prT, this]; rfl, this⟩)
      gi_wp2
      refine ⟨trivial, ?_⟩
      gi_wp2
      refine ⟨_, results_tmp2 rfl _ _ _, ?_⟩
      exact ⟨by rw [HE.out.1, HE.out.2]; rfl, HB2.out⟩
    · gi_wp2_with (refine ⟨trivial, ?_⟩; gi_at_call 22; refine (callsIn_wide.2 HI2.out).mono ?_; rintro e w3 ⟨rfl, hb3⟩; refine Hid.out ?_)
      refine Lib.hid ?_
      have HB3 := Lib.hid (nb_trans HB2.out hb3)
      have hq3 : w3.heap[w.heap.size]? = some (.cells #[.slice ga gc gn, .slice ra N1 rc, .slice ba N2 bc] 26) := (hb3.block _ hql2).trans HQ2.out
      have HQ3 := Lib.hid hq3
      have hql3 := (Array.getElem?_eq_some_iff.1 hq3).1
      clear c2 hb3 hq3 HI2
      cases g2
      · have HE : Hid (prT gens rs bds = [] ∧ prE gens rs bds = 4) := Lib.hid (by
          have : prE gens rs bds = 4 := HPE.out
          exact ⟨by rw [prT, this]; rfl, this⟩)
        gi_wp2
        refine ⟨_, results_tmp2 rfl _ _ _, ?_⟩
        exact ⟨by rw [HE.out.1, HE.out.2]; rfl, HB3.out⟩
      · have HE : Hid (prT gens rs bds = textT gens rs bds ∧ prE gens rs bds = 0) := Lib.hid (by
          have : prE gens rs bds = 0 := HPE.out
          exact ⟨by rw [prT, if_pos this], this⟩)
        obtain ⟨hfine, hgl, hrl, hbl⟩ := Fine.of HZE.out
        have HFI := Lib.hid hfine
        have HLEN := Lib.hid (And.intro hgl (And.intro hrl hbl))
        have c0 : w3.cell? ⟨w.heap.size, 0, none⟩ = some (.slice ga gc gn) := by rw [cell_of_row _ _ _ _ _ _ HQ3.out]; rfl
        have c1 : w3.cell? ⟨w.heap.size, 1, none⟩ = some (.slice ra N1 rc) := by rw [cell_of_row _ _ _ _ _ _ HQ3.out]; rfl
        have c2 : w3.cell? ⟨w.heap.size, 2, none⟩ = some (.slice ba N2 bc) := by rw [cell_of_row _ _ _ _ _ _ HQ3.out]; rfl
        clear hfine hgl hrl hbl
        gi_wp2_with (refine ⟨trivial, ?_⟩; gi_at_call 24; refine (lines_in _ _ _ _ _ ⟨⟨_, _, _, rfl⟩, ⟨_, _, _, rfl⟩, _, _, _, rfl⟩).mono ?_; rintro e w4 ⟨rfl, rfl⟩; refine Hid.out ?_)
        refine Lib.hid ?_
        gi_wp2
        have hW4 : Below w3.heap.size w3 ((w3.alloc (.cells #[.pointer none, .slice none 0 0] 63)).alloc (.cells #[.slice ga gc gn, .slice ra N1 rc, .slice ba N2 bc] 26)) := nb_alloc (nb_alloc (Below.refl _ _) _) _
        have hsz4 : ((w3.alloc (.cells #[.pointer none, .slice none 0 0] 63)).alloc (.cells #[.slice ga gc gn, .slice ra N1 rc, .slice ba N2 bc] 26)).heap.size = w3.heap.size + 2 := by simp
        have hq4 := heap_alloc2_new w3 (.cells #[.pointer none, .slice none 0 0] 63) (.cells #[.slice ga gc gn, .slice ra N1 rc, .slice ba N2 bc] 26)
        have hI4 : IsB w3.heap.size w3.heap.size (txt []) ((w3.alloc (.cells #[.pointer none, .slice none 0 0] 63)).alloc (.cells #[.slice ga gc gn, .slice ra N1 rc, .slice ba N2 bc] 26)) := (Lib.IsBuilderF.of (Lib.fresh_isBuilder 63 5 w3)).alloc _
        have HLN := HLEN.out
        clear c0 c1 c2
        generalize (w3.alloc (.cells #[.pointer none, .slice none 0 0] 63)).alloc (.cells #[.slice ga gc gn, .slice ra N1 rc, .slice ba N2 bc] 26) = W0 at *
        refine wpIn_rangeFunc_ownH hro h13 (gf := 60) (lb := #[.pointer (some ⟨w3.heap.size + 1, 0, none⟩)]) rfl trivial (enters_of Tryz.func60 (by kernel_rfl) rfl)
          (lines_stops (3 - 1) (by omega) (w3.heap.size + 1) _ _ _ gens rs bds w3 W0 hq4 hW4 (HG.out.later HB3.out) (HR.out.later HB3.out) (HB.out.later HB3.out) HFI.out HLN.1 (HV.out.later HB3.out)) KpL.trans (KpL.put (by omega) (by omega)) (Below.refl _ _) (fun _ => rfl)
          (fun pre W => (IsB w3.heap.size w3.heap.size (txt pre) W ∧ W.heap[w3.heap.size + 1]? = some (.cells #[.slice ga gc gn, .slice ra N1 rc, .slice ba N2 bc] 26)) ∧ Below w3.heap.size w3 W)
          (fun _ _ _ => False)
          (OwnFrom.and (fun s A B row hs hg hr => ⟨hs.1.turned hg (fun r e => (hr r e).2), own_block hs.2 hg hr (by omega)⟩) (ownFrom_below (Nat.le_refl _) (by omega)))
          (fun _ _ _ _ _ hs _ _ => hs)
          ⟨⟨hI4, hq4⟩, hW4⟩
          (fun x a' _ => a' = { tmps := #[.agg #[.slice ga gc gn, .slice ra N1 rc, .slice ba N2 bc], .pointer (some ⟨w.heap.size, 0, none⟩), .string { data := #[] }, .int .i64 0, .pointer (some ⟨p, 0, none⟩), .int .i64 0, .pointer (some ⟨w3.heap.size, 0, none⟩), .string (bs x.1), .tuple #[.pointer (some ⟨p, 0, none⟩), .int .i64 0], .agg #[.slice ga gc gn, .slice ra N1 rc, .slice ba N2 bc], .tuple #[.pointer (some ⟨p, 0, none⟩), .int .i64 0], .pointer (some ⟨p, 0, none⟩), .int .i64 0, .int .i64 0, .bool false, undef, .pointer (some ⟨w.heap.size, 1, none⟩), .slice ra N1 rc, .bool true, .bool false, .bool false, .pointer (some ⟨w.heap.size, 2, none⟩), .slice ba N2 bc, .bool true, .bool false, .bool false, .agg #[.slice ga gc gn, .slice ra N1 rc, .slice ba N2 bc], .func (.func 60) #[] #[.pointer (some ⟨w3.heap.size + 1, 0, none⟩)], .string (bs x.1), undef, undef, undef, undef], defers := [] })
          (fun _ _ _ _ _ _ hs _ _ => hs) ?assign ?body ?done ?stop
        case assign =>
          rintro l pre x W K ⟨⟨hi1, hi2⟩, hi3⟩ hK
          have HI := Lib.hid (And.intro (And.intro hi1 hi2) hi3)
          clear hi1 hi2 hi3
          gi_wp2
          exact hK _ _ (KeepsFrom.refl _ _) (KpL.refl _ _ _) HI.out rfl
        case body =>
          rintro l pre x a' W hl ⟨r, hr⟩ ⟨⟨hi1, hi2⟩, hi3⟩ rfl hlt
          have htl := txt_len pre
          have hxl := x.2
          obtain ⟨t, ht⟩ : ∃ t, txt pre = t := ⟨_, rfl⟩
          have HT : Hid (txt (pre ++ [x]) = (t ++ x.1) ++ [10]) := Lib.hid (by rw [txt_snoc, ht])
          rw [ht] at htl hi1
          have HTL : Hid (t.length + 2001 ≤ 1000000) := Lib.hid (by omega)
          have hnc := hi1.cells
          have HI1 := Lib.hid hi1
          have HI2 := Lib.hid hi2
          have HI3 := Lib.hid hi3
          have HNC := Lib.hid hnc
          obtain ⟨x, hx⟩ := x
          dsimp only at *
          have HXL := Lib.hid hx
          clear hi1 hi2 hi3 ht htl hxl hr hlt hnc
          gi_wp2_with (refine ⟨trivial, ?_⟩; gi_at_call 25; refine (CallsIn.inRound l (callsIn_wide.2 (bldString w3.heap.size w3.heap.size t x W HI1.out (by have := HTL.out; have := HXL.out; omega) HI3.out.size))).mono ?_; rintro e W1 ⟨rfl, hj1, hb1, ho1⟩; refine Hid.out ?_)
          refine Lib.hid ?_
          have HJ1 := Lib.hid hj1
          have HB1' := Lib.hid hb1
          have HO1 := Lib.hid ho1
          clear hj1 hb1 ho1
          gi_wp2_with (refine ⟨trivial, ?_⟩; gi_at_call 26; refine (CallsIn.inRound l (callsIn_wide.2 (bldByte w3.heap.size w3.heap.size (t ++ x) 10 W1 HJ1.out (by have := HTL.out; have := HXL.out; rw [List.length_append]; omega) (by have := HI3.out.size; have := HB1'.out.size; omega)))).mono ?_; rintro e W2 ⟨rfl, hj2, hb2, ho2⟩; refine Hid.out ?_)
          refine Lib.hid ?_
          have HJ2 := Lib.hid hj2
          have HB2' := Lib.hid (HB1'.out.trans hb2)
          have HO2 := Lib.hid (HO1.out.trans ho2)
          clear hj2 hb2 ho2
          gi_wp2
          have hq6 : W2.heap[w3.heap.size + 1]? = some (.cells #[.slice ga gc gn, .slice ra N1 rc, .slice ba N2 bc] 26) := HO2.out _ _ HI2.out (by simp) (by intro c fz e; cases e)
          refine ⟨⟨HB2'.out.size, fun k o hB ho hc => HO2.out _ _ ho (fun e => ?_) (fun c fz e => by subst e; cases hc)⟩, ⟨HB2'.out, by rw [hq6]; exact HI2.out.symm⟩, ⟨by rw [HT.out]; exact HJ2.out, hq6⟩, HI3.out.trans HB2'.out⟩
          obtain ⟨c, hcc⟩ := HNC.out
          simp only [Option.some.injEq] at e
          subst e
          rw [hcc] at ho; cases ho; cases hc
        case done =>
          rintro D ys W hD hS ⟨⟨hi1, hi2⟩, hi3⟩ hK
          have HTT : Hid (txt ys = textT gens rs bds) := Lib.hid (by rw [txt, hS, textT])
          rw [HTT.out] at hi1
          have HI1 := Lib.hid hi1
          have HI3 := Lib.hid hi3
          have HK := Lib.hid hK
          obtain ⟨c, hcc⟩ := hi1.cells
          have HNC := Lib.hid hcc
          clear hi1 hi2 hi3 hK hS hcc
          gi_wp2_with (refine ⟨trivial, ?_⟩; gi_at_call 27; refine (callsIn_wide.2 (bldRead w3.heap.size w3.heap.size (textT gens rs bds) W HI1.out HI3.out.size)).mono ?_; rintro e W1 ⟨rfl, -, hb1, ho1⟩; refine Hid.out ?_)
          refine Lib.hid ?_
          have HB5 : Hid (Below w.heap.size w W1) := Lib.hid (nb_trans HB3.out (HI3.out.trans hb1))
          have hK5 : W1.heap[D]? = some (.deferred (some [])) := ho1 _ _ HK.out (fun e => by simp only [Option.some.injEq] at e; subst e; have h1 := HNC.out; rw [HK.out] at h1; cases h1) (fun c fz e => by cases e)
          have HK5 := Lib.hid hK5
          clear hb1 ho1 hK5
          gi_wp2
          refine ⟨by simp, .inl ⟨_, _, rfl, run_takeDeferred HK5.out, ?_⟩⟩
          refine ⟨_, results_tmp2 rfl _ _ _, ?_⟩
          refine ⟨by rw [HE.out.1, HE.out.2]; rfl, HB5.out.trans ((Kept.grown (F := fun i => i = D) (grownBy_putObj' W1 D (.deferred none)) (fun i e => by cases e; rfl)).below HB5.out.size (fun i e => by have := HB3.out.size; omega))⟩
        case stop =>
          rintro D c pre W _ _ h _
          exact h.elim
  · obtain rfl := hbad1 hz0
    have hze : (ze == 0) = false := by simp [hz0]
    have HE : Hid (prT gens rs bds = [] ∧ prE gens rs bds = ze) := Lib.hid (by
      have : prE gens rs bds = ze := by rw [prE, HZE.out, if_neg hz0]
      exact ⟨by rw [prT, this, if_neg hz0], this⟩)
    clear hgood1 hbad1
    gi_wp2
    refine ⟨_, results_tmp2 rfl _ _ _, ?_⟩
    exact ⟨by rw [HE.out.1, HE.out.2]; rfl, HB1.out⟩
end Go.Proofs.YtndhomjfjhohoaaGreatDoor

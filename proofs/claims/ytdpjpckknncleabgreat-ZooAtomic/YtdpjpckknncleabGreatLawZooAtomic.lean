/- All or nothing: if one of a list has an error nothing is changed; else it is as if they were done one by one: the statement ZooAtomic. No condition. -/
import Derived.Test.YtdpjpckknncleabGreatGroundA
import Derived.Test.YtdpjpckknncleabGreatZooAgain
namespace Go.Proofs.YtdpjpckknncleabGreat
set_option maxRecDepth 8000
open Go.ChangeShapes Go.WideShapes Go.ChangeAt Go.RowKit
set_option linter.unusedVariables false

/-- What the rounds keep: the zoo to be compared with, the zoo in which all is done again, what has been spawned. -/
structure AtoI (w : World) (p q B : Nat) (sf s : Zs) (os : List Opm) (t : Nat) (F G : Nat → Prop) (u : Value) (wr : World) : Prop where
  zf : PzAt wr p F sf
  zq : PzAt wr q G (runA (s, []) (os.take t)).1
  box : wr.heap[B]? = some (.cells #[u] 55)
  sp : OwnsF elHand wr w.heap.size 34 u (runA (s, []) (os.take t)).2
  apu : ∀ k, u.ownBlock = some k → ¬ F k ∧ ¬ G k ∧ k ≠ B
  apB : ¬ F B ∧ ¬ G B
  ap : ∀ b, F b → ¬ G b
  geG : ∀ b, G b → w.heap.size ≤ b
  geB : w.heap.size ≤ B
  bel : Below w.heap.size w wr
theorem AtoI.later {w wr W : World} {p q B : Nat} {sf s : Zs} {os : List Opm} {t : Nat} {F G : Nat → Prop} {u : Value} (h : AtoI w p q B sf s os t F G u wr) (hb : Below wr.heap.size wr W) : AtoI w p q B sf s os t F G u W :=
  ⟨h.zf.later hb, h.zq.later hb, (hb.block _ (Array.getElem?_eq_some_iff.1 h.box).1).trans h.box, h.sp.later hb, h.apu, h.apB, h.ap, h.geG, h.geB, nb_trans h.bel hb⟩
/-- An operation has been done again. -/
theorem AtoI.did {w wr W : World} {p q B : Nat} {sf s : Zs} {os : List Opm} {t : Nat} {F G G' : Nat → Prop} {u : Value} {zs : Zs} {sp : List Hd} (h : AtoI w p q B sf s os t F G u wr) (hz : PzAt W q G' zs) (hk : Kept G wr W) (hm : Moves wr G G') (he : runA (s, []) (os.take (t + 1)) = (zs, sp)) (hs : (runA (s, []) (os.take t)).2 = sp) : AtoI w p q B sf s os (t + 1) F G' u W := by
  have hFl := h.zf.lt
  have hBl := (Array.getElem?_eq_some_iff.1 h.box).1
  refine ⟨h.zf.kept hk (fun b hb hg => h.ap b hb hg), by rw [he]; exact hz, (hk.block _ hBl h.apB.2).trans h.box, by rw [he, ← hs]; exact h.sp.kept hk (fun k e => (h.apu k e).2.1), fun k e => ⟨(h.apu k e).1, fun hg => (hm k hg).elim (h.apu k e).2.1 (fun e2 => by have := h.sp.lt e; omega), (h.apu k e).2.2⟩, ⟨h.apB.1, fun hg => (hm B hg).elim h.apB.2 (fun e2 => by omega)⟩, fun b hb hg => (hm b hg).elim (h.ap b hb) (fun e2 => by have := hFl b hb; omega), hm.above h.bel.size h.geG, h.geB, h.bel.trans (hk.below h.bel.size h.geG)⟩
/-- A block of its own has been turned. -/
theorem AtoI.store {w wr W : World} {p q B c : Nat} {sf s : Zs} {os : List Opm} {t : Nat} {F G : Nat → Prop} {u : Value} (h : AtoI w p q B sf s os t F G u wr) (hk : Kept (fun b => b = c) wr W) (h1 : ¬ F c) (h2 : ¬ G c) (h3 : c ≠ B) (h4 : u.ownBlock ≠ some c) (h5 : w.heap.size ≤ c) : AtoI w p q B sf s os t F G u W :=
  ⟨h.zf.kept hk (fun b hb e => h1 (e ▸ hb)), h.zq.kept hk (fun b hb e => h2 (e ▸ hb)), (hk.block _ (Array.getElem?_eq_some_iff.1 h.box).1 (Ne.symm h3)).trans h.box, h.sp.kept hk (fun k e e2 => h4 (e2 ▸ e)), h.apu, h.apB, h.ap, h.geG, h.geB, h.bel.trans (hk.below h.bel.size (fun b e => by omega))⟩
theorem all_zero {s : Zs} {os : List Opm} (h : allE s os = 0) : os.length ≤ 80 ∧ okAll (s, []) os os.length ∧ allN s os = os.length ∧ allZ s os = (runA (s, []) os).1 := by
  have hl : os.length ≤ 80 := Classical.byContradiction fun hn => by rw [(allE_large hn).1] at h; cases h
  have hok : okAll (s, []) os os.length := by rw [allE, if_pos hl] at h; exact allR_zero h
  obtain ⟨-, h2, h3⟩ := all_end hl hok
  exact ⟨hl, hok, h2, h3⟩

set_option maxRecDepth 100000 in
set_option maxHeartbeats 16000000 in
theorem zooAtomic_walk (u0 : Value) (z0 : List Opm) (j0 : ∀ x ∈ z0, OpOk x) (u1 : Value) (z1 : List Opm) (j1 : ∀ x ∈ z1, OpOk x) (w : World) (i0 : Reads elOp w u0 z0) (i1 : Reads elOp w u1 z1) :
    Calls Tryz.prog 4 #[u0, u1] w fun e w' => e = .returned (.bool true) ∧ Below w.heap.size w w' := by
  obtain ⟨i0', hi, hz0, hz1, hz2⟩ := info_parts infoHand
  have HR0 := Lib.hid i0
  have HR1 := Lib.hid i1
  have HOS0 := Lib.hid j0
  have HOS1 := Lib.hid j1
  obtain ⟨aa, ac, hae, -⟩ := i0
  subst hae
  obtain ⟨oa, oc, hbe, hlc, hm, hcc⟩ := i1
  subst hbe
  unfold maxLen at hm
  obtain ⟨n, hn⟩ : ∃ n, z1.length = n := ⟨_, rfl⟩
  have HN := Lib.hid hn
  have HC := Lib.hid hcc
  rw [hn] at hlc HC HR1 ⊢
  clear j0 j1 hcc hn
  go_enter Tryz.func4, Tryz.ntmps4
  go_wp2_with fail
  refine (kept_any _).mono ?_
  rintro e w1 ⟨rfl, hb1⟩
  have HB1 := Lib.hid hb1
  clear hb1
  go_wp2_with fail
  refine (done_any _ z0 _ (HR0.out.later HB1.out) HOS0.out).mono ?_
  rintro e w2 ⟨p, F, rfl, hz, hF, hb2⟩
  have HZ := Lib.hid hz
  have HF := Lib.hid hF
  have HB2 := Lib.hid (nb_trans HB1.out hb2)
  have HOK : Hid (ZOk (doneZ z0)) := Lib.hid (ZOk.done z0)
  clear hz hF hb2
  obtain ⟨s, hs⟩ : ∃ s, doneZ z0 = s := ⟨_, rfl⟩
  rw [hs] at HZ HOK
  clear hs
  go_wp2_with fail
  refine (zooState_any p F s _ HZ.out HOK.out).mono ?_
  rintro e w3 ⟨vg, vr, vb, rfl, hst, hb3⟩
  have HST := Lib.hid hst
  have HB23 := Lib.hid hb3
  have HB3 := Lib.hid (nb_trans HB2.out hb3)
  obtain ⟨g1, g2, rfl, -⟩ := hst.g.reads
  obtain ⟨r1, r2, rfl, -⟩ := hst.r.reads
  obtain ⟨b1, b2, rfl, -⟩ := hst.b.reads
  have HA : Hid (Below w3.heap.size w3 (w3.alloc (.cells #[.slice g1 (gensL s.l).length g2, .slice r1 s.rows.length r2, .slice b1 s.bs.length b2] 30))) := Lib.hid (nb_alloc (Below.refl _ _) _)
  have HAB : Hid ((w3.alloc (.cells #[.slice g1 (gensL s.l).length g2, .slice r1 s.rows.length r2, .slice b1 s.bs.length b2] 30)).heap[w3.heap.size]? = some (.cells #[.slice g1 (gensL s.l).length g2, .slice r1 s.rows.length r2, .slice b1 s.bs.length b2] 30)) := Lib.hid (heap_alloc_new _ _)
  clear hst hb3
  go_wp2_with fail
  generalize w3.alloc (.cells #[.slice g1 (gensL s.l).length g2, .slice r1 s.rows.length r2, .slice b1 s.bs.length b2] 30) = A at *
  refine (zooAll_any p F s _ z1 _ (HZ.out.later (nb_trans HB23.out HA.out)) HOK.out (HR1.out.later (nb_trans HB3.out HA.out)) HOS1.out).mono ?_
  rintro e w5 hp
  obtain ⟨ae, hae⟩ : ∃ x, allE s z1 = x := ⟨_, rfl⟩
  obtain ⟨an, han⟩ : ∃ x, allN s z1 = x := ⟨_, rfl⟩
  obtain ⟨sf, hsf⟩ : ∃ x, allZ s z1 = x := ⟨_, rfl⟩
  have HOKF : Hid (ZOk sf) := Lib.hid (by rw [← hsf]; exact HOK.out.all z1)
  have hanN : an ≤ n := by rw [← han, ← HN.out]; exact allN_le s z1
  rw [hae, han, hsf] at hp
  obtain ⟨rfl, F5, hz5, hk5, hm5⟩ := hp
  have HFW : Hid (∀ b, F b → b < w2.heap.size) := Lib.hid HZ.out.lt
  have HWA : Hid (Below w.heap.size w A) := Lib.hid (nb_trans HB3.out HA.out)
  have HB5 : Hid (Below w.heap.size w w5) := Lib.hid (HWA.out.trans (hk5.below HWA.out.size (fun b hb => by have := HF.out b hb; have := HB1.out.size; omega)))
  have hqs : w5.heap[w3.heap.size]? = some (.cells #[.slice g1 (gensL s.l).length g2, .slice r1 s.rows.length r2, .slice b1 s.bs.length b2] 30) := (hk5.block _ (Array.getElem?_eq_some_iff.1 HAB.out).1 (fun e => by have := HFW.out _ e; have := HB23.out.size; omega)).trans HAB.out
  have HST5 : Hid (StIs w5 w2.heap.size (.slice g1 (gensL s.l).length g2) (.slice r1 s.rows.length r2) (.slice b1 s.bs.length b2) s) := Lib.hid ((HST.out.later HA.out).kept hk5 (fun b h1 _ e => by have := HFW.out b e; omega))
  have HZ5 := Lib.hid hz5
  have HGE5 : Hid (∀ b, F5 b → w.heap.size ≤ b) := Lib.hid (fun b hb => (hm5 b hb).elim (fun e => by have := HF.out b e; have := HB1.out.size; omega) (fun e => Nat.le_trans HWA.out.size e))
  have s0 : w5.cell? ⟨w3.heap.size, 0, none⟩ = some (.slice g1 (gensL s.l).length g2) := (cell_of_row _ _ _ _ _ _ hqs).trans rfl
  have s1 : w5.cell? ⟨w3.heap.size, 1, none⟩ = some (.slice r1 s.rows.length r2) := (cell_of_row _ _ _ _ _ _ hqs).trans rfl
  have s2 : w5.cell? ⟨w3.heap.size, 2, none⟩ = some (.slice b1 s.bs.length b2) := (cell_of_row _ _ _ _ _ _ hqs).trans rfl
  have lq := (Array.getElem?_eq_some_iff.1 hqs).1
  have HC0 : Hid (w5.cell? ⟨w3.heap.size, 0, none⟩ = some (.slice g1 (gensL s.l).length g2) ∧ w5.cell? ⟨w3.heap.size, 1, none⟩ = some (.slice r1 s.rows.length r2) ∧ w5.cell? ⟨w3.heap.size, 2, none⟩ = some (.slice b1 s.bs.length b2)) := Lib.hid ⟨s0, s1, s2⟩
  clear hz5 hk5 hm5 hqs
  by_cases ha0 : ae = 0
  · subst ha0
    obtain ⟨h80, hoka, hann, hzz⟩ := all_zero hae
    rw [HN.out] at h80
    have HOKA : Hid (okAll (s, []) z1 n) := Lib.hid (by rw [← HN.out]; exact hoka)
    have HSF : Hid (sf = (runA (s, []) z1).1) := Lib.hid (by rw [← hsf]; exact hzz)
    obtain rfl : n = an := by rw [← han, hann, HN.out]
    have HBK := Lib.hid HOK.out.back
    clear hae han hsf hoka hann hzz
    go_wp2_with fail
    refine (zooLoad_any _ _ _ (gensL s.l) s.rows s.bs _ (Ints.ofReads HST5.out.g.reads) HST5.out.r.reads HST5.out.b.reads).mono ?_
    rintro e w6 ⟨u6, rfl, hb6, -, hgood⟩
    obtain ⟨q, G6, rfl, hq6, hG6⟩ := hgood HBK.out.1
    rw [HBK.out.2] at hq6
    rw [HBK.out.1]
    have HI0 : Hid (AtoI w p q w6.heap.size sf s z1 0 F5 G6 (.slice none 0 0) (w6.alloc (.cells #[.slice none 0 0] 55))) := Lib.hid (by
      have hb7 : Below w6.heap.size w6 (w6.alloc (.cells #[.slice none 0 0] 55)) := nb_alloc (Below.refl _ _) _
      have h5 := HZ5.out.lt
      have hs5 := hb6.size
      refine ⟨(HZ5.out.later hb6).later hb7, hq6.later hb7, heap_alloc_new _ _, OwnsF.nil _ _ _ _, fun k e => by simp [Value.ownBlock] at e, ⟨fun e => by have := h5 _ e; omega, fun e => by have := hq6.lt _ e; omega⟩, fun b hb hg => by have := h5 b hb; have := hG6 b hg; omega, fun b hg => Nat.le_trans HB5.out.size (hG6 b hg), Nat.le_trans HB5.out.size hs5, nb_trans HB5.out (nb_trans hb6 hb7)⟩)
    clear hgood hq6 hG6 hb6 s0 s1 s2
    obtain ⟨B, hB⟩ : ∃ B, w6.heap.size = B := ⟨_, rfl⟩
    go_wp2
    rw [hB] at HI0
    generalize w6.alloc (.cells #[.slice none 0 0] 55) = W7 at *
    clear hB
    go_loopw [67] (fun i wr => ∃ (t : Nat) (G : Nat → Prop) (u : Value), t ≤ n ∧ i = .int .i64 t ∧ Hid (AtoI w p q B sf s z1 t F5 G u wr)) (fun i _ => n - (intOf i).toNat)
    case atStart => exact ⟨0, _, _, by omega, rfl, HI0⟩
    case round =>
      obtain ⟨t, G, u, htn, rfl, hI⟩ := hrel
      by_cases hlt : t < n
      · obtain ⟨bb, off, rfl, hbb, hck⟩ := HC.out t hlt
        obtain ⟨o, ho⟩ : ∃ o, z1.getD t opZ = o := ⟨_, rfl⟩
        have htl : t < z1.length := by rw [HN.out]; exact hlt
        have hcr : ∀ jj, jj < 16 → wr.cell? ⟨bb, off + t * 16 + jj, none⟩ = (elOp.enc o)[jj]? := fun jj hjj => by rw [hI.out.bel.cell (p := ⟨bb, _, none⟩) hbb, ← ho]; exact hck jj hjj
        have c0 : wr.cell? ⟨bb, off + t * 16, none⟩ = some (.int .i64 o.d) := hcr 0 (by decide)
        have c1 : wr.cell? ⟨bb, off + t * 16 + 1, none⟩ = some (.int .i64 o.m) := hcr 1 (by decide)
        have c2 : wr.cell? ⟨bb, off + t * 16 + 2, none⟩ = some (.int .i64 (o.f 0)) := hcr 2 (by decide)
        have c3 : wr.cell? ⟨bb, off + t * 16 + 3, none⟩ = some (.int .i64 (o.f 1)) := hcr 3 (by decide)
        have c4 : wr.cell? ⟨bb, off + t * 16 + 4, none⟩ = some (.int .i64 (o.f 2)) := hcr 4 (by decide)
        have c5 : wr.cell? ⟨bb, off + t * 16 + 5, none⟩ = some (.int .i64 (o.f 3)) := hcr 5 (by decide)
        have c6 : wr.cell? ⟨bb, off + t * 16 + 6, none⟩ = some (.int .i64 (o.f 4)) := hcr 6 (by decide)
        have c7 : wr.cell? ⟨bb, off + t * 16 + 7, none⟩ = some (.int .i64 (o.f 5)) := hcr 7 (by decide)
        have c8 : wr.cell? ⟨bb, off + t * 16 + 8, none⟩ = some (.int .i64 (o.f 6)) := hcr 8 (by decide)
        have c9 : wr.cell? ⟨bb, off + t * 16 + 9, none⟩ = some (.int .i64 (o.f 7)) := hcr 9 (by decide)
        have c10 : wr.cell? ⟨bb, off + t * 16 + 10, none⟩ = some (.int .i64 o.a) := hcr 10 (by decide)
        have c11 : wr.cell? ⟨bb, off + t * 16 + 11, none⟩ = some (.int .i64 o.b) := hcr 11 (by decide)
        have c12 : wr.cell? ⟨bb, off + t * 16 + 12, none⟩ = some (.int .i64 o.ta) := hcr 12 (by decide)
        have c13 : wr.cell? ⟨bb, off + t * 16 + 13, none⟩ = some (.int .i64 o.tb) := hcr 13 (by decide)
        have c14 : wr.cell? ⟨bb, off + t * 16 + 14, none⟩ = some (.int .i64 o.k) := hcr 14 (by decide)
        have c15 : wr.cell? ⟨bb, off + t * 16 + 15, none⟩ = some (.int .i64 o.n) := hcr 15 (by decide)
        have HOP : Hid (OpOk o) := Lib.hid (HOS1.out o (by rw [← ho]; exact memD htl))
        have HSPK := Lib.hid (runA_ok HOK.out HOS1.out t (by omega) (fun j hj => HOKA.out j (by omega)))
        have HZT : Hid (ZOk (runA (s, []) (z1.take t)).1) := Lib.hid (ZOk.runA (x := (s, [])) HOK.out)
        have HNXT := Lib.hid (runA_next (s, []) htl ho)
        have HAG := Lib.hid (again (by have := HOKA.out t hlt; rw [ho] at this; exact this))
        obtain ⟨x, hxe⟩ : ∃ x, runA (s, []) (z1.take t) = x := ⟨_, rfl⟩
        have HXE := Lib.hid hxe
        rw [hxe] at HSPK HZT HNXT HAG
        obtain ⟨zs, sp⟩ := x
        have hbw : bb < wr.heap.size := Nat.lt_of_lt_of_le hbb hI.out.bel.size
        have hspl : sp.length ≤ 80 := by have : sp.length ≤ t := HSPK.out.2; omega
        have HA1 : Hid (Below wr.heap.size wr (wr.alloc (.cells #[.int .i64 o.d, .int .i64 o.m, .int .i64 (o.f 0), .int .i64 (o.f 1), .int .i64 (o.f 2), .int .i64 (o.f 3), .int .i64 (o.f 4), .int .i64 (o.f 5), .int .i64 (o.f 6), .int .i64 (o.f 7), .int .i64 o.a, .int .i64 o.b, .int .i64 o.ta, .int .i64 o.tb, .int .i64 o.k, .int .i64 o.n] 47))) := Lib.hid (nb_alloc (Below.refl _ _) _)
        have HA2 : Hid ((wr.alloc (.cells #[.int .i64 o.d, .int .i64 o.m, .int .i64 (o.f 0), .int .i64 (o.f 1), .int .i64 (o.f 2), .int .i64 (o.f 3), .int .i64 (o.f 4), .int .i64 (o.f 5), .int .i64 (o.f 6), .int .i64 (o.f 7), .int .i64 o.a, .int .i64 o.b, .int .i64 o.ta, .int .i64 o.tb, .int .i64 o.k, .int .i64 o.n] 47)).heap[wr.heap.size]? = some (.cells #[.int .i64 o.d, .int .i64 o.m, .int .i64 (o.f 0), .int .i64 (o.f 1), .int .i64 (o.f 2), .int .i64 (o.f 3), .int .i64 (o.f 4), .int .i64 (o.f 5), .int .i64 (o.f 6), .int .i64 (o.f 7), .int .i64 o.a, .int .i64 o.b, .int .i64 o.ta, .int .i64 o.tb, .int .i64 o.k, .int .i64 o.n] 47)) := Lib.hid (heap_alloc_new _ _)
        have HOPL : Hid (OpOk (lookO sp o)) := Lib.hid (lookO_ok HSPK.out.1 HOP.out)
        have HLTG : Hid (∀ b, G b → b < wr.heap.size) := Lib.hid hI.out.zq.lt
        have hBw := (Array.getElem?_eq_some_iff.1 hI.out.box).1
        clear hcr hck ho htl hxe
        cases hd1 : (o.d == 1)
        · as_aux_lemma =>
          have hne : ¬ o.d = 1 := by simpa using hd1
          obtain ⟨⟨p1, p2⟩, hp⟩ : ∃ x, lookH sp (o.a, o.b) = x := ⟨_, rfl⟩
          obtain ⟨⟨q1, q2⟩, hq⟩ : ∃ x, lookH sp (o.ta, o.tb) = x := ⟨_, rfl⟩
          have HP := Lib.hid hp
          have HQ := Lib.hid hq
          have hlo : lookO sp o = ⟨o.d, o.m, o.f, p1, p2, q1, q2, o.k, o.n⟩ := by rw [lookO, if_neg hne, hp, hq]; rfl
          rw [hlo] at HAG HOPL
          have HNE := Lib.hid hne
          clear hp hq hlo hne
          go_wp2_with fail
          generalize wr.alloc (.cells #[.int .i64 o.d, .int .i64 o.m, .int .i64 (o.f 0), .int .i64 (o.f 1), .int .i64 (o.f 2), .int .i64 (o.f 3), .int .i64 (o.f 4), .int .i64 (o.f 5), .int .i64 (o.f 6), .int .i64 (o.f 7), .int .i64 o.a, .int .i64 o.b, .int .i64 o.ta, .int .i64 o.tb, .int .i64 o.k, .int .i64 o.n] 47) = A at *
          clear c0 c1 c2 c3 c4 c5 c6 c7 c8 c9 c10 c11 c12 c13 c14 c15
          have hqa := HA2.out
          have k10 : A.cell? ⟨wr.heap.size, 10, none⟩ = some (.int .i64 o.a) := (cell_of_row _ _ _ _ _ _ hqa).trans rfl
          have k11 : A.cell? ⟨wr.heap.size, 11, none⟩ = some (.int .i64 o.b) := (cell_of_row _ _ _ _ _ _ hqa).trans rfl
          have k12 : A.cell? ⟨wr.heap.size, 12, none⟩ = some (.int .i64 o.ta) := (cell_of_row _ _ _ _ _ _ hqa).trans rfl
          have k13 : A.cell? ⟨wr.heap.size, 13, none⟩ = some (.int .i64 o.tb) := (cell_of_row _ _ _ _ _ _ hqa).trans rfl
          have la := (Array.getElem?_eq_some_iff.1 hqa).1
          have HBX : Hid (∀ Y, Below A.heap.size A Y → Y.heap[B]? = some (.cells #[u] 55) ∧ Reads elHand Y u sp) := Lib.hid (fun Y hY => by
            have h1 := hI.out.later (nb_trans HA1.out hY)
            have h2 := h1.sp.reads
            rw [HXE.out] at h2
            exact ⟨h1.box, h2⟩)
          clear hqa
          go_region_with (first
            | (go_at_call 15; with_reducible refine (again1_any B u sp o.a o.b A.drew (HBX.out A.drew (Below.refl _ _).drew).1 (HBX.out A.drew (Below.refl _ _).drew).2 hspl).mono ?_; rintro e x1 ⟨he, hx1⟩; rw [HP.out] at he; subst he; have HX1 : Hid (Below A.heap.size A x1) := Lib.hid (nb_trans (Below.refl A.heap.size A).drew hx1); have hqx : x1.heap[wr.heap.size]? = some (.cells #[.int .i64 o.d, .int .i64 o.m, .int .i64 (o.f 0), .int .i64 (o.f 1), .int .i64 (o.f 2), .int .i64 (o.f 3), .int .i64 (o.f 4), .int .i64 (o.f 5), .int .i64 (o.f 6), .int .i64 (o.f 7), .int .i64 o.a, .int .i64 o.b, .int .i64 o.ta, .int .i64 o.tb, .int .i64 o.k, .int .i64 o.n] 47) := (HX1.out.block _ la).trans HA2.out; have l1 := (Array.getElem?_eq_some_iff.1 hqx).1; have m10 : x1.cell? ⟨wr.heap.size, 10, none⟩ = some (.int .i64 o.a) := (cell_of_row _ _ _ _ _ _ hqx).trans rfl; have m11 : x1.cell? ⟨wr.heap.size, 11, none⟩ = some (.int .i64 o.b) := (cell_of_row _ _ _ _ _ _ hqx).trans rfl; have m12 : x1.cell? ⟨wr.heap.size, 12, none⟩ = some (.int .i64 o.ta) := (cell_of_row _ _ _ _ _ _ hqx).trans rfl; have m13 : x1.cell? ⟨wr.heap.size, 13, none⟩ = some (.int .i64 o.tb) := (cell_of_row _ _ _ _ _ _ hqx).trans rfl; clear hx1 hqx)
            | (go_at_call 15; with_reducible refine (again1_any B u sp o.ta o.tb x1 (HBX.out x1 HX1.out).1 (HBX.out x1 HX1.out).2 hspl).mono ?_; rintro e x2 ⟨he, hx2⟩; rw [HQ.out] at he; subst he; have HX2 : Hid (Below A.heap.size A x2) := Lib.hid (nb_trans HX1.out hx2); have hqx : x2.heap[wr.heap.size]? = some (.cells #[.int .i64 o.d, .int .i64 o.m, .int .i64 (o.f 0), .int .i64 (o.f 1), .int .i64 (o.f 2), .int .i64 (o.f 3), .int .i64 (o.f 4), .int .i64 (o.f 5), .int .i64 (o.f 6), .int .i64 (o.f 7), .int .i64 o.a, .int .i64 o.b, .int .i64 o.ta, .int .i64 o.tb, .int .i64 o.k, .int .i64 o.n] 47) := (HX2.out.block _ la).trans HA2.out; have l2 := (Array.getElem?_eq_some_iff.1 hqx).1; have fz : ∀ j, x2.frozen? ⟨wr.heap.size, j, none⟩ = false := fun j => frozen_of_row _ _ _ _ _ hqx; have n10 : x2.cell? ⟨wr.heap.size, 10, none⟩ = some (.int .i64 o.a) := (cell_of_row _ _ _ _ _ _ hqx).trans rfl; have n11 : x2.cell? ⟨wr.heap.size, 11, none⟩ = some (.int .i64 o.b) := (cell_of_row _ _ _ _ _ _ hqx).trans rfl; have n12 : x2.cell? ⟨wr.heap.size, 12, none⟩ = some (.int .i64 o.ta) := (cell_of_row _ _ _ _ _ _ hqx).trans rfl; have n13 : x2.cell? ⟨wr.heap.size, 13, none⟩ = some (.int .i64 o.tb) := (cell_of_row _ _ _ _ _ _ hqx).trans rfl; clear hx2 hqx))
          all_goals
            as_aux_lemma =>
            have HVB : Hid (((((x2.setCell ⟨wr.heap.size, 10, none⟩ (.int .i64 p1)).setCell ⟨wr.heap.size, 11, none⟩ (.int .i64 p2)).setCell ⟨wr.heap.size, 12, none⟩ (.int .i64 q1)).setCell ⟨wr.heap.size, 13, none⟩ (.int .i64 q2)).heap[wr.heap.size]? = some (.cells #[.int .i64 o.d, .int .i64 o.m, .int .i64 (o.f 0), .int .i64 (o.f 1), .int .i64 (o.f 2), .int .i64 (o.f 3), .int .i64 (o.f 4), .int .i64 (o.f 5), .int .i64 (o.f 6), .int .i64 (o.f 7), .int .i64 p1, .int .i64 p2, .int .i64 q1, .int .i64 q2, .int .i64 o.k, .int .i64 o.n] 47)) := Lib.hid (heap_setCell_same _ _ _ _ _ _ (heap_setCell_same _ _ _ _ _ _ (heap_setCell_same _ _ _ _ _ _ (heap_setCell_same _ _ _ _ _ _ ((HX2.out.block _ la).trans HA2.out)))))
            have HVI : Hid (AtoI w p q B sf s z1 t F5 G u ((((x2.setCell ⟨wr.heap.size, 10, none⟩ (.int .i64 p1)).setCell ⟨wr.heap.size, 11, none⟩ (.int .i64 p2)).setCell ⟨wr.heap.size, 12, none⟩ (.int .i64 q1)).setCell ⟨wr.heap.size, 13, none⟩ (.int .i64 q2))) := Lib.hid (by
              have hx := hI.out.later (nb_trans HA1.out HX2.out)
              have hk : Kept (fun b => b = wr.heap.size) x2 ((((x2.setCell ⟨wr.heap.size, 10, none⟩ (.int .i64 p1)).setCell ⟨wr.heap.size, 11, none⟩ (.int .i64 p2)).setCell ⟨wr.heap.size, 12, none⟩ (.int .i64 q1)).setCell ⟨wr.heap.size, 13, none⟩ (.int .i64 q2)) := (((Kept.setCell (F := fun b => b = wr.heap.size) x2 (p := ⟨wr.heap.size, 10, none⟩) rfl _).trans (Kept.setCell (F := fun b => b = wr.heap.size) _ (p := ⟨wr.heap.size, 11, none⟩) rfl _) (fun _ h => .inl h)).trans (Kept.setCell (F := fun b => b = wr.heap.size) _ (p := ⟨wr.heap.size, 12, none⟩) rfl _) (fun _ h => .inl h)).trans (Kept.setCell (F := fun b => b = wr.heap.size) _ (p := ⟨wr.heap.size, 13, none⟩) rfl _) (fun _ h => .inl h)
              exact hx.store hk (fun e => by have := hI.out.zf.lt _ e; omega) (fun e => by have := HLTG.out _ e; omega) (by omega) (fun e => by have := hI.out.sp.lt e; omega) hI.out.bel.size)
            clear k10 k11 k12 k13 m10 m11 m12 m13 n10 n11 n12 n13 l1 l2 fz
            generalize ((((x2.setCell ⟨wr.heap.size, 10, none⟩ (.int .i64 p1)).setCell ⟨wr.heap.size, 11, none⟩ (.int .i64 p2)).setCell ⟨wr.heap.size, 12, none⟩ (.int .i64 q1)).setCell ⟨wr.heap.size, 13, none⟩ (.int .i64 q2)) = V at *
            have hvb := HVB.out
            have k0 : V.cell? ⟨wr.heap.size, 0, none⟩ = some (.int .i64 o.d) := (cell_of_row _ _ _ _ _ _ hvb).trans rfl
            have k1 : V.cell? ⟨wr.heap.size, 1, none⟩ = some (.int .i64 o.m) := (cell_of_row _ _ _ _ _ _ hvb).trans rfl
            have k2 : V.cell? ⟨wr.heap.size, 2, none⟩ = some (.int .i64 (o.f 0)) := (cell_of_row _ _ _ _ _ _ hvb).trans rfl
            have k3 : V.cell? ⟨wr.heap.size, 3, none⟩ = some (.int .i64 (o.f 1)) := (cell_of_row _ _ _ _ _ _ hvb).trans rfl
            have k4 : V.cell? ⟨wr.heap.size, 4, none⟩ = some (.int .i64 (o.f 2)) := (cell_of_row _ _ _ _ _ _ hvb).trans rfl
            have k5 : V.cell? ⟨wr.heap.size, 5, none⟩ = some (.int .i64 (o.f 3)) := (cell_of_row _ _ _ _ _ _ hvb).trans rfl
            have k6 : V.cell? ⟨wr.heap.size, 6, none⟩ = some (.int .i64 (o.f 4)) := (cell_of_row _ _ _ _ _ _ hvb).trans rfl
            have k7 : V.cell? ⟨wr.heap.size, 7, none⟩ = some (.int .i64 (o.f 5)) := (cell_of_row _ _ _ _ _ _ hvb).trans rfl
            have k8 : V.cell? ⟨wr.heap.size, 8, none⟩ = some (.int .i64 (o.f 6)) := (cell_of_row _ _ _ _ _ _ hvb).trans rfl
            have k9 : V.cell? ⟨wr.heap.size, 9, none⟩ = some (.int .i64 (o.f 7)) := (cell_of_row _ _ _ _ _ _ hvb).trans rfl
            have k10 : V.cell? ⟨wr.heap.size, 10, none⟩ = some (.int .i64 p1) := (cell_of_row _ _ _ _ _ _ hvb).trans rfl
            have k11 : V.cell? ⟨wr.heap.size, 11, none⟩ = some (.int .i64 p2) := (cell_of_row _ _ _ _ _ _ hvb).trans rfl
            have k12 : V.cell? ⟨wr.heap.size, 12, none⟩ = some (.int .i64 q1) := (cell_of_row _ _ _ _ _ _ hvb).trans rfl
            have k13 : V.cell? ⟨wr.heap.size, 13, none⟩ = some (.int .i64 q2) := (cell_of_row _ _ _ _ _ _ hvb).trans rfl
            have k14 : V.cell? ⟨wr.heap.size, 14, none⟩ = some (.int .i64 o.k) := (cell_of_row _ _ _ _ _ _ hvb).trans rfl
            have k15 : V.cell? ⟨wr.heap.size, 15, none⟩ = some (.int .i64 o.n) := (cell_of_row _ _ _ _ _ _ hvb).trans rfl
            have lv := (Array.getElem?_eq_some_iff.1 hvb).1
            clear hvb
            go_wp2_with fail
            clear k0 k1 k2 k3 k4 k5 k6 k7 k8 k9 k10 k11 k12 k13 k14 k15
            refine (zooDo_any q G zs ⟨o.d, o.m, o.f, p1, p2, q1, q2, o.k, o.n⟩ _ (by have := HVI.out.zq; rw [HXE.out] at this; exact this) HZT.out HOPL.out).mono ?_
            rintro e w9 hp
            obtain ⟨⟨h1, h2⟩, hh⟩ : ∃ x, doH zs ⟨o.d, o.m, o.f, p1, p2, q1, q2, o.k, o.n⟩ = x := ⟨_, rfl⟩
            rw [hh, HAG.out.1] at hp
            obtain ⟨rfl, G9, hz9, hk9, hm9⟩ := hp
            have hq9 : w9.heap[wr.heap.size]? = some (.cells #[.int .i64 o.d, .int .i64 o.m, .int .i64 (o.f 0), .int .i64 (o.f 1), .int .i64 (o.f 2), .int .i64 (o.f 3), .int .i64 (o.f 4), .int .i64 (o.f 5), .int .i64 (o.f 6), .int .i64 (o.f 7), .int .i64 p1, .int .i64 p2, .int .i64 q1, .int .i64 q2, .int .i64 o.k, .int .i64 o.n] 47) := (hk9.block _ lv (fun e => by have := HLTG.out _ e; omega)).trans HVB.out
            have k0 : w9.cell? ⟨wr.heap.size, 0, none⟩ = some (.int .i64 o.d) := (cell_of_row _ _ _ _ _ _ hq9).trans rfl
            have l9 := (Array.getElem?_eq_some_iff.1 hq9).1
            have HNX : Hid (AtoI w p q B sf s z1 (t + 1) F5 G9 u (w9.alloc (.cells #[.int .i64 h1, .int .i64 h2] 34))) := Lib.hid (AtoI.later (AtoI.did (sp := sp) HVI.out hz9 hk9 hm9 (by rw [HNXT.out, HAG.out.2, if_neg HNE.out]) (by rw [HXE.out])) (nb_alloc (Below.refl _ _) _))
            clear hz9 hk9 hm9 hq9 hh
            go_wp2
            go_roundw
            case rel => exact ⟨t + 1, G9, u, by omega, by go_num, HNX⟩
            case measure => simp [intOf]; omega
        · as_aux_lemma =>
          have hye : o.d = 1 := by simpa using hd1
          have hlo : lookO sp o = o := by rw [lookO, if_pos hye]
          rw [hlo] at HAG HOPL
          have HYE := Lib.hid hye
          clear hlo hye
          have HVI : Hid (AtoI w p q B sf s z1 t F5 G u (wr.alloc (.cells #[.int .i64 o.d, .int .i64 o.m, .int .i64 (o.f 0), .int .i64 (o.f 1), .int .i64 (o.f 2), .int .i64 (o.f 3), .int .i64 (o.f 4), .int .i64 (o.f 5), .int .i64 (o.f 6), .int .i64 (o.f 7), .int .i64 o.a, .int .i64 o.b, .int .i64 o.ta, .int .i64 o.tb, .int .i64 o.k, .int .i64 o.n] 47))) := Lib.hid (hI.out.later HA1.out)
          go_wp2_with fail
          generalize wr.alloc (.cells #[.int .i64 o.d, .int .i64 o.m, .int .i64 (o.f 0), .int .i64 (o.f 1), .int .i64 (o.f 2), .int .i64 (o.f 3), .int .i64 (o.f 4), .int .i64 (o.f 5), .int .i64 (o.f 6), .int .i64 (o.f 7), .int .i64 o.a, .int .i64 o.b, .int .i64 o.ta, .int .i64 o.tb, .int .i64 o.k, .int .i64 o.n] 47) = A at *
          clear c0 c1 c2 c3 c4 c5 c6 c7 c8 c9 c10 c11 c12 c13 c14 c15
          have la := (Array.getElem?_eq_some_iff.1 HA2.out).1
          refine (zooDo_any q G zs o _ (by have := HVI.out.zq; rw [HXE.out] at this; exact this) HZT.out HOPL.out).mono ?_
          rintro e w9 hp
          obtain ⟨⟨h1, h2⟩, hh⟩ : ∃ x, doH zs o = x := ⟨_, rfl⟩
          rw [hh, HAG.out.1] at hp
          obtain ⟨rfl, G9, hz9, hk9, hm9⟩ := hp
          have hq9 : w9.heap[wr.heap.size]? = some (.cells #[.int .i64 o.d, .int .i64 o.m, .int .i64 (o.f 0), .int .i64 (o.f 1), .int .i64 (o.f 2), .int .i64 (o.f 3), .int .i64 (o.f 4), .int .i64 (o.f 5), .int .i64 (o.f 6), .int .i64 (o.f 7), .int .i64 o.a, .int .i64 o.b, .int .i64 o.ta, .int .i64 o.tb, .int .i64 o.k, .int .i64 o.n] 47) := (hk9.block _ la (fun e => by have := HLTG.out _ e; omega)).trans HA2.out
          have k0 : w9.cell? ⟨wr.heap.size, 0, none⟩ = some (.int .i64 o.d) := (cell_of_row _ _ _ _ _ _ hq9).trans rfl
          have l9 := (Array.getElem?_eq_some_iff.1 hq9).1
          have HB9 : Hid (w9.heap[B]? = some (.cells #[u] 55)) := Lib.hid ((hk9.block _ (Nat.lt_of_lt_of_le hBw HA1.out.size) HVI.out.apB.2).trans HVI.out.box)
          have HS9 : Hid (OwnsF elHand w9 w.heap.size 34 u sp) := Lib.hid (by have := HVI.out.sp.kept hk9 (fun k e => (HVI.out.apu k e).2.1); rw [HXE.out] at this; exact this)
          have hb9 := HB9.out
          have cb : w9.cell? ⟨B, 0, none⟩ = some u := (cell_of_row _ _ _ _ _ _ hb9).trans rfl
          have lb := (Array.getElem?_eq_some_iff.1 hb9).1
          have HBEL9 : Hid (Below w.heap.size w w9) := Lib.hid (HVI.out.bel.trans (hk9.below HVI.out.bel.size HVI.out.geG))
          have hws := HBEL9.out.size
          have HF9 : Hid (PzAt w9 p F5 sf ∧ PzAt w9 q G9 (doZ zs o)) := Lib.hid ⟨HVI.out.zf.kept hk9 (fun b hb hg => HVI.out.ap b hb hg), hz9⟩
          have HA9 : Hid ((∀ b, F5 b → ¬ G9 b) ∧ ¬ G9 B ∧ (∀ k, u.ownBlock = some k → ¬ G9 k) ∧ (∀ b, G9 b → w.heap.size ≤ b)) := Lib.hid ⟨fun b hb hg => (hm9 b hg).elim (HVI.out.ap b hb) (fun e => by have := HVI.out.zf.lt b hb; omega), fun hg => (hm9 B hg).elim HVI.out.apB.2 (fun e => by have := (Array.getElem?_eq_some_iff.1 HVI.out.box).1; omega), fun k e hg => (hm9 k hg).elim (HVI.out.apu k e).2.1 (fun e2 => by have := HVI.out.sp.lt e; omega), hm9.above HVI.out.bel.size HVI.out.geG⟩
          clear hz9 hk9 hm9 hq9 hb9
          go_wp2_with (first | (at_builtin; refine wpList_append_own_at _ rfl _ _ 55 rfl w.heap.size 34 i0' (.agg #[.int .i64 0, .int .i64 0]) 2 16 Tryz.underlying55 hi hz0 hz1 hz2 rfl (by decide) _ sp.length (sp.flatMap elHand.enc) rfl (World.ownsRow.alloc (World.ownsRow.alloc HS9.out _) _) ⟨w9.heap.size + 1, 0, none⟩ 1 1 [.int .i64 h1, .int .i64 h2] rfl rfl (World.news_of_block (heap_alloc2_new _ _ _)) (elHand.one (h1, h2)) (by unfold maxLen; omega) (by omega) (by simp; omega) ?_))
          intro v' w11 hown hgr _ hat
          have ho11 := OwnsF.snoc (x := (h1, h2)) hown
          have hk11 : Kept (fun k => u.ownBlock = some k) w9 w11 := ((Kept.alloc _ w9 _).trans (Kept.alloc _ _ _) (fun _ h => .inl h)).trans (Kept.grown hgr (fun k e => e)) (fun _ h => .inl h)
          have hb11 : w11.heap[B]? = some (.cells #[u] 55) := (hk11.block _ lb (fun e => (HVI.out.apu B e).2.2 rfl)).trans HB9.out
          have cb11 : w11.cell? ⟨B, 0, none⟩ = some u := (cell_of_row _ _ _ _ _ _ hb11).trans rfl
          have fb11 : w11.frozen? ⟨B, 0, none⟩ = false := frozen_of_row _ _ _ _ _ hb11
          have lb11 := (Array.getElem?_eq_some_iff.1 hb11).1
          obtain ⟨va, vc, hve, -⟩ := ho11.reads
          subst hve
          have hvne : ∀ k, (Value.slice va (sp ++ [(h1, h2)]).length vc).ownBlock = some k → ¬ F5 k ∧ ¬ G9 k ∧ k ≠ B := fun k e => by
            rcases hat with e2 | e2
            · rw [e2] at e
              exact ⟨(HVI.out.apu k e).1, HA9.out.2.2.1 k e, (HVI.out.apu k e).2.2⟩
            · rw [e2] at e
              have hkk : k = w9.heap.size + 2 := by simp at e; omega
              exact ⟨fun hf => by have := HF9.out.1.lt k hf; omega, fun hg => by have := HF9.out.2.lt k hg; omega, by omega⟩
          have HNX : Hid (AtoI w p q B sf s z1 (t + 1) F5 G9 (.slice va (sp ++ [(h1, h2)]).length vc) (w11.setCell ⟨B, 0, none⟩ (.slice va (sp ++ [(h1, h2)]).length vc))) := Lib.hid (by
            have he : runA (s, []) (z1.take (t + 1)) = (doZ zs o, sp ++ [(h1, h2)]) := by rw [HNXT.out, HAG.out.2, if_pos HYE.out, hh]
            have hkB : Kept (fun b => b = B) w11 (w11.setCell ⟨B, 0, none⟩ (.slice va (sp ++ [(h1, h2)]).length vc)) := Kept.setCell (F := fun b => b = B) w11 (p := ⟨B, 0, none⟩) rfl _
            have hb2 : Below w.heap.size w w11 := HBEL9.out.trans (hk11.below hws (fun k e => HS9.out.ge e))
            refine ⟨((HF9.out.1.kept hk11 (fun b hb e => (HVI.out.apu b e).1 hb)).kept hkB (fun b hb e => HVI.out.apB.1 (e ▸ hb))), by rw [he]; exact (HF9.out.2.kept hk11 (fun b hb e => HA9.out.2.2.1 b e hb)).kept hkB (fun b hb e => HA9.out.2.1 (e ▸ hb)), heap_setCell_same _ _ _ _ _ _ hb11, by rw [he]; exact ho11.kept hkB (fun k e e2 => (hvne k e).2.2 e2), hvne, ⟨HVI.out.apB.1, HA9.out.2.1⟩, HA9.out.1, HA9.out.2.2.2, HVI.out.geB, hb2.trans (hkB.below hb2.size (fun b e => by have := HVI.out.geB; omega))⟩)
          clear hown hgr hat ho11 hk11 hb11 hvne hh
          go_wp2
          go_roundw
          case rel => exact ⟨t + 1, G9, _, by omega, by go_num, Lib.hid (by have h7 := HNX.out; rw [show (sp ++ [(h1, h2)]).length = sp.length + 1 by simp] at h7; exact h7)⟩
          case measure => simp [intOf]; omega
      · as_aux_lemma =>
        obtain rfl : n = t := by omega
        have htk : z1.take n = z1 := List.take_of_length_le (by rw [HN.out]; exact Nat.le_refl _)
        have HQF : Hid (PzAt wr q G sf) := Lib.hid (by have := hI.out.zq; rw [htk, ← HSF.out] at this; exact this)
        have HPF : Hid (PzAt wr p F5 sf) := Lib.hid hI.out.zf
        have HBW := Lib.hid hI.out.bel
        clear htk
        go_wp2_with fail
        refine (zooState_any q G sf _ HQF.out HOKF.out).mono ?_
        rintro e w8 ⟨xg, xr, xb, rfl, hxt, hb8⟩
        have HXT := Lib.hid hxt
        have HB8 := Lib.hid hb8
        clear hxt hb8
        go_wp2_with fail
        refine (zooState_any p F5 sf _ (HPF.out.later HB8.out) HOKF.out).mono ?_
        rintro e w9 ⟨yg, yr, yb, rfl, hyt, hb9⟩
        have HYT := Lib.hid hyt
        have HB9 := Lib.hid hb9
        clear hyt hb9
        go_wp2_with fail
        refine (sameSt_any _ (HXT.out.later HB9.out) HYT.out).mono ?_
        rintro e w10 ⟨rfl, hb10⟩
        have HB10 : Hid (Below w.heap.size w w10) := Lib.hid (nb_trans HBW.out (nb_trans HB8.out (nb_trans HB9.out hb10)))
        clear hb10
        go_wp2
        go_ret
        exact ⟨rfl, HB10.out⟩
  · as_aux_lemma =>
    have hss : sf = s := by rw [← hsf, allZ, if_neg (by rw [hae]; exact ha0)]
    rw [hss] at HZ5
    have hn0 : (0 : Int) ≤ (an : Int) := by omega
    have hn1 : (an : Int) ≤ (n : Int) := by omega
    have HKK : Hid (∀ Y, Below w5.heap.size w5 Y → Y.cell? ⟨w3.heap.size, 0, none⟩ = some (.slice g1 (gensL s.l).length g2) ∧ Y.cell? ⟨w3.heap.size, 1, none⟩ = some (.slice r1 s.rows.length r2) ∧ Y.cell? ⟨w3.heap.size, 2, none⟩ = some (.slice b1 s.bs.length b2)) := Lib.hid (fun Y hY => ⟨(hY.cell (p := ⟨w3.heap.size, 0, none⟩) lq).trans HC0.out.1, (hY.cell (p := ⟨w3.heap.size, 1, none⟩) lq).trans HC0.out.2.1, (hY.cell (p := ⟨w3.heap.size, 2, none⟩) lq).trans HC0.out.2.2⟩)
    clear hae han hsf
    go_wp2_with fail
    go_region_held3 (fun x => (x.cell? ⟨w3.heap.size, 0, none⟩ = some (.slice g1 (gensL s.l).length g2) ∧ x.cell? ⟨w3.heap.size, 1, none⟩ = some (.slice r1 s.rows.length r2) ∧ x.cell? ⟨w3.heap.size, 2, none⟩ = some (.slice b1 s.bs.length b2))) (first | go_keep | exact HKK.out _ HX1.out | exact HKK.out _ HX2.out) (first
      | ((go_at_call 8; refine (zooState_any p F5 s _ (HZ5.out.later (Below.refl _ _).drew) HOK.out).mono ?_; rintro e x1 ⟨yg, yr, yb, rfl, hyt, hx1⟩; have HYT := Lib.hid hyt; have HX1 : Hid (Below w5.heap.size w5 x1) := Lib.hid ((Below.refl _ _).drew.trans hx1); clear hyt hx1))
      | ((go_at_call 13; refine (sameSt_any _ HYT.out (HST5.out.later HX1.out)).mono ?_; rintro e x2 ⟨rfl, hx2⟩; have HX2 : Hid (Below w5.heap.size w5 x2) := Lib.hid (nb_trans HX1.out hx2); clear hx2)))
    have HEND : Hid (Below w.heap.size w x2) := Lib.hid (nb_trans HB5.out HX2.out)
    go_wp2
    go_ret
    exact ⟨rfl, HEND.out⟩

namespace zooAtomic
theorem own : ownKnob Tryz.prog.godebug = none := by kernel_rfl
theorem laidOut : laidOutB Tryz.prog = true := by kernel_rfl

set_option maxRecDepth 100000 in
set_option maxHeartbeats 4000000 in
theorem lifted (os : Os) (started : os.Started) (H : Type) (enc : TypeId × Value → H) :
    ReturnsInHanded {} Tryz.checked os 4 .any (Rows.zooAtomicSpec.pre6 enc Tryz.prog Tryz.f4 Rows.zooAtomicRow.domain false) (Rows.zooAtomicSpec.post enc Tryz.prog Tryz.f4 false true false false) := by
  refine returnsInHanded_of_change (C := Tryz.checked) own started (by kernel_rfl) Tryz.func4
    (ChangeSpec.witness6 (enc := enc) (C := Tryz.checked) false ⟨#[], #[.slice none 0 0, .slice none 0 0], []⟩ 8 (by kernel_rfl) (by kernel_rfl) (by kernel_rfl) (by kernel_rfl)) ?_
  intro W base args ds gs before hval0 hW hcnd _
  have hval : ∀ (j : Nat) t v, Tryz.f4.params[j]? = some t → args[j]? = some v → Value.okWide Tryz.prog W .any base t v := hval0
  have hW' := hW
  obtain ⟨p, q, hA0, hV, rfl, hfz, hnd⟩ := hW
  have hA : DataW.TrodAll enc Tryz.prog W 0 (fun _ => true) true Tryz.f4.params.toList args.toList ds p := hA0
  rw [Tryz.params4] at hA hval
  obtain ⟨v0, vs0, d0, ds0, p0, q0, hargs, rfl, rfl, h0, r0⟩ := trodAll_cons hA
  obtain ⟨v1, vs1, d1, ds1, p1, q1, rfl, rfl, rfl, h1, r1⟩ := trodAll_cons r0
  obtain ⟨rfl, rfl, rfl⟩ := trodAll_nil r1
  obtain rfl : args = #[v0, v1] := by cases args; simp_all
  obtain ⟨rfl, rfl⟩ := trodVars_none hV
  have k0' := h0
  have lt0 : ∀ x ∈ p0, x.block < W.heap.size := by obtain ⟨m, hm⟩ := h0; exact DataW.trod_lt m _ _ _ hm
  have k1' := h1
  have lt1 : ∀ x ∈ p1, x.block < W.heap.size := by obtain ⟨m, hm⟩ := h1; exact DataW.trod_lt m _ _ _ hm
  obtain ⟨z0, i0, j0⟩ : ∃ zs, Reads elOp W v0 zs ∧ ∀ x ∈ zs, OpOk x := by
    obtain ⟨a0, len0, cap0, rfl⟩ := okWide_slice Tryz.underlying22 (hval 0 22 v0 rfl rfl)
    exact Reads_ofP elOp OpOk Tryz.underlying22 (by kernel_rfl) op_dec h0
  obtain ⟨z1, i1, j1⟩ : ∃ zs, Reads elOp W v1 zs ∧ ∀ x ∈ zs, OpOk x := by
    obtain ⟨a0, len0, cap0, rfl⟩ := okWide_slice Tryz.underlying22 (hval 1 22 v1 rfl rfl)
    exact Reads_ofP elOp OpOk Tryz.underlying22 (by kernel_rfl) op_dec h1
  clear hA0 hval0
  refine (zooAtomic_walk v0 z0 j0 v1 z1 j1 W i0 i1).mono fun e W' ⟨he, bel⟩ => ?_
  subst he
  exact ⟨_, rfl, _, _, _, [], _, [], hW', trodAll_mk1 (shut_bool Tryz.underlying4 _), (trodAll_cons_mk (Below.trod laidOut (by kernel_rfl) (of_decide_eq_true (by kernel_rfl)) k0' bel lt0) (trodAll_cons_mk (Below.trod laidOut (by kernel_rfl) (of_decide_eq_true (by kernel_rfl)) k1' bel lt1) trodAll_mk0)), rfl, bel.frame _, fun h => by cases h⟩
end zooAtomic

theorem zooAtomic_proved : Rows.ZooAtomicSaid :=
  OpenClaim.holds_of_wide 4 Tryz.f4 rfl rfl rfl rfl rfl rfl rfl ⟨rfl, rfl, rfl, rfl, rfl⟩ rfl rfl rfl rfl rfl (by kernel_rfl) Tryz.func4 (by kernel_rfl)
    (of_decide_eq_true (by kernel_rfl)) (by unfold Func.isWrapper; first | (rw [if_pos (by decide +kernel)]; kernel_rfl) | (rw [if_neg (by decide +kernel)]; exact ⟨rfl, rfl⟩))
    (fun os started H enc _ => zooAtomic.lifted os started H enc)

end Go.Proofs.YtdpjpckknncleabGreat

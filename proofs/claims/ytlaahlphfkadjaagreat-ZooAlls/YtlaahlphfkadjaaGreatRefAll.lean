
/- All of the reference's zoo. -/
import Derived.Test.YtlaahlphfkadjaaGreatRefDo
import Derived.Test.YtlaahlphfkadjaaGreatRefOwn
import Derived.Test.YtlaahlphfkadjaaGreatRefMeant
import Derived.Test.YtlaahlphfkadjaaGreatPZooAll
import Derived.Deep.CutRange
namespace Go.Proofs.YtlaahlphfkadjaaGreat
set_option maxRecDepth 8000
set_option maxRecDepth 8000
open Go.RowKit

/-- What the rounds of All keep: the copy, the handles that were spawned, in their box. -/
structure AllR (w : World) (qq B : Nat) (s : Zs) (os : List Opm) (t : Nat) (G : Nat → Prop) (u : Value) (wr : World) : Prop where
  zoo : ZfAt wr qq G (runA (s, []) (os.take t)).1
  box : wr.heap[B]? = some (.cells #[u] 76)
  sp : OwnsF elHand wr w.heap.size 43 u (runA (s, []) (os.take t)).2
  ok : okAll (s, []) os t
  ap : ∀ k, u.ownBlock = some k → ¬ G k ∧ k ≠ B
  apB : ¬ G B
  ge : ∀ b, G b → w.heap.size ≤ b
  bel : Below w.heap.size w wr
theorem AllR.later {w wr W : World} {qq B : Nat} {s : Zs} {os : List Opm} {t : Nat} {G : Nat → Prop} {u : Value} (h : AllR w qq B s os t G u wr) (hb : Below wr.heap.size wr W) : AllR w qq B s os t G u W :=
  ⟨h.zoo.later hb, by rw [hb.block _ (Array.getElem?_eq_some_iff.1 h.box).1]; exact h.box, h.sp.later hb, h.ok, h.ap, h.apB, h.ge, nb_trans h.bel hb⟩
theorem meantO_no {sp : List Hd} {o : Opm} (h : meantH sp (usesAt o) (o.a, o.b) = none ∨ meantH sp (usesTo o) (o.ta, o.tb) = none) : meantO sp o = none := by
  unfold meantO
  rcases h with h | h
  · rw [h]
  · rw [h]; cases meantH sp (usesAt o) (o.a, o.b) <;> rfl
theorem set_op10 {w : World} {A : Nat} {o : Opm} {y1 y2 : Int} (m1 m2 : Int) (h : w.heap[A]? = some (.cells #[.int .i64 o.d, .int .i64 o.m, .int .i64 (o.f 0), .int .i64 (o.f 1), .int .i64 (o.f 2), .int .i64 (o.f 3), .int .i64 (o.f 4), .int .i64 (o.f 5), .int .i64 (o.f 6), .int .i64 (o.f 7), .int .i64 o.a, .int .i64 o.b, .int .i64 y1, .int .i64 y2, .int .i64 o.k, .int .i64 o.n] 50)) : ((w.setCell ⟨A, 10, none⟩ (.int .i64 m1)).setCell ⟨A, 11, none⟩ (.int .i64 m2)).heap[A]? = some (.cells #[.int .i64 o.d, .int .i64 o.m, .int .i64 (o.f 0), .int .i64 (o.f 1), .int .i64 (o.f 2), .int .i64 (o.f 3), .int .i64 (o.f 4), .int .i64 (o.f 5), .int .i64 (o.f 6), .int .i64 (o.f 7), .int .i64 m1, .int .i64 m2, .int .i64 y1, .int .i64 y2, .int .i64 o.k, .int .i64 o.n] 50) := by
  rw [heap_setCell_same _ _ _ _ _ _ (heap_setCell_same _ _ _ _ _ _ h)]; rfl
theorem set_op12 {w : World} {A : Nat} {o : Opm} {m1 m2 : Int} (n1 n2 : Int) (h : w.heap[A]? = some (.cells #[.int .i64 o.d, .int .i64 o.m, .int .i64 (o.f 0), .int .i64 (o.f 1), .int .i64 (o.f 2), .int .i64 (o.f 3), .int .i64 (o.f 4), .int .i64 (o.f 5), .int .i64 (o.f 6), .int .i64 (o.f 7), .int .i64 m1, .int .i64 m2, .int .i64 o.ta, .int .i64 o.tb, .int .i64 o.k, .int .i64 o.n] 50)) : ((w.setCell ⟨A, 12, none⟩ (.int .i64 n1)).setCell ⟨A, 13, none⟩ (.int .i64 n2)).heap[A]? = some (.cells #[.int .i64 o.d, .int .i64 o.m, .int .i64 (o.f 0), .int .i64 (o.f 1), .int .i64 (o.f 2), .int .i64 (o.f 3), .int .i64 (o.f 4), .int .i64 (o.f 5), .int .i64 (o.f 6), .int .i64 (o.f 7), .int .i64 m1, .int .i64 m2, .int .i64 n1, .int .i64 n2, .int .i64 o.k, .int .i64 o.n] 50) := by
  rw [heap_setCell_same _ _ _ _ _ _ (heap_setCell_same _ _ _ _ _ _ h)]; rfl
theorem keptSet2 (w1 : World) (A i j : Nat) (x y : Value) : Kept (fun b => b = A) w1 ((w1.setCell ⟨A, i, none⟩ x).setCell ⟨A, j, none⟩ y) := (Kept.setCell (F := fun b => b = A) w1 (p := ⟨A, i, none⟩) rfl _).trans (Kept.setCell (F := fun b => b = A) _ (p := ⟨A, j, none⟩) rfl _) (fun _ h => .inl h)

set_option maxHeartbeats 16000000 in
theorem zfAll_any (q : Nat) (G : Nat → Prop) (s : Zs) (v : Value) (os : List Opm) (w : World) (h : ZfAt w q G s) (ok : ZOk s) (hr : Reads elOp w v os) (hos : ∀ o ∈ os, OpOk o) :
    Calls Tryz.prog 7 #[.pointer (some ⟨q, 0, none⟩), v] w (ZfPost w q G (.tuple #[.int .i64 (allN s os), .int .i64 (allE s os)]) (allZ s os)) := by
  obtain ⟨i0, hi, hz0, hz1, hz2⟩ := info_parts infoHand
  obtain ⟨oa, oc, rfl, hlc, hm, hcc⟩ := hr
  unfold maxLen at hm
  obtain ⟨n, hn⟩ : ∃ n, os.length = n := ⟨_, rfl⟩
  have HN := Lib.hid hn
  have HC := Lib.hid hcc
  have HZ := Lib.hid h
  have HOK := Lib.hid ok
  have HOS := Lib.hid hos
  have hplw := h.lt q h.at_
  rw [hn] at hlc HC ⊢
  clear hn hcc h ok hos
  by_cases h80 : n ≤ 80
  · have h80' : decide ((80 : Int) < (n : Int)) = false := by rw [decide_eq_false_iff_not]; omega
    go_enter Tryz.func7, Tryz.ntmps7
    go_wp2_with fail
    refine (zfOwn q G s _ HZ.out HOK.out).mono ?_
    rintro e w1 ⟨qq, G1, rfl, hz1', hG1, hb1⟩
    have HW1 : Hid (w.heap.size ≤ w1.heap.size) := Lib.hid hb1.size
    have HI0 : Hid (AllR w qq w1.heap.size s os 0 G1 (.slice none 0 0) (w1.alloc (.cells #[.slice none 0 0] 76))) := Lib.hid ⟨hz1'.later (nb_alloc (Below.refl _ _) _), heap_alloc_new _ _, OwnsF.nil _ _ _ _, fun j hj => by omega, fun k e => by simp [Value.ownBlock] at e, fun e => by have := hz1'.lt _ e; omega, hG1, nb_alloc hb1 _⟩
    clear hz1' hG1 hb1
    go_wp2
    generalize w1.alloc (.cells #[.slice none 0 0] 76) = W1 at *
    go_loopw [23] (fun i wr => ∃ (t : Nat) (G' : Nat → Prop) (u : Value), t ≤ n ∧ i = .int .i64 t ∧ Hid (AllR w qq w1.heap.size s os t G' u wr)) (fun i _ => n - (intOf i).toNat)
    case atStart => exact ⟨0, _, _, by omega, rfl, HI0⟩
    case round =>
      obtain ⟨t, G', u, htn, rfl, hI⟩ := hrel
      clear HI0
      generalize w1.heap.size = bx at *
      by_cases hlt : t < n
      · obtain ⟨bb, off, rfl, hbb, hck⟩ := HC.out t hlt
        obtain ⟨o, ho⟩ : ∃ o, os.getD t opZ = o := ⟨_, rfl⟩
        have htl : t < os.length := by rw [HN.out]; exact hlt
        have hcr : ∀ jj, jj < 16 → wr.cell? ⟨bb, off + t * 16 + jj, none⟩ = (elOp.enc o)[jj]? := fun jj hjj => by rw [hI.out.bel.cell (p := ⟨bb, _, none⟩) hbb, ← ho]; exact hck jj hjj
        obtain ⟨c0, c1, c2, c3, c4, c5, c6, c7, c8, c9, c10, c11, c12, c13, c14, c15⟩ := opRow (O := off + t * 16) (o := o) hcr
        have HOP : Hid (OpOk o) := Lib.hid (HOS.out o (by rw [← ho]; exact memD htl))
        have HSP := Lib.hid (runA_ok HOK.out HOS.out t (by omega) hI.out.ok)
        have HZT : Hid (ZOk (runA (s, []) (os.take t)).1) := Lib.hid (ZOk.runA (x := (s, [])) HOK.out)
        have HNXT := Lib.hid (runA_next (s, []) htl ho)
        have HSTOP := Lib.hid (fun c => all_stop (s := s) (c := c) (by rw [HN.out]; exact h80) htl hI.out.ok ho)
        have HOKN := Lib.hid (okAll_next hI.out.ok ho)
        obtain ⟨x, hxe⟩ : ∃ x, runA (s, []) (os.take t) = x := ⟨_, rfl⟩
        obtain ⟨zs, sp⟩ := x
        have HI : Hid (ZfAt wr qq G' zs ∧ OwnsF elHand wr w.heap.size 43 u sp) := Lib.hid (by have h1 := hI.out.zoo; have h2 := hI.out.sp; rw [hxe] at h1 h2; exact ⟨h1, h2⟩)
        rw [hxe] at HSP HZT HNXT HSTOP HOKN
        have hbw : bb < wr.heap.size := Nat.lt_of_lt_of_le hbb hI.out.bel.size
        obtain ⟨sa, sc, hse, -⟩ := HI.out.2.reads
        have HSL : Hid (sp.length ≤ 80) := Lib.hid (by have : sp.length ≤ t := HSP.out.2; omega)
        have HA : Hid (Below wr.heap.size wr (wr.alloc (.cells #[.int .i64 o.d, .int .i64 o.m, .int .i64 (o.f 0), .int .i64 (o.f 1), .int .i64 (o.f 2), .int .i64 (o.f 3), .int .i64 (o.f 4), .int .i64 (o.f 5), .int .i64 (o.f 6), .int .i64 (o.f 7), .int .i64 o.a, .int .i64 o.b, .int .i64 o.ta, .int .i64 o.tb, .int .i64 o.k, .int .i64 o.n] 50))) := Lib.hid (nb_alloc (Below.refl _ _) _)
        have HAB : Hid ((wr.alloc (.cells #[.int .i64 o.d, .int .i64 o.m, .int .i64 (o.f 0), .int .i64 (o.f 1), .int .i64 (o.f 2), .int .i64 (o.f 3), .int .i64 (o.f 4), .int .i64 (o.f 5), .int .i64 (o.f 6), .int .i64 (o.f 7), .int .i64 o.a, .int .i64 o.b, .int .i64 o.ta, .int .i64 o.tb, .int .i64 o.k, .int .i64 o.n] 50)).heap[wr.heap.size]? = some (.cells #[.int .i64 o.d, .int .i64 o.m, .int .i64 (o.f 0), .int .i64 (o.f 1), .int .i64 (o.f 2), .int .i64 (o.f 3), .int .i64 (o.f 4), .int .i64 (o.f 5), .int .i64 (o.f 6), .int .i64 (o.f 7), .int .i64 o.a, .int .i64 o.b, .int .i64 o.ta, .int .i64 o.tb, .int .i64 o.k, .int .i64 o.n] 50)) := Lib.hid (heap_alloc_new _ _)
        have hboxl : bx < wr.heap.size := (Array.getElem?_eq_some_iff.1 hI.out.box).1
        have HWS : Hid (w.heap.size ≤ wr.heap.size) := Lib.hid hI.out.bel.size
        clear hcr hck ho htl hxe
        subst hse
        have HOB : Hid (∀ k, (Value.slice sa sp.length sc).ownBlock = some k → k < wr.heap.size) := Lib.hid (fun k e => HI.out.2.lt e)
        have HLTF : Hid (∀ b, G' b → b < wr.heap.size) := Lib.hid hI.out.zoo.lt
        go_upto_region 10 with fail
        generalize wr.alloc (.cells #[.int .i64 o.d, .int .i64 o.m, .int .i64 (o.f 0), .int .i64 (o.f 1), .int .i64 (o.f 2), .int .i64 (o.f 3), .int .i64 (o.f 4), .int .i64 (o.f 5), .int .i64 (o.f 6), .int .i64 (o.f 7), .int .i64 o.a, .int .i64 o.b, .int .i64 o.ta, .int .i64 o.tb, .int .i64 o.k, .int .i64 o.n] 50) = A at *
        clear c0 c1 c2 c3 c4 c5 c6 c7 c8 c9 c10 c11 c12 c13 c14 c15
        go_cut [11, 23] from 23 to 79 (fun c i wx => ∃ (m1 m2 : Int) (g : Bool), c = .bool g ∧ i = .int .i64 t ∧ Hid ((g = true ∧ meantH sp (usesAt o) (o.a, o.b) = some (m1, m2)) ∨ (g = false ∧ meantH sp (usesAt o) (o.a, o.b) = none)) ∧ Hid (wx.heap[wr.heap.size]? = some (.cells #[.int .i64 o.d, .int .i64 o.m, .int .i64 (o.f 0), .int .i64 (o.f 1), .int .i64 (o.f 2), .int .i64 (o.f 3), .int .i64 (o.f 4), .int .i64 (o.f 5), .int .i64 (o.f 6), .int .i64 (o.f 7), .int .i64 m1, .int .i64 m2, .int .i64 o.ta, .int .i64 o.tb, .int .i64 o.k, .int .i64 o.n] 50)) ∧ Hid (Kept (fun b => b = wr.heap.size) wr wx))
        case first =>
          have hqa := HAB.out
          have k0 : A.cell? ⟨wr.heap.size, 0, none⟩ = some (.int .i64 o.d) := (cell_of_row _ _ _ _ _ _ hqa).trans rfl
          have k10 : A.cell? ⟨wr.heap.size, 10, none⟩ = some (.int .i64 o.a) := (cell_of_row _ _ _ _ _ _ hqa).trans rfl
          have k11 : A.cell? ⟨wr.heap.size, 11, none⟩ = some (.int .i64 o.b) := (cell_of_row _ _ _ _ _ _ hqa).trans rfl
          have lk := (Array.getElem?_eq_some_iff.1 hqa).1
          have HMC : Hid (∀ is, Calls Tryz.prog 19 #[.agg #[.int .i64 o.a, .int .i64 o.b], .bool is, .pointer (some ⟨bx, 0, none⟩)] A (MeantPost A sp is (o.a, o.b))) := Lib.hid (fun is => meant_any bx _ sp o.a o.b is A HOP.out.1 ((HA.out.block _ hboxl).trans hI.out.box) (HI.out.2.reads.later HA.out) HSL.out)
          clear hqa
          go_wp2_with fail
          all_goals
            refine (HMC.out _).mono ?_
            rintro e x1 ⟨m1, m2, g, rfl, hc, hb⟩
            have hqx : x1.heap[wr.heap.size]? = some (.cells #[.int .i64 o.d, .int .i64 o.m, .int .i64 (o.f 0), .int .i64 (o.f 1), .int .i64 (o.f 2), .int .i64 (o.f 3), .int .i64 (o.f 4), .int .i64 (o.f 5), .int .i64 (o.f 6), .int .i64 (o.f 7), .int .i64 o.a, .int .i64 o.b, .int .i64 o.ta, .int .i64 o.tb, .int .i64 o.k, .int .i64 o.n] 50) := (hb.block _ lk).trans HAB.out
            have j10 : x1.cell? ⟨wr.heap.size, 10, none⟩ = some (.int .i64 o.a) := (cell_of_row _ _ _ _ _ _ hqx).trans rfl
            have j11 : x1.cell? ⟨wr.heap.size, 11, none⟩ = some (.int .i64 o.b) := (cell_of_row _ _ _ _ _ _ hqx).trans rfl
            have lj := (Array.getElem?_eq_some_iff.1 hqx).1
            have fj : ∀ j, x1.frozen? ⟨wr.heap.size, j, none⟩ = false := fun j => frozen_of_row _ _ _ _ _ hqx
            have HSE := Lib.hid (set_op10 m1 m2 hqx)
            have HKE : Hid (Kept (fun b => b = wr.heap.size) wr ((x1.setCell ⟨wr.heap.size, 10, none⟩ (.int .i64 m1)).setCell ⟨wr.heap.size, 11, none⟩ (.int .i64 m2))) := Lib.hid ((Kept.ofBelow (nb_trans HA.out hb)).trans (keptSet2 x1 (wr.heap.size) 10 11 _ _) (fun _ h => .inl h))
            have HCC := Lib.hid hc
            clear hqx hb hc
            go_wp2
            go_meet
            have key : ∀ is, usesAt o = is → ((g = true ∧ meantH sp is (o.a, o.b) = some (m1, m2)) ∨ (g = false ∧ meantH sp is (o.a, o.b) = none ∧ (o.a, o.b) = (m1, m2))) → ((g = true ∧ meantH sp (usesAt o) (o.a, o.b) = some (m1, m2)) ∨ (g = false ∧ meantH sp (usesAt o) (o.a, o.b) = none)) := fun is e h => by rw [e]; exact h.imp id (fun h => ⟨h.1, h.2.1⟩)
            exact ⟨m1, m2, g, rfl, rfl, Lib.hid (key _ (by unfold usesAt; first | rw [decide_eq_true (show (2 : Int) ≤ o.d by omega), Bool.true_and] | rw [decide_eq_false (show ¬ (2 : Int) ≤ o.d by omega), Bool.false_and]) HCC.out), HSE, HKE⟩
        case rest =>
          obtain ⟨m1, m2, g, rfl, rfl, hM1, hBK, hK⟩ := hcut
          have hbxA : bx ≠ wr.heap.size := by omega
          have HBOX : Hid (wc.heap[bx]? = some (.cells #[.slice sa sp.length sc] 76)) := Lib.hid ((hK.out.block _ hboxl hbxA).trans hI.out.box)
          have HSR : Hid (Reads elHand wc (.slice sa sp.length sc) sp) := Lib.hid (HI.out.2.kept hK.out (fun k e e2 => by have := HOB.out k e; omega)).reads
          have hqc := hBK.out
          have k0 : wc.cell? ⟨wr.heap.size, 0, none⟩ = some (.int .i64 o.d) := (cell_of_row _ _ _ _ _ _ hqc).trans rfl
          have k12 : wc.cell? ⟨wr.heap.size, 12, none⟩ = some (.int .i64 o.ta) := (cell_of_row _ _ _ _ _ _ hqc).trans rfl
          have k13 : wc.cell? ⟨wr.heap.size, 13, none⟩ = some (.int .i64 o.tb) := (cell_of_row _ _ _ _ _ _ hqc).trans rfl
          have lk := (Array.getElem?_eq_some_iff.1 hqc).1
          have HU5 : Hid (usesTo o = (o.d == 5)) := Lib.hid (by unfold usesTo; rw [Bool.eq_iff_iff]; simp)
          clear hqc
          go_wp2_with fail
          refine (meant_any bx _ sp o.ta o.tb (o.d == 5) wc HOP.out.2.2.1 HBOX.out HSR.out HSL.out).mono ?_
          rintro e x2 ⟨n1, n2, g2, rfl, hc2, hb2⟩
          have HM2 : Hid ((g2 = true ∧ meantH sp (usesTo o) (o.ta, o.tb) = some (n1, n2)) ∨ (g2 = false ∧ meantH sp (usesTo o) (o.ta, o.tb) = none)) := Lib.hid (by rw [HU5.out]; exact hc2.imp id (fun h => ⟨h.1, h.2.1⟩))
          have hqx : x2.heap[wr.heap.size]? = some (.cells #[.int .i64 o.d, .int .i64 o.m, .int .i64 (o.f 0), .int .i64 (o.f 1), .int .i64 (o.f 2), .int .i64 (o.f 3), .int .i64 (o.f 4), .int .i64 (o.f 5), .int .i64 (o.f 6), .int .i64 (o.f 7), .int .i64 m1, .int .i64 m2, .int .i64 o.ta, .int .i64 o.tb, .int .i64 o.k, .int .i64 o.n] 50) := (hb2.block _ lk).trans hBK.out
          have HB2 := Lib.hid hb2
          have HQX := Lib.hid hqx
          clear hc2 hb2 k0 k12 k13 lk
          have k0 : x2.cell? ⟨wr.heap.size, 0, none⟩ = some (.int .i64 o.d) := (cell_of_row _ _ _ _ _ _ hqx).trans rfl
          have k1 : x2.cell? ⟨wr.heap.size, 1, none⟩ = some (.int .i64 o.m) := (cell_of_row _ _ _ _ _ _ hqx).trans rfl
          have k2 : x2.cell? ⟨wr.heap.size, 2, none⟩ = some (.int .i64 (o.f 0)) := (cell_of_row _ _ _ _ _ _ hqx).trans rfl
          have k3 : x2.cell? ⟨wr.heap.size, 3, none⟩ = some (.int .i64 (o.f 1)) := (cell_of_row _ _ _ _ _ _ hqx).trans rfl
          have k4 : x2.cell? ⟨wr.heap.size, 4, none⟩ = some (.int .i64 (o.f 2)) := (cell_of_row _ _ _ _ _ _ hqx).trans rfl
          have k5 : x2.cell? ⟨wr.heap.size, 5, none⟩ = some (.int .i64 (o.f 3)) := (cell_of_row _ _ _ _ _ _ hqx).trans rfl
          have k6 : x2.cell? ⟨wr.heap.size, 6, none⟩ = some (.int .i64 (o.f 4)) := (cell_of_row _ _ _ _ _ _ hqx).trans rfl
          have k7 : x2.cell? ⟨wr.heap.size, 7, none⟩ = some (.int .i64 (o.f 5)) := (cell_of_row _ _ _ _ _ _ hqx).trans rfl
          have k8 : x2.cell? ⟨wr.heap.size, 8, none⟩ = some (.int .i64 (o.f 6)) := (cell_of_row _ _ _ _ _ _ hqx).trans rfl
          have k9 : x2.cell? ⟨wr.heap.size, 9, none⟩ = some (.int .i64 (o.f 7)) := (cell_of_row _ _ _ _ _ _ hqx).trans rfl
          have k10 : x2.cell? ⟨wr.heap.size, 10, none⟩ = some (.int .i64 m1) := (cell_of_row _ _ _ _ _ _ hqx).trans rfl
          have k11 : x2.cell? ⟨wr.heap.size, 11, none⟩ = some (.int .i64 m2) := (cell_of_row _ _ _ _ _ _ hqx).trans rfl
          have k12 : x2.cell? ⟨wr.heap.size, 12, none⟩ = some (.int .i64 o.ta) := (cell_of_row _ _ _ _ _ _ hqx).trans rfl
          have k13 : x2.cell? ⟨wr.heap.size, 13, none⟩ = some (.int .i64 o.tb) := (cell_of_row _ _ _ _ _ _ hqx).trans rfl
          have k14 : x2.cell? ⟨wr.heap.size, 14, none⟩ = some (.int .i64 o.k) := (cell_of_row _ _ _ _ _ _ hqx).trans rfl
          have k15 : x2.cell? ⟨wr.heap.size, 15, none⟩ = some (.int .i64 o.n) := (cell_of_row _ _ _ _ _ _ hqx).trans rfl
          have lk := (Array.getElem?_eq_some_iff.1 hqx).1
          have fk : ∀ j, x2.frozen? ⟨wr.heap.size, j, none⟩ = false := fun j => frozen_of_row _ _ _ _ _ hqx
          have HKY : Hid (Kept (fun b => b = wr.heap.size) wr ((x2.setCell ⟨wr.heap.size, 12, none⟩ (.int .i64 n1)).setCell ⟨wr.heap.size, 13, none⟩ (.int .i64 n2))) := Lib.hid ((hK.out.trans (Kept.ofBelow HB2.out) (fun _ h => .inl h)).trans (keptSet2 x2 (wr.heap.size) 12 13 _ _) (fun _ h => .inl h))
          have HYB := Lib.hid (set_op12 n1 n2 hqx)
          have HBY : Hid (Below w.heap.size w ((x2.setCell ⟨wr.heap.size, 12, none⟩ (.int .i64 n1)).setCell ⟨wr.heap.size, 13, none⟩ (.int .i64 n2))) := Lib.hid (hI.out.bel.trans (HKY.out.below HWS.out (fun b e => by have := HWS.out; omega)))
          clear hqx
          cases g2
          · as_aux_lemma =>
            have hmo : meantO sp o = none := meantO_no (.inr (by rcases HM2.out with ⟨h, -⟩ | ⟨-, h⟩; cases h; exact h))
            have HE : Hid (ZfPost w q G (.tuple #[.int .i64 (allN s os), .int .i64 (allE s os)]) (allZ s os) (.returned (.tuple #[.int .i64 t, .int .i64 5])) ((x2.setCell ⟨wr.heap.size, 12, none⟩ (.int .i64 n1)).setCell ⟨wr.heap.size, 13, none⟩ (.int .i64 n2))) := Lib.hid (by
              obtain ⟨e1, e2, e3⟩ := HSTOP.out 5 (by rw [errA, hmo]) (by decide)
              rw [e1, e2, e3]
              exact ZfPost.same HZ.out HBY.out)
            clear hmo
            cases g
            all_goals
              go_wp2
              go_ret2
              exact HE.out
          cases g
          · as_aux_lemma =>
            have hmo : meantO sp o = none := meantO_no (.inl (by rcases hM1.out with ⟨h, -⟩ | ⟨-, h⟩; cases h; exact h))
            have HE : Hid (ZfPost w q G (.tuple #[.int .i64 (allN s os), .int .i64 (allE s os)]) (allZ s os) (.returned (.tuple #[.int .i64 t, .int .i64 5])) ((x2.setCell ⟨wr.heap.size, 12, none⟩ (.int .i64 n1)).setCell ⟨wr.heap.size, 13, none⟩ (.int .i64 n2))) := Lib.hid (by
              obtain ⟨e1, e2, e3⟩ := HSTOP.out 5 (by rw [errA, hmo]) (by decide)
              rw [e1, e2, e3]
              exact ZfPost.same HZ.out HBY.out)
            clear hmo
            go_wp2
            go_ret2
            exact HE.out
          as_aux_lemma =>
          have hmo : meantO sp o = some ⟨o.d, o.m, o.f, m1, m2, n1, n2, o.k, o.n⟩ := by
            rcases hM1.out with ⟨-, h1⟩ | ⟨h, -⟩
            · rcases HM2.out with ⟨-, h2⟩ | ⟨h, -⟩
              · unfold meantO; rw [h1, h2]; rfl
              · cases h
            · cases h
          obtain ⟨o2, ho2⟩ : ∃ o2 : Opm, (⟨o.d, o.m, o.f, m1, m2, n1, n2, o.k, o.n⟩ : Opm) = o2 := ⟨_, rfl⟩
          have HO2 := Lib.hid ho2
          rw [ho2] at hmo
          have HOK2 := Lib.hid (meantO_ok HSP.out.1 HOP.out hmo)
          have HERR : Hid (errA (zs, sp) o = doE zs o2) := Lib.hid (by rw [errA, hmo])
          have HSTEP : Hid (stepA (zs, sp) o = (doZ zs o2, if o.d = 1 then sp ++ [doH zs o2] else sp)) := Lib.hid (by rw [stepA, hmo])
          obtain ⟨⟨h1, h2⟩, hh⟩ : ∃ x, doH zs o2 = x := ⟨_, rfl⟩
          obtain ⟨de, hde⟩ : ∃ x, doE zs o2 = x := ⟨_, rfl⟩
          have HHD : Hid (doH zs o2 = (h1, h2) ∧ doE zs o2 = de) := Lib.hid ⟨hh, hde⟩
          clear ho2 hmo hh hde
          go_wp2_with fail
          generalize ((x2.setCell ⟨wr.heap.size, 12, none⟩ (.int .i64 n1)).setCell ⟨wr.heap.size, 13, none⟩ (.int .i64 n2)) = Y at *
          clear k0 k1 k2 k3 k4 k5 k6 k7 k8 k9 k10 k11 k12 k13 k14 k15
          clear fk lk
          refine (zfDo_any qq G' zs ⟨o.d, o.m, o.f, m1, m2, n1, n2, o.k, o.n⟩ _ (HI.out.1.kept HKY.out (fun b e e2 => by have := HLTF.out b e; omega)) HZT.out).mono ?_
          rintro e w5 hp
          rw [HO2.out, HHD.out.1, HHD.out.2] at hp
          have hkB : Kept G' Y w5 := by obtain ⟨-, _, -, hk, -⟩ := hp; exact hk
          have hq5 : w5.heap[wr.heap.size]? = some (.cells #[.int .i64 o.d, .int .i64 o.m, .int .i64 (o.f 0), .int .i64 (o.f 1), .int .i64 (o.f 2), .int .i64 (o.f 3), .int .i64 (o.f 4), .int .i64 (o.f 5), .int .i64 (o.f 6), .int .i64 (o.f 7), .int .i64 m1, .int .i64 m2, .int .i64 n1, .int .i64 n2, .int .i64 o.k, .int .i64 o.n] 50) := (hkB.block _ (Array.getElem?_eq_some_iff.1 HYB.out).1 (fun e => by have := HLTF.out _ e; omega)).trans HYB.out
          have k0 : w5.cell? ⟨wr.heap.size, 0, none⟩ = some (.int .i64 o.d) := (cell_of_row _ _ _ _ _ _ hq5).trans rfl
          have lk := (Array.getElem?_eq_some_iff.1 hq5).1
          obtain ⟨rfl, G5, hz5, hk5, hm5⟩ := hp
          have hk5' : Kept (fun b => G' b ∨ b = wr.heap.size) wr w5 := (HKY.out.mono (fun b e => .inl (.inr e))).trans hk5 (fun b e => .inl (.inl e))
          have HBEL5 : Hid (Below w.heap.size w w5) := Lib.hid (HBY.out.trans (hk5.below HBY.out.size hI.out.ge))
          have HSP5 : Hid (OwnsF elHand w5 w.heap.size 43 (.slice sa sp.length sc) sp) := Lib.hid (HI.out.2.kept hk5' (fun k e e2 => e2.elim (hI.out.ap k e).1 (fun e3 => by have := HOB.out k e; omega)))
          have HBX5 : Hid (w5.heap[bx]? = some (.cells #[.slice sa sp.length sc] 76)) := Lib.hid ((hk5'.block _ hboxl (fun e2 => e2.elim hI.out.apB hbxA)).trans hI.out.box)
          have HZ5 := Lib.hid hz5
          have HAP5 : Hid (∀ k, (Value.slice sa sp.length sc).ownBlock = some k → ¬ G5 k ∧ k ≠ bx) := Lib.hid (fun k e => ⟨fun hf => (hm5 k hf).elim (hI.out.ap k e).1 (fun e2 => by have := HOB.out k e; have := HKY.out.size; omega), (hI.out.ap k e).2⟩)
          have HAB5 : Hid (¬ G5 bx) := Lib.hid (fun hf => (hm5 bx hf).elim hI.out.apB (fun e2 => by have := HKY.out.size; omega))
          have HGE5 : Hid (∀ b, G5 b → w.heap.size ≤ b) := Lib.hid (hm5.above HBY.out.size hI.out.ge)
          have HD12 : Hid (o2.d = o.d) := Lib.hid HOK2.out.2
          clear hkB hq5 hz5 hk5 hm5 hk5'
          by_cases hd0 : de = 0
          · as_aux_lemma =>
            subst hd0
            have HOKT : Hid (okAll (s, []) os (t + 1)) := Lib.hid (HOKN.out (by rw [HERR.out]; exact HHD.out.2))
            cases hd1 : (o.d == 1)
            · as_aux_lemma =>
              have HNX : Hid (AllR w qq bx s os (t + 1) G5 (.slice sa sp.length sc) (w5.alloc (.cells #[.int .i64 h1, .int .i64 h2] 43))) := Lib.hid (by
                have hne : ¬ o.d = 1 := by simpa using hd1
                have he : runA (s, []) (os.take (t + 1)) = (doZ zs o2, sp) := by rw [HNXT.out, HSTEP.out, if_neg hne]
                refine AllR.later (wr := w5) ⟨?_, HBX5.out, ?_, HOKT.out, HAP5.out, HAB5.out, HGE5.out, HBEL5.out⟩ (nb_alloc (Below.refl _ _) _)
                · rw [he]; exact HZ5.out
                · rw [he]; exact HSP5.out)
              go_wp2
              go_roundw
              case rel => exact ⟨t + 1, G5, _, by omega, by go_num, HNX⟩
              case measure => simp [intOf]; omega
            · as_aux_lemma =>
              have kb : w5.cell? ⟨bx, 0, none⟩ = some (.slice sa sp.length sc) := (cell_of_row _ _ _ _ _ _ HBX5.out).trans rfl
              have lb := (Array.getElem?_eq_some_iff.1 HBX5.out).1
              have fb : w5.frozen? ⟨bx, 0, none⟩ = false := frozen_of_row _ _ _ _ _ HBX5.out
              have hws := HBEL5.out.size
              have hspl := HSL.out
              go_wp2_with (first | (at_builtin; refine wpList_append_own_at _ rfl _ _ 76 rfl w.heap.size 43 i0 (.agg #[.int .i64 0, .int .i64 0]) 2 16 Tryz.underlying76 hi hz0 hz1 hz2 rfl (by decide) _ sp.length (sp.flatMap elHand.enc) rfl (World.ownsRow.alloc (World.ownsRow.alloc HSP5.out _) _) ⟨w5.heap.size + 1, 0, none⟩ 1 1 [.int .i64 h1, .int .i64 h2] rfl rfl (World.news_of_block (heap_alloc2_new _ _ _)) (elHand.one (h1, h2)) (by unfold maxLen; omega) (by omega) (by simp; omega) ?_))
              intro v' w7 hown hgr _ hat
              have hk7 : Kept (fun k => (Value.slice sa sp.length sc).ownBlock = some k) w5 w7 := ((Kept.alloc _ w5 _).trans (Kept.alloc _ _ _) (fun _ h => .inl h)).trans (Kept.grown hgr (fun k e => e)) (fun _ h => .inl h)
              have hb7 : w7.heap[bx]? = some (.cells #[.slice sa sp.length sc] 76) := (hk7.block _ lb (fun e => (HAP5.out bx e).2 rfl)).trans HBX5.out
              have kb7 : w7.cell? ⟨bx, 0, none⟩ = some (.slice sa sp.length sc) := (cell_of_row _ _ _ _ _ _ hb7).trans rfl
              have fb7 : w7.frozen? ⟨bx, 0, none⟩ = false := frozen_of_row _ _ _ _ _ hb7
              have lb7 := (Array.getElem?_eq_some_iff.1 hb7).1
              have HO7 : Hid (OwnsF elHand w7 w.heap.size 43 v' (sp ++ [(h1, h2)])) := Lib.hid (OwnsF.snoc (x := (h1, h2)) hown)
              obtain ⟨va, vc, hve, -⟩ := HO7.out.reads
              subst hve
              have hlen : (sp ++ [(h1, h2)]).length = sp.length + 1 := by simp
              rw [hlen] at HO7
              try rw [hlen] at hat
              have HNX : Hid (AllR w qq bx s os (t + 1) G5 (.slice va (sp.length + 1) vc) (w7.setCell ⟨bx, 0, none⟩ (.slice va (sp.length + 1) vc))) := Lib.hid (by
                have hye : o.d = 1 := by simpa using hd1
                have he : runA (s, []) (os.take (t + 1)) = (doZ zs o2, sp ++ [(h1, h2)]) := by rw [HNXT.out, HSTEP.out, if_pos hye, HHD.out.1]
                have hks : Kept (fun b => b = bx) w7 (w7.setCell ⟨bx, 0, none⟩ (.slice va (sp.length + 1) vc)) := Kept.setCell (F := fun b => b = bx) w7 (p := ⟨bx, 0, none⟩) rfl _
                have hnew : ∀ k, (Value.slice va (sp.length + 1) vc).ownBlock = some k → ¬ G5 k ∧ k ≠ bx := fun k e => by
                  rcases hat with e2 | e2
                  · exact HAP5.out k (e2.symm.trans e)
                  · rw [e2] at e
                    simp at e
                    refine ⟨fun hf => ?_, fun hf => ?_⟩
                    · have := HZ5.out.lt k hf; omega
                    · omega
                refine ⟨?_, heap_setCell_same _ _ _ _ _ _ hb7, ?_, HOKT.out, hnew, HAB5.out, HGE5.out, (HBEL5.out.trans (hk7.below hws (fun k e => HSP5.out.ge e))).trans (hks.below (Nat.le_trans hws hk7.size) (fun k e => by have := HW1.out; omega))⟩
                · rw [he]; exact (HZ5.out.kept hk7 (fun b hb e => (HAP5.out b e).1 hb)).kept hks (fun b hb e => HAB5.out (by rw [← e]; exact hb))
                · rw [he]; exact HO7.out.kept hks (fun k e => (hnew k e).2))
              clear hown hgr hat hk7 hb7
              go_wp2
              go_roundw
              case rel => exact ⟨t + 1, G5, _, by omega, by go_num, HNX⟩
              case measure => simp [intOf]; omega
          · as_aux_lemma =>
            have HE : Hid (ZfPost w q G (.tuple #[.int .i64 (allN s os), .int .i64 (allE s os)]) (allZ s os) (.returned (.tuple #[.int .i64 t, .int .i64 de])) (w5.alloc (.cells #[.int .i64 h1, .int .i64 h2] 43))) := Lib.hid (by
              obtain ⟨e1, e2, e3⟩ := HSTOP.out de (by rw [HERR.out]; exact HHD.out.2) hd0
              rw [e1, e2, e3]
              exact ZfPost.same HZ.out (nb_alloc HBEL5.out _))
            go_wp2
            go_ret2
            exact HE.out
      · as_aux_lemma =>
        obtain rfl : n = t := by omega
        have htk : os.take n = os := List.take_of_length_le (by rw [HN.out]; exact Nat.le_refl _)
        obtain ⟨e1, e2, e3⟩ := all_end (s := s) (os := os) (by rw [HN.out]; exact h80) (by rw [HN.out]; exact hI.out.ok)
        have hzq := hI.out.zoo
        rw [htk] at hzq
        obtain ⟨ga, gc, ta, tc, la, lc, ba, bc, hqb⟩ : ∃ ga gc ta tc la lc ba bc, wr.heap[qq]? = some (.cells #[.slice ga (gensL (runA (s, []) os).1.l).length gc, .slice ta (livesL (runA (s, []) os).1.l).length tc, .slice la (runA (s, []) os).1.rows.length lc, .slice ba (runA (s, []) os).1.bs.length bc] 33 (0, 0)) := by
          obtain ⟨vg, vl, vL, vB, hq, hg, hl, hL, hB⟩ := hzq.slices4
          obtain ⟨ga, gc, rfl, -⟩ := hg.reads
          obtain ⟨ta, tc, rfl, -⟩ := hl.reads
          obtain ⟨la, lc, rfl, -⟩ := hL.reads
          obtain ⟨ba, bc, rfl, -⟩ := hB.reads
          exact ⟨_, _, _, _, _, _, _, _, hq⟩
        obtain ⟨a0, a1, a2, a3, hpb⟩ : ∃ a0 a1 a2 a3, wr.heap[q]? = some (.cells #[a0, a1, a2, a3] 33 (0, 0)) := by
          obtain ⟨vg, vl, vL, vB, hq, -⟩ := (HZ.out.later hI.out.bel).slices4
          exact ⟨_, _, _, _, hq⟩
        obtain ⟨l0, hl0⟩ : ∃ x, (gensL (runA (s, []) os).1.l).length = x := ⟨_, rfl⟩
        obtain ⟨l1, hl1⟩ : ∃ x, (livesL (runA (s, []) os).1.l).length = x := ⟨_, rfl⟩
        obtain ⟨l2, hl2⟩ : ∃ x, (runA (s, []) os).1.rows.length = x := ⟨_, rfl⟩
        obtain ⟨l3, hl3⟩ : ∃ x, (runA (s, []) os).1.bs.length = x := ⟨_, rfl⟩
        rw [hl0, hl1, hl2, hl3] at hqb
        have k0 : wr.cell? ⟨qq, 0, none⟩ = some (.slice ga l0 gc) := (cell_of_row _ _ _ _ _ _ hqb).trans rfl
        have k1 : wr.cell? ⟨qq, 1, none⟩ = some (.slice ta l1 tc) := (cell_of_row _ _ _ _ _ _ hqb).trans rfl
        have k2 : wr.cell? ⟨qq, 2, none⟩ = some (.slice la l2 lc) := (cell_of_row _ _ _ _ _ _ hqb).trans rfl
        have k3 : wr.cell? ⟨qq, 3, none⟩ = some (.slice ba l3 bc) := (cell_of_row _ _ _ _ _ _ hqb).trans rfl
        have m0 : wr.cell? ⟨q, 0, none⟩ = some a0 := (cell_of_row _ _ _ _ _ _ hpb).trans rfl
        have m1 : wr.cell? ⟨q, 1, none⟩ = some a1 := (cell_of_row _ _ _ _ _ _ hpb).trans rfl
        have m2 : wr.cell? ⟨q, 2, none⟩ = some a2 := (cell_of_row _ _ _ _ _ _ hpb).trans rfl
        have m3 : wr.cell? ⟨q, 3, none⟩ = some a3 := (cell_of_row _ _ _ _ _ _ hpb).trans rfl
        have fp : ∀ j, wr.frozen? ⟨q, j, none⟩ = false := fun j => frozen_of_row _ _ _ _ _ hpb
        have hql := (Array.getElem?_eq_some_iff.1 hqb).1
        have hplr := (Array.getElem?_eq_some_iff.1 hpb).1
        have HE : Hid (ZfPost w q G (.tuple #[.int .i64 (allN s os), .int .i64 (allE s os)]) (allZ s os) (.returned (.tuple #[.int .i64 n, .int .i64 0])) ((((wr.setCell ⟨q, 0, none⟩ (.slice ga l0 gc)).setCell ⟨q, 1, none⟩ (.slice ta l1 tc)).setCell ⟨q, 2, none⟩ (.slice la l2 lc)).setCell ⟨q, 3, none⟩ (.slice ba l3 bc))) := Lib.hid (by
          have hk : Kept (fun b => b = q) wr ((((wr.setCell ⟨q, 0, none⟩ (.slice ga l0 gc)).setCell ⟨q, 1, none⟩ (.slice ta l1 tc)).setCell ⟨q, 2, none⟩ (.slice la l2 lc)).setCell ⟨q, 3, none⟩ (.slice ba l3 bc)) := (((Kept.setCell (F := fun b => b = q) wr (p := ⟨q, 0, none⟩) rfl _).trans (Kept.setCell (F := fun b => b = q) _ (p := ⟨q, 1, none⟩) rfl _) (fun _ h => .inl h)).trans (Kept.setCell (F := fun b => b = q) _ (p := ⟨q, 2, none⟩) rfl _) (fun _ h => .inl h)).trans (Kept.setCell (F := fun b => b = q) _ (p := ⟨q, 3, none⟩) rfl _) (fun _ h => .inl h)
          obtain ⟨G0, G1, vB, hzi, hGe⟩ := hzq
          have hge : ∀ b, G0 b ∨ G1 b → w.heap.size ≤ b := fun b hb => hI.out.ge b ((hGe b).2 hb)
          have hmv := hzi.moved (q := q) hplr (fun e => by have := hge q (.inl e); omega) (fun e => by have := hge q (.inr e); omega) hk (fun c hc => by
            have := hqb.symm.trans hc
            cases this
            rw [heap_setCell_same _ _ _ _ _ _ (heap_setCell_same _ _ _ _ _ _ (heap_setCell_same _ _ _ _ _ _ (heap_setCell_same _ _ _ _ _ _ hpb)))]
            rfl)
          rw [e1, e2, e3, HN.out]
          refine ⟨rfl, _, hmv, (Kept.ofBelow hI.out.bel).trans hk (fun b e => .inl (by rw [e]; exact HZ.out.at_)), fun b hb => ?_⟩
          rcases hb with e | e
          · exact .inl (by rw [e]; exact HZ.out.at_)
          · exact .inr (hge b e.1))
        clear hqb hpb hzq htk e1 e2 e3 hl0 hl1 hl2 hl3
        go_wp2
        go_ret2
        exact HE.out
  · have HL := Lib.hid (allE_large (s := s) (os := os) (by rw [HN.out]; exact h80))
    have h80' : decide ((80 : Int) < (n : Int)) = true := by rw [decide_eq_true_eq]; omega
    have HE : Hid (ZfPost w q G (.tuple #[.int .i64 (allN s os), .int .i64 (allE s os)]) (allZ s os) (.returned (.tuple #[.int .i64 0, .int .i64 2])) w) := Lib.hid (by rw [HL.out.1, HL.out.2.1, HL.out.2.2]; exact ZfPost.same HZ.out (Below.refl _ _))
    go_enter Tryz.func7, Tryz.ntmps7
    go_wp2
    go_ret2
    exact HE.out
end Go.Proofs.YtlaahlphfkadjaaGreat

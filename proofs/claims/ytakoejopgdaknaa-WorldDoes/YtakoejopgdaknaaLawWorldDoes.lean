/- After any sequence of calls, a world returns the results of the reference: the statement WorldDoes. No condition. -/
import Derived.Test.YtakoejopgdaknaaGroundA
import Derived.Test.YtakoejopgdaknaaLawDid
import Derived.Test.YtakoejopgdaknaaRefZooGet
import Derived.Test.YtakoejopgdaknaaRowEq
namespace Go.Proofs.Ytakoejopgdaknaa
set_option maxRecDepth 8000
open Go.ChangeShapes Go.WideShapes Go.ChangeAt Go.RowKit
set_option linter.unusedVariables false

structure BothW (B : World) (wr : World) (p q : Nat) (F G : Nat → Prop) (s : List (Int × Bool) × List Rw) : Prop where
  wld : WldAt wr p F s.1 (· ∈ s.2)
  zoo : ZooAt wr q G s.1 s.2 (.slice none 0 0)
  ap : ∀ b, F b → ¬ G b
  fb : ∀ b, F b → B.heap.size ≤ b
  gb : ∀ b, G b → B.heap.size ≤ b
  below : Below B.heap.size B wr
theorem BothW.later {B wr x : World} {p q : Nat} {F G : Nat → Prop} {s : List (Int × Bool) × List Rw} (h : BothW B wr p q F G s) (hb : Below wr.heap.size wr x) : BothW B x p q F G s :=
  ⟨h.wld.later hb, h.zoo.later hb, h.ap, h.fb, h.gb, nb_trans h.below hb⟩
theorem killE_neg {l : List (Int × Bool)} {rows : List Rw} (ok : WOk l rows) : killE rows (-1) 0 = 7 := by
  have : hasH rows (-1) 0 = false := by
    rw [ok.has]
    cases h : liveB l (-1) 0
    · rfl
    · have := (liveB_iff.1 h).1; omega
  rw [killE, this]; rfl

set_option maxRecDepth 100000 in
set_option maxHeartbeats 8000000 in
theorem worldDoes_walk (u0 : Value) (z0 : List Opm) (j0 : ∀ x ∈ z0, OpOk x) (w : World) (i0 : Reads elOp w u0 z0) :
    Calls Try.prog 3 #[u0] w fun e w' => e = .returned (.bool true) ∧ Below w.heap.size w w' := by
  have HJ := Lib.hid j0
  obtain ⟨hm, hop⟩ := i0.open
  unfold maxLen at hm
  obtain ⟨n, hn⟩ : ∃ n, z0.length = n := ⟨_, rfl⟩
  have HN := Lib.hid hn
  rw [hn] at hm hop
  clear i0 j0 hn
  rcases hop with ⟨a, cap, rfl, hz0⟩ | ⟨b, off, cap, rfl, hb, hlc, hcm, hcc⟩
  all_goals
    go_enter Try.func3, Try.ntmps3
    go_wp2_with fail
    refine (worldNew_any _).mono ?_
    rintro e w1 ⟨rfl, hw1⟩
    have HBT : Hid (BothW w (w1.alloc (.cells #[.slice none 0 0, .slice none 0 0, .slice none 0 0, .slice none 0 0] 33)) w.heap.size w1.heap.size (fun b => b = w.heap.size) (fun b => b = w1.heap.size) ([], [])) := Lib.hid (by
      have hs : w1.heap.size = w.heap.size + 1 := by rw [← hw1]; simp
      have hb1 : Below w.heap.size w w1 := by rw [← hw1]; exact nb_alloc (Below.refl _ _) _
      refine ⟨(WldAt.congr (by rw [← hw1]; exact WldAt.new w) (fun r => by simp)).later (nb_alloc (Below.refl _ _) _), ZooAt.new w1, fun b e e2 => by omega, fun b e => by omega, fun b e => by omega, nb_alloc hb1 _⟩)
    clear hw1
    go_wp2
    generalize hq : w1.heap.size = q at *
    clear hq
    generalize w1.alloc (.cells #[.slice none 0 0, .slice none 0 0, .slice none 0 0, .slice none 0 0] 33) = w2 at *
    go_loopw [18] (fun i wr => ∃ (t : Nat) (F G : Nat → Prop), t ≤ n ∧ i = .int .i64 t ∧ Hid (BothW w wr w.heap.size q F G (madeW (z0.take t)))) (fun i _ => n - (intOf i).toNat)
    case atStart => exact ⟨0, _, _, by omega, rfl, HBT⟩
    case round =>
      obtain ⟨t, F, G, htn, rfl, hT⟩ := hrel
      by_cases hlt : t < n
      · first
          | omega
          | (obtain ⟨o, ho⟩ : ∃ o, z0.getD t opZ = o := ⟨_, rfl⟩
             have htl : t < z0.length := by rw [HN.out]; exact hlt
             have hcr : ∀ jj, jj < 16 → wr.cell? ⟨b, off + t * 16 + jj, none⟩ = (elOp.enc o)[jj]? := fun jj hjj => by rw [hT.out.below.cell (p := ⟨b, _, none⟩) hb, ← ho]; exact hcc t hlt jj hjj
             have c0 : wr.cell? ⟨b, off + t * 16, none⟩ = some (.int .i64 o.d) := hcr 0 (by decide)
             have c1 : wr.cell? ⟨b, off + t * 16 + 1, none⟩ = some (.int .i64 o.m) := hcr 1 (by decide)
             have c2 : wr.cell? ⟨b, off + t * 16 + 2, none⟩ = some (.int .i64 (o.f 0)) := hcr 2 (by decide)
             have c3 : wr.cell? ⟨b, off + t * 16 + 3, none⟩ = some (.int .i64 (o.f 1)) := hcr 3 (by decide)
             have c4 : wr.cell? ⟨b, off + t * 16 + 4, none⟩ = some (.int .i64 (o.f 2)) := hcr 4 (by decide)
             have c5 : wr.cell? ⟨b, off + t * 16 + 5, none⟩ = some (.int .i64 (o.f 3)) := hcr 5 (by decide)
             have c6 : wr.cell? ⟨b, off + t * 16 + 6, none⟩ = some (.int .i64 (o.f 4)) := hcr 6 (by decide)
             have c7 : wr.cell? ⟨b, off + t * 16 + 7, none⟩ = some (.int .i64 (o.f 5)) := hcr 7 (by decide)
             have c8 : wr.cell? ⟨b, off + t * 16 + 8, none⟩ = some (.int .i64 (o.f 6)) := hcr 8 (by decide)
             have c9 : wr.cell? ⟨b, off + t * 16 + 9, none⟩ = some (.int .i64 (o.f 7)) := hcr 9 (by decide)
             have c10 : wr.cell? ⟨b, off + t * 16 + 10, none⟩ = some (.int .i64 o.a) := hcr 10 (by decide)
             have c11 : wr.cell? ⟨b, off + t * 16 + 11, none⟩ = some (.int .i64 o.b) := hcr 11 (by decide)
             have c12 : wr.cell? ⟨b, off + t * 16 + 12, none⟩ = some (.int .i64 o.ta) := hcr 12 (by decide)
             have c13 : wr.cell? ⟨b, off + t * 16 + 13, none⟩ = some (.int .i64 o.tb) := hcr 13 (by decide)
             have c14 : wr.cell? ⟨b, off + t * 16 + 14, none⟩ = some (.int .i64 o.k) := hcr 14 (by decide)
             have c15 : wr.cell? ⟨b, off + t * 16 + 15, none⟩ = some (.int .i64 o.n) := hcr 15 (by decide)
             have HTK : Hid (madeW (z0.take (t + 1)) = stepW (madeW (z0.take t)) o) := Lib.hid (by rw [take_snocD z0 t opZ htl, ho, madeW_snoc])
             have HOP : Hid (OpOk o) := Lib.hid (HJ.out o (by rw [← ho]; exact mem_getD htl))
             have HOK : Hid (WOk (madeW (z0.take t)).1 (madeW (z0.take t)).2) := Lib.hid (WOk.made _)
             have HOK5 : Hid (WOk (madeW (z0.take (t + 1))).1 (madeW (z0.take (t + 1))).2) := Lib.hid (WOk.made _)
             obtain ⟨s, hs⟩ : ∃ s, madeW (z0.take t) = s := ⟨_, rfl⟩
             rw [hs] at hT HTK HOK
             have hbw : b < wr.heap.size := Nat.lt_of_lt_of_le hb hT.out.below.size
             have HTA := Lib.hid (hT.out.later (nb_alloc (Below.refl _ _) (.cells #[.int .i64 o.d, .int .i64 o.m, .int .i64 (o.f 0), .int .i64 (o.f 1), .int .i64 (o.f 2), .int .i64 (o.f 3), .int .i64 (o.f 4), .int .i64 (o.f 5), .int .i64 (o.f 6), .int .i64 (o.f 7), .int .i64 o.a, .int .i64 o.b, .int .i64 o.ta, .int .i64 o.tb, .int .i64 o.k, .int .i64 o.n] 40)))
             have HBX : Hid ((wr.alloc (.cells #[.int .i64 o.d, .int .i64 o.m, .int .i64 (o.f 0), .int .i64 (o.f 1), .int .i64 (o.f 2), .int .i64 (o.f 3), .int .i64 (o.f 4), .int .i64 (o.f 5), .int .i64 (o.f 6), .int .i64 (o.f 7), .int .i64 o.a, .int .i64 o.b, .int .i64 o.ta, .int .i64 o.tb, .int .i64 o.k, .int .i64 o.n] 40)).heap[wr.heap.size]? = some (.cells #[.int .i64 o.d, .int .i64 o.m, .int .i64 (o.f 0), .int .i64 (o.f 1), .int .i64 (o.f 2), .int .i64 (o.f 3), .int .i64 (o.f 4), .int .i64 (o.f 5), .int .i64 (o.f 6), .int .i64 (o.f 7), .int .i64 o.a, .int .i64 o.b, .int .i64 o.ta, .int .i64 o.tb, .int .i64 o.k, .int .i64 o.n] 40)) := Lib.hid (heap_alloc_new _ _)
             have HNB : Hid (¬ F wr.heap.size ∧ ¬ G wr.heap.size) := Lib.hid ⟨fun h => by have := hT.out.wld.lt _ h; omega, fun h => by have := hT.out.zoo.lt _ h; omega⟩
             clear hcr hcc ho hs hT
             go_wp2_with fail
             generalize wr.alloc (.cells #[.int .i64 o.d, .int .i64 o.m, .int .i64 (o.f 0), .int .i64 (o.f 1), .int .i64 (o.f 2), .int .i64 (o.f 3), .int .i64 (o.f 4), .int .i64 (o.f 5), .int .i64 (o.f 6), .int .i64 (o.f 7), .int .i64 o.a, .int .i64 o.b, .int .i64 o.ta, .int .i64 o.tb, .int .i64 o.k, .int .i64 o.n] 40) = A at *
             have HSA : Hid (∀ y : World, y.heap[wr.heap.size]? = some (.cells #[.int .i64 o.d, .int .i64 o.m, .int .i64 (o.f 0), .int .i64 (o.f 1), .int .i64 (o.f 2), .int .i64 (o.f 3), .int .i64 (o.f 4), .int .i64 (o.f 5), .int .i64 (o.f 6), .int .i64 (o.f 7), .int .i64 o.a, .int .i64 o.b, .int .i64 o.ta, .int .i64 o.tb, .int .i64 o.k, .int .i64 o.n] 40) → (y.cell? ⟨wr.heap.size, 0, none⟩ = some (.int .i64 o.d) ∧ y.cell? ⟨wr.heap.size, 1, none⟩ = some (.int .i64 o.m) ∧ y.cell? ⟨wr.heap.size, 2, none⟩ = some (.int .i64 (o.f 0)) ∧ y.cell? ⟨wr.heap.size, 3, none⟩ = some (.int .i64 (o.f 1)) ∧ y.cell? ⟨wr.heap.size, 4, none⟩ = some (.int .i64 (o.f 2)) ∧ y.cell? ⟨wr.heap.size, 5, none⟩ = some (.int .i64 (o.f 3)) ∧ y.cell? ⟨wr.heap.size, 6, none⟩ = some (.int .i64 (o.f 4)) ∧ y.cell? ⟨wr.heap.size, 7, none⟩ = some (.int .i64 (o.f 5)) ∧ y.cell? ⟨wr.heap.size, 8, none⟩ = some (.int .i64 (o.f 6)) ∧ y.cell? ⟨wr.heap.size, 9, none⟩ = some (.int .i64 (o.f 7)) ∧ y.cell? ⟨wr.heap.size, 10, none⟩ = some (.int .i64 o.a) ∧ y.cell? ⟨wr.heap.size, 11, none⟩ = some (.int .i64 o.b) ∧ y.cell? ⟨wr.heap.size, 12, none⟩ = some (.int .i64 o.ta) ∧ y.cell? ⟨wr.heap.size, 13, none⟩ = some (.int .i64 o.tb) ∧ y.cell? ⟨wr.heap.size, 14, none⟩ = some (.int .i64 o.k) ∧ y.cell? ⟨wr.heap.size, 15, none⟩ = some (.int .i64 o.n))) := Lib.hid (fun y hy => by
               refine ⟨?_, ?_, ?_, ?_, ?_, ?_, ?_, ?_, ?_, ?_, ?_, ?_, ?_, ?_, ?_, ?_⟩ <;> (rw [cell_of_row _ _ _ _ _ _ hy]; rfl))
             have HC0 := Lib.hid (HSA.out A HBX.out)
             obtain ⟨ca0, ca1, ca2, ca3, ca4, ca5, ca6, ca7, ca8, ca9, ca10, ca11, ca12, ca13, ca14, ca15⟩ := HC0.out
             clear c0 c1 c2 c3 c4 c5 c6 c7 c8 c9 c10 c11 c12 c13 c14 c15
             have hAl := (Array.getElem?_eq_some_iff.1 HBX.out).1
             have cqA : ∃ vg, A.cell? ⟨q, 0, none⟩ = some vg := by
               obtain ⟨c9, vL, hz⟩ := HTA.out.zoo
               obtain ⟨vg, vl, hqh, -⟩ := hz.slots
               exact ⟨vg, by rw [cell_of_row _ _ _ _ _ _ hqh]; rfl⟩
             go_region_law (first
               | (go_simp
                  go_at_call 12
                  refine (did_any w.heap.size q F G s.1 s.2 _ o _ (HTA.out.later (Below.refl _ _).drew).wld (HTA.out.later (Below.refl _ _).drew).zoo HTA.out.ap HOK.out HOP.out).mono ?_
                  rintro e w5 ⟨rfl, F5, G5, h5, z5, ap5, k5, m5, n5⟩
                  have hT5 : BothW w w5 w.heap.size q F5 G5 (stepW s o) := ⟨h5, z5, ap5, m5.above HTA.out.below.drew.size HTA.out.fb, n5.above HTA.out.below.drew.size HTA.out.gb, HTA.out.below.drew.trans (k5.below HTA.out.below.drew.size (fun b' hb' => hb'.elim (HTA.out.fb b') (HTA.out.gb b')))⟩
                  have HT5 := Lib.hid hT5
                  have HB5 : Hid (w5.heap[wr.heap.size]? = some (.cells #[.int .i64 o.d, .int .i64 o.m, .int .i64 (o.f 0), .int .i64 (o.f 1), .int .i64 (o.f 2), .int .i64 (o.f 3), .int .i64 (o.f 4), .int .i64 (o.f 5), .int .i64 (o.f 6), .int .i64 (o.f 7), .int .i64 o.a, .int .i64 o.b, .int .i64 o.ta, .int .i64 o.tb, .int .i64 o.k, .int .i64 o.n] 40)) := Lib.hid (by rw [k5.block _ hAl (fun h => h.elim HNB.out.1 HNB.out.2)]; exact HBX.out)
                  obtain ⟨cg, vL5, hzi⟩ := hT5.zoo
                  obtain ⟨vg, vl, hqh, hvg, -⟩ := hzi.slots
                  have cq5 : w5.cell? ⟨q, 0, none⟩ = some vg := by rw [cell_of_row _ _ _ _ _ _ hqh]; rfl
                  have hql5 : q < w5.heap.size := (Array.getElem?_eq_some_iff.1 hqh).1
                  have HVG := Lib.hid hvg
                  clear h5 z5 ap5 k5 m5 n5 hT5 hzi hqh hvg)
               | (go_simp
                  go_at_call 14
                  refine (worldGens_any _ F5 _ _ _ HT5.out.wld (HOK.out.step o).slots).mono ?_
                  rintro e w6 ⟨v6, rfl, ho6, hb6⟩
                  have HT6 := Lib.hid (HT5.out.later hb6)
                  have HO6 := Lib.hid ho6.reads
                  have HVG6 := Lib.hid (HVG.out.reads.later hb6)
                  have cq6 : w6.cell? ⟨q, 0, none⟩ = some vg := by rw [hb6.cell (p := ⟨q, 0, none⟩) hql5]; exact cq5
                  have hql6 : q < w6.heap.size := Nat.lt_of_lt_of_le hql5 hb6.size
                  have HB6 : Hid (w6.heap[wr.heap.size]? = some (.cells #[.int .i64 o.d, .int .i64 o.m, .int .i64 (o.f 0), .int .i64 (o.f 1), .int .i64 (o.f 2), .int .i64 (o.f 3), .int .i64 (o.f 4), .int .i64 (o.f 5), .int .i64 (o.f 6), .int .i64 (o.f 7), .int .i64 o.a, .int .i64 o.b, .int .i64 o.ta, .int .i64 o.tb, .int .i64 o.k, .int .i64 o.n] 40)) := Lib.hid (by rw [hb6.block _ (Array.getElem?_eq_some_iff.1 HB5.out).1]; exact HB5.out)
                  clear ho6 hb6)
               | (go_simp
                  go_at_call 13
                  refine (eqInt_any _ _ _ _ _ (Ints.ofReads HO6.out) (Ints.ofReads HVG6.out)).mono ?_
                  rintro e w7 ⟨rfl, rfl⟩
                  rw [decide_eq_true rfl]))
             all_goals
               have HT7 := HT6
               have hx6 := HB6.out
               have hx6l := (Array.getElem?_eq_some_iff.1 hx6).1
               have kk10 : w6.cell? ⟨wr.heap.size, 10, none⟩ = some (.int .i64 o.a) := by rw [cell_of_row _ _ _ _ _ _ hx6]; rfl
               have kk11 : w6.cell? ⟨wr.heap.size, 11, none⟩ = some (.int .i64 o.b) := by rw [cell_of_row _ _ _ _ _ _ hx6]; rfl
               clear hx6 cq5 cq6
               have HOK6 := Lib.hid (HOK.out.step o)
               obtain ⟨s5, hs5⟩ : ∃ s5, stepW s o = s5 := ⟨_, rfl⟩
               rw [hs5] at HT7 HTK
               have HOK7 : Hid (WOk s5.1 s5.2) := Lib.hid (by rw [← hs5]; exact HOK6.out)
               obtain ⟨r, hr⟩ : ∃ r, getR s5.2 o.a o.b = r := ⟨_, rfl⟩
               obtain ⟨x, hx⟩ : ∃ x, getE s5.2 o.a o.b = x := ⟨_, rfl⟩
               have HRX : Hid (getR s5.2 o.a o.b = r ∧ getE s5.2 o.a o.b = x) := Lib.hid ⟨hr, hx⟩
               clear hs5 hr hx
               go_wp2_with fail
               refine (worldGet_any _ F5 s5.1 s5.2 o.a o.b r x _ HT7.out.wld HOP.out.1 HOP.out.2 HRX.out.1 HRX.out.2).mono ?_
               rintro e w8 ⟨rfl, hb8⟩
               have hA8 : Below w6.heap.size w6 (w8.alloc (.cells #[.int .i64 r.m, .int .i64 (r.f 0), .int .i64 (r.f 1), .int .i64 (r.f 2), .int .i64 (r.f 3), .int .i64 (r.f 4), .int .i64 (r.f 5), .int .i64 (r.f 6), .int .i64 (r.f 7)] 36)) := nb_alloc hb8 _
               have HT8 := Lib.hid (HT7.out.later hA8)
               have hx8 : (w8.alloc (.cells #[.int .i64 r.m, .int .i64 (r.f 0), .int .i64 (r.f 1), .int .i64 (r.f 2), .int .i64 (r.f 3), .int .i64 (r.f 4), .int .i64 (r.f 5), .int .i64 (r.f 6), .int .i64 (r.f 7)] 36)).heap[wr.heap.size]? = some (.cells #[.int .i64 o.d, .int .i64 o.m, .int .i64 (o.f 0), .int .i64 (o.f 1), .int .i64 (o.f 2), .int .i64 (o.f 3), .int .i64 (o.f 4), .int .i64 (o.f 5), .int .i64 (o.f 6), .int .i64 (o.f 7), .int .i64 o.a, .int .i64 o.b, .int .i64 o.ta, .int .i64 o.tb, .int .i64 o.k, .int .i64 o.n] 40) := by rw [hA8.block _ hx6l]; exact HB6.out
               have hx8' : w8.heap[wr.heap.size]? = some (.cells #[.int .i64 o.d, .int .i64 o.m, .int .i64 (o.f 0), .int .i64 (o.f 1), .int .i64 (o.f 2), .int .i64 (o.f 3), .int .i64 (o.f 4), .int .i64 (o.f 5), .int .i64 (o.f 6), .int .i64 (o.f 7), .int .i64 o.a, .int .i64 o.b, .int .i64 o.ta, .int .i64 o.tb, .int .i64 o.k, .int .i64 o.n] 40) := by rw [hb8.block _ hx6l]; exact HB6.out
               have hx8l := (Array.getElem?_eq_some_iff.1 hx8').1
               have m10 : (w8.alloc (.cells #[.int .i64 r.m, .int .i64 (r.f 0), .int .i64 (r.f 1), .int .i64 (r.f 2), .int .i64 (r.f 3), .int .i64 (r.f 4), .int .i64 (r.f 5), .int .i64 (r.f 6), .int .i64 (r.f 7)] 36)).cell? ⟨wr.heap.size, 10, none⟩ = some (.int .i64 o.a) := by rw [cell_of_row _ _ _ _ _ _ hx8]; rfl
               have m11 : (w8.alloc (.cells #[.int .i64 r.m, .int .i64 (r.f 0), .int .i64 (r.f 1), .int .i64 (r.f 2), .int .i64 (r.f 3), .int .i64 (r.f 4), .int .i64 (r.f 5), .int .i64 (r.f 6), .int .i64 (r.f 7)] 36)).cell? ⟨wr.heap.size, 11, none⟩ = some (.int .i64 o.b) := by rw [cell_of_row _ _ _ _ _ _ hx8]; rfl
               have p10 : w8.cell? ⟨wr.heap.size, 10, none⟩ = some (.int .i64 o.a) := by rw [cell_of_row _ _ _ _ _ _ hx8']; rfl
               have p11 : w8.cell? ⟨wr.heap.size, 11, none⟩ = some (.int .i64 o.b) := by rw [cell_of_row _ _ _ _ _ _ hx8']; rfl
               have HBB : Hid ((w8.alloc (.cells #[.int .i64 r.m, .int .i64 (r.f 0), .int .i64 (r.f 1), .int .i64 (r.f 2), .int .i64 (r.f 3), .int .i64 (r.f 4), .int .i64 (r.f 5), .int .i64 (r.f 6), .int .i64 (r.f 7)] 36)).heap[w8.heap.size]? = some (.cells #[.int .i64 r.m, .int .i64 (r.f 0), .int .i64 (r.f 1), .int .i64 (r.f 2), .int .i64 (r.f 3), .int .i64 (r.f 4), .int .i64 (r.f 5), .int .i64 (r.f 6), .int .i64 (r.f 7)] 36)) := Lib.hid (heap_alloc_new _ _)
               clear hb8 hA8 hx8 hx8' kk10 kk11
               go_wp2_with fail
               refine (refGet_any q G5 s5.1 s5.2 _ o.a o.b r x _ HT8.out.zoo HRX.out.1 HRX.out.2).mono ?_
               rintro e w9 ⟨rfl, hb9⟩
               have hbb : w9.heap[w8.heap.size]? = some (.cells #[.int .i64 r.m, .int .i64 (r.f 0), .int .i64 (r.f 1), .int .i64 (r.f 2), .int .i64 (r.f 3), .int .i64 (r.f 4), .int .i64 (r.f 5), .int .i64 (r.f 6), .int .i64 (r.f 7)] 36) := by rw [hb9.block _ (Array.getElem?_eq_some_iff.1 HBB.out).1]; exact HBB.out
               have hbbl := (Array.getElem?_eq_some_iff.1 hbb).1
               have kb0 : w9.cell? ⟨w8.heap.size, 0, none⟩ = some (.int .i64 r.m) := by rw [cell_of_row _ _ _ _ _ _ hbb]; rfl
               have kb1 : w9.cell? ⟨w8.heap.size, 1, none⟩ = some (.int .i64 (r.f 0)) := by rw [cell_of_row _ _ _ _ _ _ hbb]; rfl
               have kb2 : w9.cell? ⟨w8.heap.size, 2, none⟩ = some (.int .i64 (r.f 1)) := by rw [cell_of_row _ _ _ _ _ _ hbb]; rfl
               have kb3 : w9.cell? ⟨w8.heap.size, 3, none⟩ = some (.int .i64 (r.f 2)) := by rw [cell_of_row _ _ _ _ _ _ hbb]; rfl
               have kb4 : w9.cell? ⟨w8.heap.size, 4, none⟩ = some (.int .i64 (r.f 3)) := by rw [cell_of_row _ _ _ _ _ _ hbb]; rfl
               have kb5 : w9.cell? ⟨w8.heap.size, 5, none⟩ = some (.int .i64 (r.f 4)) := by rw [cell_of_row _ _ _ _ _ _ hbb]; rfl
               have kb6 : w9.cell? ⟨w8.heap.size, 6, none⟩ = some (.int .i64 (r.f 5)) := by rw [cell_of_row _ _ _ _ _ _ hbb]; rfl
               have kb7 : w9.cell? ⟨w8.heap.size, 7, none⟩ = some (.int .i64 (r.f 6)) := by rw [cell_of_row _ _ _ _ _ _ hbb]; rfl
               have kb8 : w9.cell? ⟨w8.heap.size, 8, none⟩ = some (.int .i64 (r.f 7)) := by rw [cell_of_row _ _ _ _ _ _ hbb]; rfl
               have heq8 := eq8b_run r.f
               have hxx : (x != x) = false := by simp
               have HT9 := Lib.hid (HT8.out.later (nb_alloc hb9 (.cells #[.int .i64 r.m, .int .i64 (r.f 0), .int .i64 (r.f 1), .int .i64 (r.f 2), .int .i64 (r.f 3), .int .i64 (r.f 4), .int .i64 (r.f 5), .int .i64 (r.f 6), .int .i64 (r.f 7)] 36)))
               clear hb9 hbb m10 m11 p10 p11
               go_wp2
               go_roundw
               case rel => exact ⟨t + 1, F5, G5, by omega, by go_num, by rw [HTK.out]; exact HT9⟩
               case measure => simp [intOf]; omega)
      · obtain rfl : t = n := by omega
        have HE := Lib.hid (killE_neg (WOk.made (z0.take t)))
        have HOKE := Lib.hid (WOk.made (z0.take t))
        generalize madeW (z0.take t) = s at *
        go_wp2_with fail
        refine (worldKill_any _ F s.1 s.2 (-1) 0 _ hT.out.wld HOKE.out ⟨by decide, by decide⟩ ⟨by decide, by decide⟩).mono ?_
        rintro e w9 ⟨rfl, F9, h9, hk9, hm9⟩
        rw [HE.out]
        have HBN : Hid (Below w.heap.size w w9) := Lib.hid (id (hT.out.below.trans (hk9.below hT.out.below.size hT.out.fb)))
        clear h9 hk9 hm9
        go_wp2
        go_ret
        exact ⟨rfl, HBN.out⟩

namespace worldDoes
theorem own : ownKnob Try.prog.godebug = none := by kernel_rfl
theorem laidOut : laidOutB Try.prog = true := by kernel_rfl

set_option maxRecDepth 100000 in
set_option maxHeartbeats 4000000 in
theorem lifted (os : Os) (started : os.Started) (H : Type) (enc : TypeId × Value → H) :
    ReturnsInHanded {} Try.checked os 3 .any (Rows.worldDoesSpec.pre6 enc Try.prog Try.f3 Rows.worldDoesRow.domain false) (Rows.worldDoesSpec.post enc Try.prog Try.f3 false true false false) := by
  refine returnsInHanded_of_change (C := Try.checked) own started (by kernel_rfl) Try.func3
    (ChangeSpec.witness6 (enc := enc) (C := Try.checked) false ⟨#[], #[.slice none 0 0], []⟩ 8 (by kernel_rfl) (by kernel_rfl) (by kernel_rfl) (by kernel_rfl)) ?_
  intro W base args ds gs before hval0 hW hcnd _
  have hval : ∀ (j : Nat) t v, Try.f3.params[j]? = some t → args[j]? = some v → Value.okWide Try.prog W .any base t v := hval0
  have hW' := hW
  obtain ⟨p, q, hA0, hV, rfl, hfz, hnd⟩ := hW
  have hA : DataW.TrodAll enc Try.prog W 0 (fun _ => true) true Try.f3.params.toList args.toList ds p := hA0
  rw [Try.params3] at hA hval
  obtain ⟨v0, vs0, d0, ds0, p0, q0, hargs, rfl, rfl, h0, r0⟩ := trodAll_cons hA
  obtain ⟨rfl, rfl, rfl⟩ := trodAll_nil r0
  obtain rfl : args = #[v0] := by cases args; simp_all
  obtain ⟨rfl, rfl⟩ := trodVars_none hV
  have k0' := h0
  have lt0 : ∀ x ∈ p0, x.block < W.heap.size := by obtain ⟨m, hm⟩ := h0; exact DataW.trod_lt m _ _ _ hm
  obtain ⟨z0, i0, j0⟩ : ∃ zs, Reads elOp W v0 zs ∧ ∀ x ∈ zs, OpOk x := by
    obtain ⟨a0, len0, cap0, rfl⟩ := okWide_slice Try.underlying22 (hval 0 22 v0 rfl rfl)
    exact Reads_ofP elOp OpOk Try.underlying22 (by kernel_rfl) op_dec h0
  clear hA0 hval0
  refine (worldDoes_walk v0 z0 j0 W i0).mono fun e W' ⟨he, bel⟩ => ?_
  subst he
  exact ⟨_, rfl, _, _, _, [], _, [], hW', trodAll_mk1 (shut_bool Try.underlying4 _), (trodAll_cons_mk (Below.trod laidOut (by kernel_rfl) (of_decide_eq_true (by kernel_rfl)) k0' bel lt0) trodAll_mk0), rfl, bel.frame _, fun h => by cases h⟩
end worldDoes

theorem worldDoes_proved : Rows.WorldDoesSaid :=
  OpenClaim.holds_of_wide 3 Try.f3 rfl rfl rfl rfl rfl rfl rfl ⟨rfl, rfl, rfl, rfl, rfl⟩ rfl rfl rfl rfl rfl (by kernel_rfl) Try.func3 (by kernel_rfl)
    (of_decide_eq_true (by kernel_rfl)) (by unfold Func.isWrapper; first | (rw [if_pos (by decide +kernel)]; kernel_rfl) | (rw [if_neg (by decide +kernel)]; exact ⟨rfl, rfl⟩))
    (fun os started H enc _ => worldDoes.lifted os started H enc)

end Go.Proofs.Ytakoejopgdaknaa

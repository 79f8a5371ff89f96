/- Two lists, one behind the other, are as one, if none looks at what the other one spawned: the statement ZooParts. No condition. -/
import Derived.Test.YtdpjpckknncleabGreatGroundA
import Derived.Test.YtdpjpckknncleabGreatKeptZoo
namespace Go.Proofs.YtdpjpckknncleabGreat
set_option maxRecDepth 8000
open Go.ChangeShapes Go.WideShapes Go.ChangeAt Go.RowKit
set_option linter.unusedVariables false

set_option maxRecDepth 8000 in
set_option maxHeartbeats 400000 in
theorem restB_any (n m : Int) (w : World) (hm : 0 < m) (hm' : m ≤ 2000000000000) :
    Calls Tryz.prog 9 #[.int .i64 n, .int .i64 m] w fun e w' => e = .returned (.int .i64 (n % m)) ∧ w = w' := by
  obtain ⟨r1, r2, b1, b2⟩ := rest_eq (n := n) hm
  have R1 := Lib.hid r1
  have R2 := Lib.hid r2
  clear r1 r2
  go_enter Tryz.func9, Tryz.ntmps9
  go_wp2
  all_goals go_ret
  · exact ⟨ret_int (R1.out ‹_›), rfl⟩
  · exact ⟨ret_int (R2.out ‹_›), rfl⟩
theorem Reads.takeT {α : Type} {E : El α} {w : World} {a : Option Addr} {n cap t : Nat} {xs : List α} (h : Reads E w (.slice a n cap) xs) (ht : t ≤ xs.length) : Reads E w (.slice a t cap) (xs.take t) := by
  obtain ⟨a', cap', e, hl, hm, hc⟩ := h
  simp only [Value.slice.injEq] at e
  obtain ⟨rfl, rfl, rfl⟩ := e
  have hlen : (xs.take t).length = t := by rw [List.length_take]; omega
  refine ⟨a, cap, by rw [hlen], by rw [hlen]; omega, hm, fun k hk => ?_⟩
  rw [hlen] at hk
  obtain ⟨b, off, e, hb, hcc⟩ := hc k (by omega)
  refine ⟨b, off, e, hb, fun j hj => ?_⟩
  rw [hcc j hj, List.getD_eq_getElem?_getD, List.getD_eq_getElem?_getD, List.getElem?_take_of_lt hk]
theorem Reads.dropM {α : Type} {E : El α} {w : World} {a : Option Addr} {n cap t : Nat} {xs : List α} (h : Reads E w (.slice a n cap) xs) (ht : t ≤ xs.length) : Reads E w (.slice (a.map (fun x => x.add (t * E.size))) (n - t) (cap - t)) (xs.drop t) := by
  obtain ⟨a', cap', e, hl, hm, hc⟩ := h
  simp only [Value.slice.injEq] at e
  obtain ⟨rfl, rfl, rfl⟩ := e
  have hlen : (xs.drop t).length = xs.length - t := by rw [List.length_drop]
  refine ⟨_, cap - t, by rw [hlen], by rw [hlen]; omega, by omega, fun k hk => ?_⟩
  rw [hlen] at hk
  obtain ⟨b, off, rfl, hb, hcc⟩ := hc (t + k) (by omega)
  refine ⟨b, off + t * E.size, by simp [Addr.add], hb, fun j hj => ?_⟩
  have : off + t * E.size + k * E.size + j = off + (t + k) * E.size + j := by rw [Nat.add_mul]; omega
  rw [this, hcc j hj, List.getD_eq_getElem?_getD, List.getD_eq_getElem?_getD, List.getElem?_drop]
theorem Reads.dropAll {α : Type} {E : El α} {w : World} {a a' : Option Addr} {n cap c' t : Nat} {xs : List α} (h : Reads E w (.slice a n cap) xs) (ht : xs.length ≤ t) (hc : c' ≤ maxLen) : Reads E w (.slice a' 0 c') (xs.drop t) := by
  have hd : xs.drop t = [] := List.drop_eq_nil_of_le ht
  rw [hd]
  exact ⟨a', c', rfl, Nat.zero_le _, hc, fun k hk => by simp at hk⟩

set_option maxRecDepth 100000 in
set_option maxHeartbeats 16000000 in
theorem zooParts_walk (u0 : Value) (z0 : List Opm) (j0 : ∀ x ∈ z0, OpOk x) (a1 : Int) (i1 : I64 a1) (w : World) (i0 : Reads elOp w u0 z0) (s0 : z0.length * 128 ≤ 140737488351232) :
    Calls Tryz.prog 5 #[u0, .int .i64 a1] w fun e w' => e = .returned (.bool true) ∧ Below w.heap.size w w' := by
  have HR := Lib.hid i0
  have HOS := Lib.hid j0
  obtain ⟨oa, oc, hue, hlc, hm, hcc⟩ := i0
  subst hue
  obtain ⟨n, hn⟩ : ∃ n, z0.length = n := ⟨_, rfl⟩
  have HN := Lib.hid hn
  have HC := Lib.hid hcc
  unfold maxLen at hm
  rw [hn] at hlc HC s0 HR ⊢
  clear j0 hcc hn
  go_enter Tryz.func5, Tryz.ntmps5
  go_wp2_with fail
  refine (kept_any _).mono ?_
  rintro e w1 ⟨rfl, hb1⟩
  have HB1 := Lib.hid hb1
  clear hb1
  go_wp2
  go_loopw [19] (fun i wr => ∃ t : Nat, t ≤ n ∧ i = .int .i64 t ∧ Hid (∀ o ∈ z0.take t, plainO o) ∧ Hid (Below w.heap.size w wr)) (fun i _ => n - (intOf i).toNat)
  case atStart => exact ⟨0, by omega, rfl, Lib.hid (by simp), HB1⟩
  case round =>
    obtain ⟨t, htn, rfl, hP, hB⟩ := hrel
    by_cases hlt : t < n
    · as_aux_lemma =>
      obtain ⟨bb, off, rfl, hbb, hck⟩ := HC.out t hlt
      obtain ⟨o, ho⟩ : ∃ o, z0.getD t opZ = o := ⟨_, rfl⟩
      have htl : t < z0.length := by rw [HN.out]; exact hlt
      have hcr : ∀ jj, jj < 16 → wr.cell? ⟨bb, off + t * 16 + jj, none⟩ = (elOp.enc o)[jj]? := fun jj hjj => by rw [hB.out.cell (p := ⟨bb, _, none⟩) hbb, ← ho]; exact hck jj hjj
      have c0 : wr.cell? ⟨bb, off + t * 16, none⟩ = some (.int .i64 o.d) := hcr 0 (by decide)
      have c1 : wr.cell? ⟨bb, off + t * 16 + 1, none⟩ = some (.int .i64 o.m) := hcr 1 (by decide)
      have c2 : wr.cell? ⟨bb, off + t * 16 + 2, none⟩ = some (.int .i64 (o.f 0)) := hcr 2 (by decide)
      have c3 : wr.cell? ⟨bb, off + t * 16 + 3, none⟩ = some (.int .i64 (o.f 1)) := hcr 3 (by decide)
      have c4 : wr.cell? ⟨bb, off + t * 16 + 4, none⟩ = some (.int .i64 (o.f 2)) := hcr 4 (by decide)
      have c5 : wr.cell? ⟨bb, off + t * 16 + 5, none⟩ = some (.int .i64 (o.f 3)) := hcr 5 (by decide)
      have c6 : wr.cell? ⟨bb, off + t * 16 + 6, none⟩ = some (.int .i64 (o.f 4)) := hcr 6 (by decide)
      have c7 : wr.cell? ⟨bb, off + t * 16 + 7, none⟩ = some (.int .i64 (o.f 5)) := hcr 7 (by decide)
      have c8 : wr.cell? ⟨bb, off + t * 16 + 8, none⟩ = some (.int .i64 (o.f 6)) := hcr 8 (by decide)
      have c9 : wr.cell? ⟨bb, off + t * 16 + 9, none⟩ = some (.int .i64 (o.f 7)) := hcr 9 (by decide)
      have c10 : wr.cell? ⟨bb, off + t * 16 + 10, none⟩ = some (.int .i64 o.a) := hcr 10 (by decide)
      have c11 : wr.cell? ⟨bb, off + t * 16 + 11, none⟩ = some (.int .i64 o.b) := hcr 11 (by decide)
      have c12 : wr.cell? ⟨bb, off + t * 16 + 12, none⟩ = some (.int .i64 o.ta) := hcr 12 (by decide)
      have c13 : wr.cell? ⟨bb, off + t * 16 + 13, none⟩ = some (.int .i64 o.tb) := hcr 13 (by decide)
      have c14 : wr.cell? ⟨bb, off + t * 16 + 14, none⟩ = some (.int .i64 o.k) := hcr 14 (by decide)
      have c15 : wr.cell? ⟨bb, off + t * 16 + 15, none⟩ = some (.int .i64 o.n) := hcr 15 (by decide)
      have HTK : Hid (z0.take (t + 1) = z0.take t ++ [o]) := Lib.hid (by rw [take_snocD z0 t opZ htl, ho])
      have hbw : bb < wr.heap.size := Nat.lt_of_lt_of_le hbb hB.out.size
      have HA : Hid (Below w.heap.size w (wr.alloc (.cells #[.int .i64 o.d, .int .i64 o.m, .int .i64 (o.f 0), .int .i64 (o.f 1), .int .i64 (o.f 2), .int .i64 (o.f 3), .int .i64 (o.f 4), .int .i64 (o.f 5), .int .i64 (o.f 6), .int .i64 (o.f 7), .int .i64 o.a, .int .i64 o.b, .int .i64 o.ta, .int .i64 o.tb, .int .i64 o.k, .int .i64 o.n] 47))) := Lib.hid (nb_alloc hB.out _)
      clear hcr hck ho htl
      by_cases ha : o.a < 0
      · as_aux_lemma =>
        go_wp2
        go_ret
        exact ⟨rfl, HA.out⟩
      · by_cases hb : o.ta < 0
        · as_aux_lemma =>
          go_wp2
          go_ret
          exact ⟨rfl, HA.out⟩
        · as_aux_lemma =>
          have HNX : Hid (∀ x ∈ z0.take (t + 1), plainO x) := Lib.hid (by
            rw [HTK.out]
            intro x hx
            rcases List.mem_append.1 hx with hx | hx
            · exact hP.out x hx
            · rw [List.mem_singleton.1 hx]; exact ⟨by omega, by omega⟩)
          go_wp2
          go_roundw
          case rel => exact ⟨t + 1, by omega, by go_num, HNX, HA⟩
          case measure => simp [intOf]; omega
    · as_aux_lemma =>
      obtain rfl : n = t := by omega
      have HPL : Hid (∀ o ∈ z0, plainO o) := Lib.hid (by have := hP.out; rwa [List.take_of_length_le (by rw [HN.out]; exact Nat.le_refl _)] at this)
      go_wp2_with fail
      refine (restB_any a1 ((n : Int) + 1) _ (by omega) (by omega)).mono ?_
      rintro e w2 ⟨rfl, rfl⟩
      obtain ⟨k, hk, hkn⟩ : ∃ k : Nat, a1 % ((n : Int) + 1) = (k : Int) ∧ k ≤ n := by
        have h1 := Int.emod_nonneg a1 (b := (n : Int) + 1) (by omega)
        have h2 := Int.emod_lt_of_pos a1 (b := (n : Int) + 1) (by omega)
        exact ⟨(a1 % ((n : Int) + 1)).toNat, by omega, by omega⟩
      rw [hk]
      clear hk
      go_wp2_with fail
      refine (zooNew_any _).mono ?_
      rintro e w3 ⟨rfl, hw3⟩
      have HZ3 : Hid (PzAt w3 wr.heap.size (fun b => b = wr.heap.size) zNil ∧ Below wr.heap.size wr w3 ∧ w3.heap.size = wr.heap.size + 1) := Lib.hid (by rw [← hw3]; exact ⟨PzAt.new wr, nb_alloc (Below.refl _ _) _, by simp⟩)
      clear hw3
      go_wp2_with fail
      refine (zooNew_any _).mono ?_
      rintro e w4 ⟨rfl, hw4⟩
      have HZ4 : Hid (PzAt w4 w3.heap.size (fun b => b = w3.heap.size) zNil ∧ Below w3.heap.size w3 w4 ∧ w4.heap.size = w3.heap.size + 1) := Lib.hid (by rw [← hw4]; exact ⟨PzAt.new w3, nb_alloc (Below.refl _ _) _, by simp⟩)
      have HB4 : Hid (Below w.heap.size w w4) := Lib.hid (nb_trans hB.out (nb_trans HZ3.out.2.1 HZ4.out.2.1))
      clear hw4
      go_wp2_with fail
      refine (zooAll_any wr.heap.size _ zNil _ z0 _ (HZ3.out.1.later HZ4.out.2.1) ZOk.nil (HR.out.later HB4.out) HOS.out).mono ?_
      rintro e w5 hp
      obtain ⟨ae, hae⟩ : ∃ x, allE zNil z0 = x := ⟨_, rfl⟩
      obtain ⟨an, han⟩ : ∃ x, allN zNil z0 = x := ⟨_, rfl⟩
      rw [hae, han] at hp
      obtain ⟨rfl, F5, hz5, hk5, hm5⟩ := hp
      have HB5 : Hid (Below w.heap.size w w5) := Lib.hid (HB4.out.trans (hk5.below HB4.out.size (fun b e => by have := hB.out.size; omega)))
      by_cases ha0 : ae = 0
      · as_aux_lemma =>
        subst ha0
        obtain ⟨p1, p2, p3, p4, p5⟩ := all_parts HPL.out (k := k) (by rw [HN.out]; exact hkn) hae
        have HZ5 := Lib.hid hz5
        have HG5 : Hid (PzAt w5 w3.heap.size (fun b => b = w3.heap.size) zNil) := Lib.hid (HZ4.out.1.kept hk5 (fun b e e2 => by have := HZ3.out.2.2; omega))
        have HM5 : Hid (∀ b, F5 b → b = wr.heap.size ∨ w4.heap.size ≤ b) := Lib.hid hm5
        have HPP : Hid (allE (allZ zNil (z0.take k)) (z0.drop k) = 0 ∧ allN (allZ zNil (z0.take k)) (z0.drop k) = z0.length - k ∧ allZ (allZ zNil (z0.take k)) (z0.drop k) = allZ zNil z0) := Lib.hid ⟨p3, p4, p5⟩
        have HP12 : Hid (allE zNil (z0.take k) = 0 ∧ allN zNil (z0.take k) = k) := Lib.hid ⟨p1, p2⟩
        have HSZ : Hid (w4.heap.size ≤ w5.heap.size) := Lib.hid hk5.size
        have HOZ : Hid (ZOk (allZ zNil (z0.take k))) := Lib.hid (ZOk.nil.all _)
        have HOZZ : Hid (ZOk (allZ zNil z0)) := Lib.hid (ZOk.nil.all _)
        have hkc : (k : Int) ≤ (oc : Int) := by omega
        clear hz5 hk5 hm5 hae p1 p2 p3 p4 p5 han
        go_wp2_with fail
        refine (zooAll_any w3.heap.size _ zNil _ (z0.take k) _ HG5.out ZOk.nil (Reads.takeT (HR.out.later HB5.out) (by rw [HN.out]; exact hkn)) (fun o ho => HOS.out o (List.mem_of_mem_take ho))).mono ?_
        rintro e w6 hp
        rw [HP12.out.1, HP12.out.2] at hp
        obtain ⟨rfl, F6, hz6, hk6, hm6⟩ := hp
        have HZ6 : Hid (PzAt w6 wr.heap.size F5 (allZ zNil z0)) := Lib.hid (HZ5.out.kept hk6 (fun b e e2 => by have := HM5.out b e; have := HZ3.out.2.2; have := HZ4.out.2.2; omega))
        have HG6 := Lib.hid hz6
        have HAP6 : Hid (∀ b, F5 b → ¬ F6 b) := Lib.hid (fun b e e2 => by have h1 := HM5.out b e; have h2 := hm6 b e2; have := HZ3.out.2.2; have := HZ4.out.2.2; have := HZ5.out.lt b e; omega)
        have HGE6 : Hid (∀ b, F6 b → w3.heap.size ≤ b) := Lib.hid (fun b e => by have h2 := hm6 b e; have := HB5.out.size; have : w4.heap.size ≤ w5.heap.size := HSZ.out; have := HZ4.out.2.2; omega)
        have HB6 : Hid (Below w.heap.size w w6) := Lib.hid (HB5.out.trans (hk6.below HB5.out.size (fun b e => by have := hB.out.size; have := HZ3.out.2.2; omega)))
        clear hz6 hk6 hm6
        by_cases hck : oc = k
        · as_aux_lemma =>
          have HD : Hid (∀ a' c', c' ≤ maxLen → Reads elOp w6 (.slice a' 0 c') (z0.drop k)) := Lib.hid (fun a' c' hc' => Reads.dropAll (HR.out.later HB6.out) (by rw [HN.out]; omega) hc')
          obtain rfl : n = k := by omega
          subst hck
          go_wp2_with fail
          refine (zooAll_any w3.heap.size F6 _ _ (z0.drop oc) _ HG6.out HOZ.out (HD.out _ _ (by unfold maxLen; omega)) (fun o ho => HOS.out o (List.mem_of_mem_drop ho))).mono ?_
          rintro e w7 hp
          rw [HPP.out.1, HPP.out.2.1, HPP.out.2.2] at hp
          obtain ⟨rfl, F7, hz7, hk7, hm7⟩ := hp
          have HZ7 : Hid (PzAt w7 wr.heap.size F5 (allZ zNil z0)) := Lib.hid (HZ6.out.kept hk7 (fun b e e2 => HAP6.out b e e2))
          have HG7 := Lib.hid hz7
          have HB7 : Hid (Below w.heap.size w w7) := Lib.hid (HB6.out.trans (hk7.below HB6.out.size (fun b e => by have := HGE6.out b e; have := hB.out.size; have := HZ3.out.2.1.size; omega)))
          have hsum : wrap64 ((oc : Int) + ((z0.length - oc : Nat) : Int)) = (oc : Int) := by rw [HN.out]; unfold wrap64; omega
          clear hz7 hk7 hm7
          go_wp2_with fail
          refine (zooState_any wr.heap.size F5 _ _ HZ7.out HOZZ.out).mono ?_
          rintro e w8 ⟨xg, xr, xb, rfl, hxt, hb8⟩
          have HXT := Lib.hid hxt
          have HB8 := Lib.hid hb8
          clear hxt hb8
          go_wp2_with fail
          refine (zooState_any w3.heap.size F7 _ _ (HG7.out.later HB8.out) HOZZ.out).mono ?_
          rintro e w9 ⟨yg, yr, yb, rfl, hyt, hb9⟩
          have HYT := Lib.hid hyt
          have HB9 := Lib.hid hb9
          clear hyt hb9
          go_wp2_with fail
          refine (sameSt_any _ (HXT.out.later HB9.out) HYT.out).mono ?_
          rintro e w10 ⟨rfl, hb10⟩
          have HB10 : Hid (Below w.heap.size w w10) := Lib.hid (nb_trans HB7.out (nb_trans HB8.out (nb_trans HB9.out hb10)))
          clear hb10
          go_wp2
          go_ret
          exact ⟨rfl, HB10.out⟩
        · as_aux_lemma =>
          have HD := Lib.hid (Reads.dropM (HR.out.later HB6.out) (t := k) (by rw [HN.out]; exact hkn))
          go_wp2_with fail
          refine (zooAll_any w3.heap.size F6 _ _ (z0.drop k) _ HG6.out HOZ.out HD.out (fun o ho => HOS.out o (List.mem_of_mem_drop ho))).mono ?_
          rintro e w7 hp
          rw [HPP.out.1, HPP.out.2.1, HPP.out.2.2] at hp
          obtain ⟨rfl, F7, hz7, hk7, hm7⟩ := hp
          have HZ7 : Hid (PzAt w7 wr.heap.size F5 (allZ zNil z0)) := Lib.hid (HZ6.out.kept hk7 (fun b e e2 => HAP6.out b e e2))
          have HG7 := Lib.hid hz7
          have HB7 : Hid (Below w.heap.size w w7) := Lib.hid (HB6.out.trans (hk7.below HB6.out.size (fun b e => by have := HGE6.out b e; have := hB.out.size; have := HZ3.out.2.1.size; omega)))
          have hsum : wrap64 ((k : Int) + ((z0.length - k : Nat) : Int)) = (n : Int) := by rw [HN.out]; unfold wrap64; omega
          clear hz7 hk7 hm7
          go_wp2_with fail
          refine (zooState_any wr.heap.size F5 _ _ HZ7.out HOZZ.out).mono ?_
          rintro e w8 ⟨xg, xr, xb, rfl, hxt, hb8⟩
          have HXT := Lib.hid hxt
          have HB8 := Lib.hid hb8
          clear hxt hb8
          go_wp2_with fail
          refine (zooState_any w3.heap.size F7 _ _ (HG7.out.later HB8.out) HOZZ.out).mono ?_
          rintro e w9 ⟨yg, yr, yb, rfl, hyt, hb9⟩
          have HYT := Lib.hid hyt
          have HB9 := Lib.hid hb9
          clear hyt hb9
          go_wp2_with fail
          refine (sameSt_any _ (HXT.out.later HB9.out) HYT.out).mono ?_
          rintro e w10 ⟨rfl, hb10⟩
          have HB10 : Hid (Below w.heap.size w w10) := Lib.hid (nb_trans HB7.out (nb_trans HB8.out (nb_trans HB9.out hb10)))
          clear hb10
          go_wp2
          go_ret
          exact ⟨rfl, HB10.out⟩
      · as_aux_lemma =>
        clear hz5 hk5 hm5 hae han
        go_wp2
        go_ret
        exact ⟨rfl, HB5.out⟩

namespace zooParts
theorem own : ownKnob Tryz.prog.godebug = none := by kernel_rfl
theorem laidOut : laidOutB Tryz.prog = true := by kernel_rfl

set_option maxRecDepth 100000 in
set_option maxHeartbeats 4000000 in
theorem lifted (os : Os) (started : os.Started) (H : Type) (enc : TypeId × Value → H) :
    ReturnsInHanded {} Tryz.checked os 5 .any (Rows.zooPartsSpec.pre6 enc Tryz.prog Tryz.f5 Rows.zooPartsRow.domain false) (Rows.zooPartsSpec.post enc Tryz.prog Tryz.f5 false true false false) := by
  refine returnsInHanded_of_change_sized (C := Tryz.checked) own started (by kernel_rfl) Tryz.func5
    (ChangeSpec.witness6 (enc := enc) (C := Tryz.checked) false ⟨#[], #[.slice none 0 0, .int .i64 0], []⟩ 8 (by kernel_rfl) (by kernel_rfl) (by kernel_rfl) (by kernel_rfl)) ?_
  intro W base args ds gs before hval0 hW hcnd hsz _
  have hval : ∀ (j : Nat) t v, Tryz.f5.params[j]? = some t → args[j]? = some v → Value.okWide Tryz.prog W .any base t v := hval0
  have hW' := hW
  obtain ⟨p, q, hA0, hV, rfl, hfz, hnd⟩ := hW
  have hA : DataW.TrodAll enc Tryz.prog W 0 (fun _ => true) true Tryz.f5.params.toList args.toList ds p := hA0
  rw [Tryz.params5] at hA hval
  obtain ⟨v0, vs0, d0, ds0, p0, q0, hargs, rfl, rfl, h0, r0⟩ := trodAll_cons hA
  obtain ⟨v1, vs1, d1, ds1, p1, q1, rfl, rfl, rfl, h1, r1⟩ := trodAll_cons r0
  obtain ⟨rfl, rfl, rfl⟩ := trodAll_nil r1
  obtain rfl : args = #[v0, v1] := by cases args; simp_all
  obtain ⟨rfl, rfl⟩ := trodVars_none hV
  have k0' := h0
  have lt0 : ∀ x ∈ p0, x.block < W.heap.size := by obtain ⟨m, hm⟩ := h0; exact DataW.trod_lt m _ _ _ hm
  have k1' := h1
  have lt1 : ∀ x ∈ p1, x.block < W.heap.size := by obtain ⟨m, hm⟩ := h1; exact DataW.trod_lt m _ _ _ hm
  obtain ⟨z0, i0, j0⟩ : ∃ zs, Reads elOp W v0 zs ∧ ∀ x ∈ zs, OpOk x := by
    obtain ⟨a0, len0, cap0, rfl⟩ := okWide_slice Tryz.underlying22 (hval 0 22 v0 rfl rfl)
    exact Reads_ofP elOp OpOk Tryz.underlying22 (by kernel_rfl) op_dec h0
  obtain ⟨a1, rfl, i1⟩ : ∃ a : Int, v1 = .int .i64 a ∧ I64 a := by
    obtain ⟨a, rfl, _, _, wa⟩ := open_int Tryz.underlying3 (hval 1 3 v1 rfl rfl) h1
    exact ⟨a, rfl, I64_of wa⟩
  rw [Tryz.params5] at hsz
  have s0 : z0.length * 128 ≤ 140737488351232 := by
    obtain ⟨aa, cc, ee, _⟩ := i0
    have hh := k0'
    rw [ee] at hh
    exact trod_len Tryz.underlying22 (show Tryz.prog.bytesOf 47 = 128 by kernel_rfl) hh (fun el sp hd => sized_slice hsz (j := 0) (t := 22) rfl (by rw [hd]; rfl) Tryz.underlying22)
  clear hA0 hval0
  refine (zooParts_walk v0 z0 j0 a1 i1 W i0 s0).mono fun e W' ⟨he, bel⟩ => ?_
  subst he
  exact ⟨_, rfl, _, _, _, [], _, [], hW', trodAll_mk1 (shut_bool Tryz.underlying4 _), (trodAll_cons_mk (Below.trod laidOut (by kernel_rfl) (of_decide_eq_true (by kernel_rfl)) k0' bel lt0) (trodAll_cons_mk (Below.trod laidOut (by kernel_rfl) (of_decide_eq_true (by kernel_rfl)) k1' bel lt1) trodAll_mk0)), rfl, bel.frame _, fun h => by cases h⟩
end zooParts

theorem zooParts_proved : Rows.ZooPartsSaid :=
  OpenClaim.holds_of_wide 5 Tryz.f5 rfl rfl rfl rfl rfl rfl rfl ⟨rfl, rfl, rfl, rfl, rfl⟩ rfl rfl rfl rfl rfl (by kernel_rfl) Tryz.func5 (by kernel_rfl)
    (of_decide_eq_true (by kernel_rfl)) (by unfold Func.isWrapper; first | (rw [if_pos (by decide +kernel)]; kernel_rfl) | (rw [if_neg (by decide +kernel)]; exact ⟨rfl, rfl⟩))
    (fun os started H enc _ => zooParts.lifted os started H enc)

end Go.Proofs.YtdpjpckknncleabGreat

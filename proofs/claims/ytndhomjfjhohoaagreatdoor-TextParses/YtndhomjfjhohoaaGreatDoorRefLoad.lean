
/- The contracts of the reference's Copy and SlotsLoad. -/
import Derived.Test.YtndhomjfjhohoaaGreatDoorRefTake
import Derived.Test.YtndhomjfjhohoaaGreatDoorGroundD
import Derived.Test.YtndhomjfjhohoaaGreatDoorGroundE
import Derived.Test.YtndhomjfjhohoaaGreatDoorCopyInt
import Derived.Deep.OwnRows
namespace Go.Proofs.YtndhomjfjhohoaaGreatDoor
set_option maxRecDepth 8000
open Go.RowKit

theorem livesL_zero (gens : List Int) : livesL (mkL gens []) = List.replicate gens.length false := by
  refine eqD (d := false) (by rw [livesL_len, mkL_len, List.length_replicate]) fun j hj => ?_
  rw [livesL_len, mkL_len] at hj
  rw [livesL_at, mkL_at hj]
  simp [List.getD_eq_getElem?_getD, hj]

/-- The reference's slots, newly made. -/
theorem ref_new {x w : World} {vg : Value} {gl n : Nat} {gens : List Int} (hn : gens.length = n) (hx : Below w.heap.size w x) (hg : OwnsF elInt x w.heap.size 3 vg gens) (hgl : x.heap[gl]? = some (.cells (madeCells #[.bool false] n) 4 (0, 0))) (hw : w.heap.size ≤ gl) (hne : ∀ k, vg.ownBlock = some k → k ≠ gl) (hnm : n ≤ maxLen) :
    ∃ G, RefAt (x.alloc (.cells #[vg, .slice (some ⟨gl, 0, none⟩) n n] 79)) x.heap.size 79 [] G (mkL gens []) ∧ (∀ k, G k → w.heap.size ≤ k) := by
  have hglt := (Array.getElem?_eq_some_iff.1 hgl).1
  refine ⟨fun k => k = x.heap.size ∨ k = gl ∨ vg.ownBlock = some k, ⟨vg, .slice (some ⟨gl, 0, none⟩) n n, heap_alloc_new x _, ?_, ?_, .inl rfl, ?_, ?_, ?_⟩, ?_⟩
  · rw [gensL_mkL]; exact hg.owns.later (nb_alloc (Below.refl _ _) _)
  · refine Owns.later (w := x) ?_ (nb_alloc (Below.refl _ _) _)
    rw [livesL_zero, hn]
    refine ⟨by rw [length_enc], .inr ⟨gl, n, _, by rw [List.length_replicate], Nat.zero_le _, hgl, by rw [List.length_replicate]; exact Nat.le_refl _, hnm, by rw [size_madeCells]; simp [elBool], ?_⟩⟩
    rw [List.length_replicate]
    have := made_enc elBool #[.bool false] rfl n
    rw [show elBool.size = 1 from rfl, Nat.mul_one] at this
    rw [this, show elBool.size = 1 from rfl, Nat.mul_one]
    exact List.take_of_length_le (by rw [length_enc]; simp [elBool])
  · intro k hk; exact ⟨.inr (.inr hk), by have := hg.lt hk; omega⟩
  · intro k hk
    have : gl = k := by simpa [Value.ownBlock] using hk
    subst this
    exact ⟨.inr (.inl rfl), by omega, fun e => hne gl e rfl⟩
  · intro k hk
    simp
    rcases hk with rfl | rfl | hk
    · omega
    · omega
    · have := hg.lt hk; omega
  · intro k hk
    have := hx.size
    rcases hk with rfl | rfl | hk
    · exact this
    · exact hw
    · exact hg.ge hk

def RLoadPost (w : World) (gens live : List Int) (e : Ending) (w' : World) : Prop :=
  ∃ u, e = .returned (.tuple #[u, .int .i64 (ldE gens live)]) ∧ Below w.heap.size w w' ∧ (ldE gens live ≠ 0 → u = .pointer none) ∧
    (ldE gens live = 0 → ∃ q G, u = .pointer (some ⟨q, 0, none⟩) ∧ RefAt w' q 79 [] G (mkL gens live) ∧ ∀ k, G k → w.heap.size ≤ k)
theorem RLoadPost.bad {w w' : World} {gens live : List Int} {c : Int} (h : ldE gens live = c) (hc : c ≠ 0) (hb : Below w.heap.size w w') : RLoadPost w gens live (.returned (.tuple #[.pointer none, .int .i64 c])) w' :=
  ⟨_, by rw [h], hb, fun _ => rfl, fun e => absurd (h.symm.trans e) hc⟩
theorem RLoadPost.good {w w' : World} {gens live : List Int} {q : Nat} {G : Nat → Prop} (h : ldE gens live = 0) (hb : Below w.heap.size w w') (hs : RefAt w' q 79 [] G (mkL gens live)) (hF : ∀ k, G k → w.heap.size ≤ k) : RLoadPost w gens live (.returned (.tuple #[.pointer (some ⟨q, 0, none⟩), .int .i64 0])) w' :=
  ⟨_, by rw [h], hb, fun e => absurd h e, fun _ => ⟨q, G, rfl, hs, hF⟩⟩

/-- a live slot of the last generation: seen from the live numbers -/
theorem last_mem {gens live : List Int} (ha : ∀ j, j < live.length → inB (live.getD j 0) 0 (gens.length - 1) = true) : ((1000000 : Int), true) ∈ mkL gens live ↔ ∃ j, j < live.length ∧ gens.getD (live.getD j 0).toNat 0 = 1000000 := by
  constructor
  · intro h
    obtain ⟨k, hk, e⟩ := List.getElem_of_mem h
    have hk' : k < gens.length := by rw [mkL_len] at hk; exact hk
    have e' : (mkL gens live).getD k slotZ = (1000000, true) := by rw [List.getD_eq_getElem?_getD, List.getElem?_eq_getElem hk]; exact e
    rw [mkL_at hk'] at e'
    simp only [Prod.mk.injEq, decide_eq_true_eq] at e'
    obtain ⟨j, hj, ej⟩ := List.getElem_of_mem e'.2
    refine ⟨j, hj, ?_⟩
    rw [List.getD_eq_getElem?_getD (l := live), List.getElem?_eq_getElem hj]
    simp only [Option.getD_some, ej, Int.toNat_natCast]
    exact e'.1
  · rintro ⟨j, hj, e⟩
    have hb := inB_t (ha j hj)
    have hm : live.getD j 0 ∈ live := memD hj
    obtain ⟨i, hi⟩ := Int.eq_ofNat_of_zero_le hb.1
    rw [hi] at e hm hb
    rw [Int.toNat_natCast] at e
    have hil : i < gens.length := by omega
    have : (mkL gens live).getD i slotZ ∈ mkL gens live := memD (by rw [mkL_len]; exact hil)
    rw [mkL_at hil, e, decide_eq_true hm] at this
    exact this
theorem ldE_none {g l : List Int} (h0 : lstE g = 0) {k : Nat} (hk : k < l.length) (hb : inB (l.getD k 0) 0 (g.length - 1) = false) : ldE g l = 5 := (ldE_ok h0).trans (enlE_none hk hb)

set_option maxRecDepth 100000 in
set_option maxHeartbeats 8000000 in
theorem refLoad_any (u v : Value) (gens live : List Int) (w : World) (hg : Ints w u gens) (hl : Ints w v live) : Calls Tryz.prog 98 #[u, v] w (RLoadPost w gens live) := by
  have HGI := Lib.hid hg
  have HLI := Lib.hid hl
  have HCUT : Hid (∀ b off cap j, b < w.heap.size → live.length ≤ cap → cap ≤ maxLen → (∀ k, k < live.length → w.cell? ⟨b, off + k, none⟩ = some (.int .i64 (live.getD k 0))) → j ≤ live.length → Ints w (.slice (some ⟨b, off, none⟩) j cap) (live.take j)) := Lib.hid (fun b off cap j h1 h2 h3 h4 h5 => Ints.cut h1 h2 h3 h4 h5)
  obtain ⟨hm, h⟩ := hg.open
  obtain ⟨hm', h'⟩ := hl.open
  unfold maxLen at hm hm'
  obtain ⟨a, cap, rfl, hadr⟩ : ∃ a cap, u = .slice a gens.length cap ∧ ∀ k, k < gens.length → ∃ b off, a = some ⟨b, off, none⟩ ∧ b < w.heap.size ∧ w.cell? ⟨b, off + k, none⟩ = some (.int .i64 (gens.getD k 0)) := by
    rcases h with ⟨a1, cap1, rfl, hz1'⟩ | ⟨b1, off1, cap1, rfl, hb1, hlc1, hcm1, hc1⟩
    · exact ⟨_, _, rfl, fun j hj => by omega⟩
    · exact ⟨_, _, rfl, fun j hj => ⟨b1, off1, rfl, hb1, hc1 j hj⟩⟩
  obtain ⟨a', cap', rfl, hadr'⟩ : ∃ a cap, v = .slice a live.length cap ∧ ∀ k, k < live.length → ∃ b off, a = some ⟨b, off, none⟩ ∧ b < w.heap.size ∧ live.length ≤ cap ∧ cap ≤ maxLen ∧ w.cell? ⟨b, off + k, none⟩ = some (.int .i64 (live.getD k 0)) ∧ Ints w (.slice a k cap) (live.take k) := by
    rcases h' with ⟨a1, cap1, rfl, hz1'⟩ | ⟨b1, off1, cap1, rfl, hb1, hlc1, hcm1, hc1⟩
    · exact ⟨_, _, rfl, fun j hj => by omega⟩
    · exact ⟨_, _, rfl, fun j hj => ⟨b1, off1, rfl, hb1, hlc1, hcm1, hc1 j hj, HCUT.out _ _ _ _ hb1 hlc1 hcm1 hc1 (by omega)⟩⟩
  have HA := Lib.hid hadr
  have HA' := Lib.hid hadr'
  clear hg hl h h' hadr hadr' HCUT
  by_cases h60 : gens.length ≤ 60
  · generalize hn : gens.length = n at *
    have HN := Lib.hid hn
    generalize hn' : live.length = m at *
    have HM := Lib.hid hn'
    clear hn hn'
    go_enter Tryz.func98, Tryz.ntmps98
    go_wp2
    go_loop [20] (fun i => ∃ k : Nat, k ≤ n ∧ i = .int .i64 k ∧ Hid (∀ j, j < k → okG (gens.getD j 0) = true)) (fun i => n - (intOf i).toNat)
    case atStart => exact ⟨0, by omega, rfl, fun j hj => by omega⟩
    case round =>
      obtain ⟨k, hk, rfl, hno⟩ := hrel
      by_cases hlt : k < n
      · obtain ⟨b, off, rfl, hb, hc⟩ := HA.out k hlt
        have HBAD : Hid (okG (gens.getD k 0) = false → ldE gens live = 1) := Lib.hid (fun h => by
          have := lstE_arg (by rw [HN.out]; exact h60) (by rw [HN.out]; exact hlt) h
          rw [ldE_bad (by rw [this]; decide), this])
        generalize hg : gens.getD k 0 = y at *
        have HY := Lib.hid hg
        clear hg
        cases hy : inB y 0 1000000
        all_goals
          have HYY := Lib.hid hy
          clear hy
          go_wp2_with fail
          refine (outside_any _ _ _ _).mono ?_
          rintro e w' ⟨rfl, rfl⟩
          rw [HYY.out]
          go_wp2
        · go_ret2
          exact RLoadPost.bad (HBAD.out HYY.out) (by decide) (Below.refl _ _)
        · go_round
          case rel => exact ⟨k + 1, by omega, by go_num, fun j hj => if e : j = k then by rw [e, HY.out]; exact HYY.out else hno.out j (by omega)⟩
          case measure => simp [intOf]; omega
      · obtain rfl : k = n := by omega
        have HL0 : Hid (lstE gens = 0) := Lib.hid (lstE_ok (by rw [HN.out]; exact h60) (by rw [HN.out]; exact hno.out))
        clear hno hk hlt
        go_wp2
        go_loop [29] (fun i => ∃ j : Nat, j ≤ m ∧ i = .int .i64 j ∧ Hid (∀ q, q < j → inB (live.getD q 0) 0 (gens.length - 1) = true)) (fun i => m - (intOf i).toNat)
        case atStart => exact ⟨0, by omega, rfl, fun j hj => by omega⟩
        case round =>
          obtain ⟨j, hj, rfl, hno⟩ := hrel
          by_cases hlt : j < m
          · obtain ⟨b, off, rfl, hb, hlc, hcm, hc, -⟩ := HA'.out j hlt
            have HBAD : Hid (inB (live.getD j 0) 0 (gens.length - 1) = false → ldE gens live = 5) := Lib.hid (fun h => ldE_none HL0.out (by rw [HM.out]; exact hlt) h)
            generalize hg : live.getD j 0 = y at *
            have HY := Lib.hid hg
            clear hg
            rw [HN.out] at HBAD
            cases hy : inB y 0 (k - 1)
            all_goals
              have HYY := Lib.hid hy
              clear hy
              go_wp2_with fail
              refine (outside_any _ _ _ _).mono ?_
              rintro e w' ⟨rfl, rfl⟩
              rw [HYY.out]
              go_wp2
            · go_ret2
              exact RLoadPost.bad (HBAD.out HYY.out) (by decide) (Below.refl _ _)
            · go_round
              case rel => exact ⟨j + 1, by omega, by go_num, fun q hq => if e : q = j then by rw [e, HY.out, HN.out]; exact HYY.out else hno.out q (by omega)⟩
              case measure => simp [intOf]; omega
          · obtain rfl : j = m := by omega
            have HALL : Hid (∀ q, q < live.length → inB (live.getD q 0) 0 (gens.length - 1) = true) := Lib.hid (by rw [HM.out]; exact hno.out)
            clear hno hj hlt
            have hmk : ∀ x : World, (Instr.makeSlice 77 (.int .i64 (k : Int)) (.int .i64 (k : Int))).run Tryz.prog x = .ok (.slice (some ⟨x.heap.size, 0, none⟩) k k) (x.alloc (.cells (madeCells #[.bool false] k) 4)) := run_make_row' 77 4 (.bool false) 1 Tryz.underlying77 infoBool rfl .i64 .i64 k (by omega) (by omega)
            go_wp2_with fail
            go_region_with (first | ((go_at_call 143; refine (copyInt_any _ gens _ (HGI.out.later (by first | exact (Below.refl _ _).drew | exact nb_alloc (Below.refl _ _).drew _)) (by rw [HN.out]; omega)).mono ?_; rintro e w1 ⟨v1, rfl, ho1, hb1⟩; have HX1 : Hid (Below w.heap.size w w1) := Lib.hid (by first | exact nb_trans (Below.refl _ _).drew hb1 | exact nb_trans (nb_alloc (Below.refl _ _).drew _) hb1); have HO1 := Lib.hid ho1; have HB1 := Lib.hid hb1; obtain ⟨a1, c1, rfl, -⟩ := ho1.reads; clear ho1 hb1)))
            all_goals clear hmk
            all_goals first
              | (guard_hyp HB1 : Hid (Below w.drew.heap.size w.drew w1)
                 obtain ⟨G, hR, hGb⟩ := ref_new (x := w1.alloc (.cells (madeCells #[.bool false] k) 4)) (w := w) (gl := w1.heap.size) (vg := .slice a1 gens.length c1) HN.out (nb_alloc HX1.out _) (OwnsF.later (w := w1) HO1.out (nb_alloc (Below.refl _ _) _)) (heap_alloc_new w1 _) HX1.out.size (fun q hq => by have := HO1.out.lt hq; omega) (by unfold maxLen; omega)
                 rw [show (w1.alloc (.cells (madeCells #[.bool false] k) 4)).heap.size = w1.heap.size + 1 by simp] at hR
                 have HBW := Lib.hid (nb_alloc (nb_alloc HX1.out (.cells (madeCells #[.bool false] k) 4)) (.cells #[.slice a1 gens.length c1, .slice (some ⟨w1.heap.size, 0, none⟩) k k] 79))
                 have HR := Lib.hid hR
                 have HGB := Lib.hid hGb
                 clear hR hGb HO1 HB1
                 generalize w1.heap.size + 1 = q at *)
              | (obtain ⟨G, hR, hGb⟩ := ref_new (x := w1) (w := w) (gl := w.heap.size) (vg := .slice a1 gens.length c1) HN.out HX1.out (OwnsF.weaken (B := w.heap.size) HO1.out (by simp)) (by rw [HB1.out.block w.heap.size (by simp)]; exact heap_alloc_new w _) (Nat.le_refl _) (fun q hq => by have := HO1.out.ge hq; simp at this; omega) (by unfold maxLen; omega)
                 have HBW := Lib.hid (nb_alloc HX1.out (.cells #[.slice a1 gens.length c1, .slice (some ⟨w.heap.size, 0, none⟩) k k] 79))
                 have HR := Lib.hid hR
                 have HGB := Lib.hid hGb
                 clear hR hGb HO1 HB1
                 generalize w1.heap.size = q at *)
            all_goals
              have hgl := HN.out
              have HGL : Hid (∀ y, inB y 0 (gens.length - 1) = true → 0 ≤ y ∧ y ≤ (k : Int) - 1) := Lib.hid (fun y hy => by have := inB_t hy; rw [HN.out] at this; exact this)
              clear hgl
              go_wp2
              go_loopw [48] (fun i wr => ∃ t : Nat, t ≤ j ∧ i = .int .i64 t ∧ Hid ((live.take t).Nodup) ∧ Hid (RefAt wr q 79 [] G (mkL gens (live.take t))) ∧ Hid (Below w.heap.size w wr)) (fun i _ => j - (intOf i).toNat)
              case atStart => exact ⟨0, by omega, rfl, by simp [Hid], HR, HBW⟩
              case round =>
                obtain ⟨t, ht, rfl, hnd, hRr, hB⟩ := hrel
                clear HR HBW
                by_cases hlt : t < j
                · obtain ⟨b, off, rfl, hb, hlc, hcm, hc, hI⟩ := HA'.out t hlt
                  have hck := hB.out.cell (p := ⟨b, off + t, none⟩) hb
                  rw [hc] at hck
                  have HI := Lib.hid (hI.later hB.out)
                  clear hc hI
                  have hyk := HGL.out _ (HALL.out t (by rw [HM.out]; exact hlt))
                  have HT := Lib.hid (take_snoc (show t < live.length by rw [HM.out]; exact hlt))
                  have HTW : Hid (live.getD t 0 ∈ live.take t → ldE gens live = 6) := Lib.hid (fun h => (ldE_ok HL0.out).trans (enlE_twice HALL.out (by rw [HM.out]; exact hlt) h))
                  generalize hg : live.getD t 0 = y at *
                  clear hg
                  obtain ⟨y0, y1⟩ := hyk
                  obtain ⟨i, rfl⟩ := Int.eq_ofNat_of_zero_le y0
                  have hin : i < (mkL gens (live.take t)).length := by rw [mkL_len, HN.out]; omega
                  obtain ⟨g, c, g', c', hq, hg, hl', hG, hGg, hGg', n1, n2, n3, hltG, q0, q1, x0, x1, f0, f1⟩ := hRr.out.open hin
                  have HD := Lib.hid (refAt_flag (x := true) hq hg hl' hG hGg hGg' n1 n2 n3 hltG hin)
                  rw [mkL_set (by rw [HN.out]; omega), ← HT.out] at HD
                  rw [mkL_len, HN.out] at q0 q1
                  have hgw : w.heap.size ≤ g' := HGB.out g' hGg'
                  clear hq hg hl' hltG x0 f0 hin
                  generalize ((mkL gens (live.take t)).getD i slotZ).2 = old at *
                  cases hd : decide ((i : Int) ∈ live.take t)
                  all_goals
                    have HDD := Lib.hid hd
                    clear hd
                    go_wp2_with fail
                    refine (hasInt_any _ (live.take t) _ _ HI.out).mono ?_
                    rintro e w' ⟨rfl, rfl⟩
                    rw [HDD.out]
                    go_wp2
                  · go_roundw
                    case rel => exact ⟨t + 1, by omega, by go_num, by rw [HT.out]; exact nodup_snoc hnd.out (of_decide_eq_false HDD.out), HD.out.1, hB.out.trans (HD.out.2.below hB.out.size HGB.out)⟩
                    case measure => simp [intOf]; omega
                  · go_ret2
                    exact RLoadPost.bad (HTW.out (of_decide_eq_true HDD.out)) (by decide) hB.out
                · obtain rfl : t = j := by omega
                  have HL : Hid (live.take t = live) := Lib.hid (List.take_of_length_le (by rw [HM.out]; exact Nat.le_refl _))
                  rw [HL.out] at hnd hRr
                  have HLAST := Lib.hid (last_mem HALL.out)
                  have HE := Lib.hid (fun b hb => (ldE_ok (l := live) HL0.out).trans (enlE_end (b := b) HALL.out hnd.out hb))
                  clear ht hlt
                  go_wp2
                  go_loop [67] (fun i => ∃ s : Nat, s ≤ t ∧ i = .int .i64 s ∧ Hid (∀ j, j < s → gens.getD (live.getD j 0).toNat 0 ≠ 1000000)) (fun i => t - (intOf i).toNat)
                  case atStart => exact ⟨0, by omega, rfl, fun j hj => by omega⟩
                  case round =>
                    obtain ⟨s, hs, rfl, hno⟩ := hrel
                    by_cases hlt : s < t
                    · obtain ⟨b, off, rfl, hb, hlc, hcm, hc, -⟩ := HA'.out s hlt
                      have hck := hB.out.cell (p := ⟨b, off + s, none⟩) hb
                      rw [hc] at hck
                      clear hc
                      have hyk := HGL.out _ (HALL.out s (by rw [HM.out]; exact hlt))
                      have HBAD : Hid (gens.getD (live.getD s 0).toNat 0 = 1000000 → ldE gens live = 1) := Lib.hid (fun h => HE.out true (decide_eq_true (HLAST.out.2 ⟨s, by rw [HM.out]; exact hlt, h⟩)))
                      generalize hg : live.getD s 0 = y at *
                      have HY := Lib.hid hg
                      clear hg
                      obtain ⟨y0, y1⟩ := hyk
                      obtain ⟨i, rfl⟩ := Int.eq_ofNat_of_zero_le y0
                      rw [Int.toNat_natCast] at HBAD
                      obtain ⟨b2, off2, rfl, hb2, hc2⟩ := HA.out i (by omega)
                      have hck2 := hB.out.cell (p := ⟨b2, off2 + i, none⟩) hb2
                      rw [hc2] at hck2
                      clear hc2
                      generalize hg : gens.getD i 0 = z at *
                      have HZ := Lib.hid hg
                      clear hg
                      have hik : i < k := by omega
                      cases hz : (z == 1000000)
                      · have HNE : Hid (z ≠ 1000000) := Lib.hid (by simpa using hz)
                        go_wp2
                        go_round
                        case rel => exact ⟨s + 1, by omega, by go_num, fun j hj => if e : j = s then by rw [e, HY.out, Int.toNat_natCast, HZ.out]; exact HNE.out else hno.out j (by omega)⟩
                        case measure => simp [intOf]; omega
                      · have HEQ : Hid (z = 1000000) := Lib.hid (by simpa using hz)
                        go_wp2
                        go_ret2
                        exact RLoadPost.bad (HBAD.out HEQ.out) (by decide) hB.out
                    · obtain rfl : s = t := by omega
                      have HZ : Hid (ldE gens live = 0) := Lib.hid (HE.out false (decide_eq_false (fun h => by
                        obtain ⟨j, hj, e⟩ := HLAST.out.1 h
                        exact hno.out j (by rw [← HM.out]; exact hj) e)))
                      go_wp2
                      go_ret2
                      exact RLoadPost.good HZ.out hB.out hRr.out HGB.out
  · have HE : Hid (ldE gens live = 2) := Lib.hid (by rw [ldE_bad (by rw [lstE_large h60]; decide), lstE_large h60])
    generalize gens.length = n at *
    go_enter Tryz.func98, Tryz.ntmps98
    go_wp2
    go_ret2
    exact RLoadPost.bad HE.out (by decide) (Below.refl _ _)
end Go.Proofs.YtndhomjfjhohoaaGreatDoor

/- After any sequence of calls, a table returns the results of the reference: the statement TableDoes. No condition. -/
import Derived.Test.YtdlbljheobkfaaaDeeds
import Derived.Test.YtdlbljheobkfaaaEq8
import Derived.Deep.RegionHeld3
namespace Go.Proofs.Ytdlbljheobkfaaa
open Go.ChangeShapes Go.WideShapes Go.ChangeAt Go.RowKit
set_option linter.unusedVariables false

theorem deed_cells {x : World} {b : Nat} {dd di dk dn : Int} {r : Rw} (h : x.heap[b]? = some (.cells #[.int .i64 dd, .int .i64 di, .int .i64 dk, .int .i64 dn, .int .i64 r.s, .int .i64 r.g, .int .i64 r.m, .int .i64 (r.f 0), .int .i64 (r.f 1), .int .i64 (r.f 2), .int .i64 (r.f 3), .int .i64 (r.f 4), .int .i64 (r.f 5), .int .i64 (r.f 6), .int .i64 (r.f 7)] 37)) : x.cell? ⟨b, 0, none⟩ = some (.int .i64 dd) ∧ x.cell? ⟨b, 1, none⟩ = some (.int .i64 di) ∧ x.cell? ⟨b, 2, none⟩ = some (.int .i64 dk) ∧ x.cell? ⟨b, 3, none⟩ = some (.int .i64 dn) ∧ x.cell? ⟨b, 4, none⟩ = some (.int .i64 r.s) ∧ x.cell? ⟨b, 5, none⟩ = some (.int .i64 r.g) ∧ x.cell? ⟨b, 6, none⟩ = some (.int .i64 r.m) ∧ x.cell? ⟨b, 7, none⟩ = some (.int .i64 (r.f 0)) ∧ x.cell? ⟨b, 8, none⟩ = some (.int .i64 (r.f 1)) ∧ x.cell? ⟨b, 9, none⟩ = some (.int .i64 (r.f 2)) ∧ x.cell? ⟨b, 10, none⟩ = some (.int .i64 (r.f 3)) ∧ x.cell? ⟨b, 11, none⟩ = some (.int .i64 (r.f 4)) ∧ x.cell? ⟨b, 12, none⟩ = some (.int .i64 (r.f 5)) ∧ x.cell? ⟨b, 13, none⟩ = some (.int .i64 (r.f 6)) ∧ x.cell? ⟨b, 14, none⟩ = some (.int .i64 (r.f 7)) := by
  refine ⟨?_, ?_, ?_, ?_, ?_, ?_, ?_, ?_, ?_, ?_, ?_, ?_, ?_, ?_, ?_⟩ <;> (rw [cell_of_row _ _ _ _ _ _ h]; rfl)
/-- What a round of the law comes to. -/
structure Mid (w0 W : World) (p q db : Nat) (m : Int) (k : Nat) (dd di dk dn : Int) (r : Rw) : Prop where
  both : ∃ F G rows, BothT w0 W p q F G m rows ∧ rows.length ≤ k + 1
  box : W.heap[db]? = some (.cells #[.int .i64 dd, .int .i64 di, .int .i64 dk, .int .i64 dn, .int .i64 r.s, .int .i64 r.g, .int .i64 r.m, .int .i64 (r.f 0), .int .i64 (r.f 1), .int .i64 (r.f 2), .int .i64 (r.f 3), .int .i64 (r.f 4), .int .i64 (r.f 5), .int .i64 (r.f 6), .int .i64 (r.f 7)] 37)
theorem Mid.later {w0 W W' : World} {p q db k : Nat} {m dd di dk dn : Int} {r : Rw} (h : Mid w0 W p q db m k dd di dk dn r) (hb : Below W.heap.size W W') : Mid w0 W' p q db m k dd di dk dn r := by
  obtain ⟨⟨F, G, rows, hB, hl⟩, hx⟩ := h
  exact ⟨⟨F, G, rows, hB.later hb, hl⟩, by rw [hb.block _ (Array.getElem?_eq_some_iff.1 hx).1]; exact hx⟩

set_option maxRecDepth 100000 in
set_option maxHeartbeats 16000000 in
theorem tableDoes_walk (a0 : Int) (i0 : I64 a0) (u1 : Value) (z1 : List Dd)  (w : World) (i1 : Reads elDeed w u1 z1) (s1 : z1.length * 120 ≤ 140737488351232) :
    Calls Try.prog 3 #[.int .i64 a0, u1] w fun e w' => e = .returned (.bool true) ∧ Below w.heap.size w w' := by
  obtain ⟨hm1, hop1⟩ := i1.open
  generalize hn1 : z1.length = n1 at *
  clear hn1 i1
  unfold maxLen at hm1
  cases hk0 : inB a0 0 255
  · have HK0 := Lib.hid hk0
    rcases inB_f hk0 with b1 | b1
    all_goals
      clear hk0
      go_enter Try.func3, Try.ntmps3
      go_wp2_with fail
      refine (tableNew_no a0 _ HK0.out).mono ?_
      rintro e w' ⟨rfl, rfl⟩
      go_wp2
      go_ret
      exact ⟨rfl, Below.refl _ _⟩
  · obtain ⟨m0, m1⟩ := inB_t hk0
    clear hk0
    have HS1 := Lib.hid s1
    rcases hop1 with ⟨aa, cap1, rfl, hz1⟩ | ⟨b1, off1, cap1, rfl, hb1, hlc1, hcm1, hc1⟩
    all_goals
      go_enter Try.func3, Try.ntmps3
      go_wp2_with fail
      refine (tableNew_yes a0 _ m0 m1).mono ?_
      rintro e w1 ⟨p, F0, rfl, ht1, hF0, hbw1⟩
      have HST := Lib.hid (BothT.start ht1 hF0 hbw1 m0 m1)
      have hpl : p < w1.heap.size := by obtain ⟨v, mb, n, cb, c, h⟩ := ht1; exact h.lt p h.fp.1
      have hww : w.heap.size ≤ w1.heap.size := hbw1.size
      clear ht1 hF0 hbw1
      go_wp2
      go_loopw [67] (fun i wr => ∃ k : Nat, k ≤ n1 ∧ i = .int .i64 k ∧ Hid (∃ F G rows, BothT w wr p w1.heap.size F G a0 rows ∧ rows.length ≤ k)) (fun i _ => n1 - (intOf i).toNat)
      case atStart => exact ⟨0, by omega, rfl, _, _, [], HST.out, by simp⟩
      case round =>
        obtain ⟨k, hk, rfl, hT⟩ := hrel
        clear HST
        generalize w1.heap.size = q at *
        by_cases hlt : k < n1
        · first
            | omega
            | (obtain ⟨F, G, rows, hBT, hrl⟩ := hT.out
               have hbr : b1 < wr.heap.size := Nat.lt_of_lt_of_le hb1 hBT.below.size
               have hcr : ∀ jj, jj < 15 → wr.cell? ⟨b1, off1 + k * 15 + jj, none⟩ = (elDeed.enc (z1.getD k ddZ))[jj]? := fun jj hjj => by rw [hBT.below.cell (p := ⟨b1, _, none⟩) hb1]; exact hc1 k hlt jj hjj
               clear hc1
               generalize z1.getD k ddZ = y at *
               obtain ⟨dd, di, dk, dn, r⟩ := y
               have c0' : wr.cell? ⟨b1, off1 + k * 15, none⟩ = some (.int .i64 dd) := hcr 0 (by decide)
               have c1' : wr.cell? ⟨b1, off1 + k * 15 + 1, none⟩ = some (.int .i64 di) := hcr 1 (by decide)
               have c2' : wr.cell? ⟨b1, off1 + k * 15 + 2, none⟩ = some (.int .i64 dk) := hcr 2 (by decide)
               have c3' : wr.cell? ⟨b1, off1 + k * 15 + 3, none⟩ = some (.int .i64 dn) := hcr 3 (by decide)
               have c4' : wr.cell? ⟨b1, off1 + k * 15 + 4, none⟩ = some (.int .i64 r.s) := hcr 4 (by decide)
               have c5' : wr.cell? ⟨b1, off1 + k * 15 + 5, none⟩ = some (.int .i64 r.g) := hcr 5 (by decide)
               have c6' : wr.cell? ⟨b1, off1 + k * 15 + 6, none⟩ = some (.int .i64 r.m) := hcr 6 (by decide)
               have c7' : wr.cell? ⟨b1, off1 + k * 15 + 7, none⟩ = some (.int .i64 (r.f 0)) := hcr 7 (by decide)
               have c8' : wr.cell? ⟨b1, off1 + k * 15 + 8, none⟩ = some (.int .i64 (r.f 1)) := hcr 8 (by decide)
               have c9' : wr.cell? ⟨b1, off1 + k * 15 + 9, none⟩ = some (.int .i64 (r.f 2)) := hcr 9 (by decide)
               have c10' : wr.cell? ⟨b1, off1 + k * 15 + 10, none⟩ = some (.int .i64 (r.f 3)) := hcr 10 (by decide)
               have c11' : wr.cell? ⟨b1, off1 + k * 15 + 11, none⟩ = some (.int .i64 (r.f 4)) := hcr 11 (by decide)
               have c12' : wr.cell? ⟨b1, off1 + k * 15 + 12, none⟩ = some (.int .i64 (r.f 5)) := hcr 12 (by decide)
               have c13' : wr.cell? ⟨b1, off1 + k * 15 + 13, none⟩ = some (.int .i64 (r.f 6)) := hcr 13 (by decide)
               have c14' : wr.cell? ⟨b1, off1 + k * 15 + 14, none⟩ = some (.int .i64 (r.f 7)) := hcr 14 (by decide)
               clear hcr
               have HBD := Lib.hid (hBT.later (nb_alloc (Below.refl _ _) (.cells #[.int .i64 dd, .int .i64 di, .int .i64 dk, .int .i64 dn, .int .i64 r.s, .int .i64 r.g, .int .i64 r.m, .int .i64 (r.f 0), .int .i64 (r.f 1), .int .i64 (r.f 2), .int .i64 (r.f 3), .int .i64 (r.f 4), .int .i64 (r.f 5), .int .i64 (r.f 6), .int .i64 (r.f 7)] 37)))
               have HBX : Hid ((wr.alloc (.cells #[.int .i64 dd, .int .i64 di, .int .i64 dk, .int .i64 dn, .int .i64 r.s, .int .i64 r.g, .int .i64 r.m, .int .i64 (r.f 0), .int .i64 (r.f 1), .int .i64 (r.f 2), .int .i64 (r.f 3), .int .i64 (r.f 4), .int .i64 (r.f 5), .int .i64 (r.f 6), .int .i64 (r.f 7)] 37)).heap[wr.heap.size]? = some (.cells #[.int .i64 dd, .int .i64 di, .int .i64 dk, .int .i64 dn, .int .i64 r.s, .int .i64 r.g, .int .i64 r.m, .int .i64 (r.f 0), .int .i64 (r.f 1), .int .i64 (r.f 2), .int .i64 (r.f 3), .int .i64 (r.f 4), .int .i64 (r.f 5), .int .i64 (r.f 6), .int .i64 (r.f 7)] 37)) := Lib.hid (heap_alloc_new wr _)
               have HRL := Lib.hid hrl
               have HNF : Hid (¬ F wr.heap.size ∧ ¬ G wr.heap.size) := Lib.hid ⟨fun h => by have := hBT.t.lt _ h; omega, fun h => by have := hBT.r.lt _ h; omega⟩
               have hsd : (wr.alloc (.cells #[.int .i64 dd, .int .i64 di, .int .i64 dk, .int .i64 dn, .int .i64 r.s, .int .i64 r.g, .int .i64 r.m, .int .i64 (r.f 0), .int .i64 (r.f 1), .int .i64 (r.f 2), .int .i64 (r.f 3), .int .i64 (r.f 4), .int .i64 (r.f 5), .int .i64 (r.f 6), .int .i64 (r.f 7)] 37)).heap.size = wr.heap.size + 1 := by simp
               clear hBT hrl
               have HL1 : Hid ((rows.length + 1) * 88 ≤ 140737488355328) := Lib.hid (by have := HS1.out; have := HRL.out; omega)
               have hsplit : dd = 0 ∨ dd = 1 ∨ dd = 2 ∨ ((dd == 0) = false ∧ (dd == 1) = false ∧ (dd == 2) = false) := by
                 by_cases h0 : dd = 0
                 · exact .inl h0
                 · by_cases h1 : dd = 1
                   · exact .inr (.inl h1)
                   · by_cases h2 : dd = 2
                     · exact .inr (.inr (.inl h2))
                     · exact .inr (.inr (.inr ⟨by simpa using h0, by simpa using h1, by simpa using h2⟩))
               rcases hsplit with rfl | rfl | rfl | ⟨hd0, hd1, hd2⟩
               · as_aux_lemma =>
                     go_wp2_with fail
                     clear c0' c1' c2' c3' c4' c5' c6' c7' c8' c9' c10' c11' c12' c13' c14'
                     generalize wr.alloc (.cells #[.int .i64 0, .int .i64 di, .int .i64 dk, .int .i64 dn, .int .i64 r.s, .int .i64 r.g, .int .i64 r.m, .int .i64 (r.f 0), .int .i64 (r.f 1), .int .i64 (r.f 2), .int .i64 (r.f 3), .int .i64 (r.f 4), .int .i64 (r.f 5), .int .i64 (r.f 6), .int .i64 (r.f 7)] 37) = wd at *
                     refine (tabAdd_any p F a0 rows r _ HBD.out.t (by have := HL1.out; omega)).mono ?_
                     rintro e w2 ⟨rfl, F2, ht2, hk2, hm2⟩
                     have hbx2 : w2.heap[wr.heap.size]? = some (.cells #[.int .i64 0, .int .i64 di, .int .i64 dk, .int .i64 dn, .int .i64 r.s, .int .i64 r.g, .int .i64 r.m, .int .i64 (r.f 0), .int .i64 (r.f 1), .int .i64 (r.f 2), .int .i64 (r.f 3), .int .i64 (r.f 4), .int .i64 (r.f 5), .int .i64 (r.f 6), .int .i64 (r.f 7)] 37) := by rw [hk2.block _ (by omega) HNF.out.1]; exact HBX.out
                     obtain ⟨d0, d1, d2, d3, d4, d5, d6, d7, d8, d9, d10, d11, d12, d13, d14⟩ := deed_cells hbx2
                     have hdl := (Array.getElem?_eq_some_iff.1 hbx2).1
                     have HR2 := Lib.hid (HBD.out.r.kept hk2 (fun k hg hf => HBD.out.apart k hf hg))
                     have HT2 := Lib.hid ht2
                     have HK2 := Lib.hid hk2
                     have HM2 := Lib.hid hm2
                     have HBX2 := Lib.hid hbx2
                     clear ht2 hk2 hm2 hbx2
                     go_wp2_with fail
                     refine (refAdd_any q G a0 rows r _ HR2.out HL1.out).mono ?_
                     rintro e w3 ⟨rfl, G3, ht3, hk3, hm3⟩
                     have HMID : Hid (Mid w w3 p q wr.heap.size a0 k 0 di dk dn r) := Lib.hid ⟨⟨F2, G3, _, HBD.out.moved HT2.out HK2.out HM2.out (Below.refl _ _) ht3 hk3 hm3 (HBD.out.ok.add r), Nat.le_trans (addL_len _ _ _) (by have := HRL.out; omega)⟩, by rw [hk3.block _ hdl HNF.out.2]; exact HBX2.out⟩
                     clear ht3 hk3 hm3 HT2 HK2 HM2 HBX2 HR2 d0 d1 d2 d3 d4 d5 d6 d7 d8 d9 d10 d11 d12 d13 d14 hdl
                     have hne1 : (addN a0 rows r != addN a0 rows r) = false := by simp
                     have hne2 : (addE a0 r != addE a0 r) = false := by simp
                     obtain ⟨d0, d1, d2, d3, d4, d5, d6, d7, d8, d9, d10, d11, d12, d13, d14⟩ := deed_cells HMID.out.box
                     have hdl := (Array.getElem?_eq_some_iff.1 HMID.out.box).1
                     go_wp2_with fail
                     clear hne1 hne2 d0 d1 d2 d3 d4 d5 d6 d7 d8 d9 d10 d11 d12 d13 d14 hdl
                     generalize w3 = W at *
                     as_aux_lemma =>
                         clear HBD HBX HNF HL1
                         obtain ⟨F', G', rows', hBB, hrl'⟩ := HMID.out.both
                         have HBB := Lib.hid hBB
                         have HRL' := Lib.hid hrl'
                         have HLA : Hid (rows'.length * 88 ≤ 140737488355328) := Lib.hid (by have := HS1.out; omega)
                         generalize hrr : rowR rows' di = rr at *
                         generalize hre : rowE rows' di = re at *
                         refine (tabRow_any p F' a0 rows' di rr re _ HBB.out.t HBB.out.ok hrr hre).mono ?_
                         rintro e W1 ⟨rfl, hb1'⟩
                         have HB1 := Lib.hid hb1'
                         obtain ⟨d0, d1, d2, d3, d4, d5, d6, d7, d8, d9, d10, d11, d12, d13, d14⟩ := deed_cells (HMID.out.later hb1').box
                         have hdl := (Array.getElem?_eq_some_iff.1 (HMID.out.later hb1').box).1
                         clear hb1' hBB hrl'
                         go_wp2_with fail
                         clear d0 d1 d2 d3 d4 d5 d6 d7 d8 d9 d10 d11 d12 d13 d14 hdl
                         have HB1a := Lib.hid (nb_alloc HB1.out (.cells #[.int .i64 rr.s, .int .i64 rr.g, .int .i64 rr.m, .int .i64 (rr.f 0), .int .i64 (rr.f 1), .int .i64 (rr.f 2), .int .i64 (rr.f 3), .int .i64 (rr.f 4), .int .i64 (rr.f 5), .int .i64 (rr.f 6), .int .i64 (rr.f 7)] 41))
                         refine (refRow_any q G' a0 rows' di rr re _ (HBB.out.later HB1a.out).r hrr hre).mono ?_
                         rintro e W2 ⟨rfl, hb2'⟩
                         have HB2 := Lib.hid (nb_trans HB1a.out hb2')
                         have hA2 : W2.heap[W1.heap.size]? = some (.cells #[.int .i64 rr.s, .int .i64 rr.g, .int .i64 rr.m, .int .i64 (rr.f 0), .int .i64 (rr.f 1), .int .i64 (rr.f 2), .int .i64 (rr.f 3), .int .i64 (rr.f 4), .int .i64 (rr.f 5), .int .i64 (rr.f 6), .int .i64 (rr.f 7)] 41) := by rw [hb2'.block _ (by simp)]; exact heap_alloc_new W1 _
                         have HA2 := Lib.hid hA2
                         obtain ⟨d0, d1, d2, d3, d4, d5, d6, d7, d8, d9, d10, d11, d12, d13, d14⟩ := deed_cells (HMID.out.later HB2.out).box
                         have hdl := (Array.getElem?_eq_some_iff.1 (HMID.out.later HB2.out).box).1
                         clear hb2' hA2 HB1 HB1a
                         go_wp2_with fail
                         clear d0 d1 d2 d3 d4 d5 d6 d7 d8 d9 d10 d11 d12 d13 d14 hdl
                         have HB2a := Lib.hid (nb_alloc HB2.out (.cells #[.int .i64 rr.s, .int .i64 rr.g, .int .i64 rr.m, .int .i64 (rr.f 0), .int .i64 (rr.f 1), .int .i64 (rr.f 2), .int .i64 (rr.f 3), .int .i64 (rr.f 4), .int .i64 (rr.f 5), .int .i64 (rr.f 6), .int .i64 (rr.f 7)] 41))
                         refine (tabColumn_any p F' a0 rows' dk _ (HBB.out.later HB2a.out).t (by have := HLA.out; omega)).mono ?_
                         rintro e W3 ⟨v3, rfl, ho3, hb3'⟩
                         have HB3 := Lib.hid (nb_trans HB2a.out hb3')
                         have hA3 : W3.heap[W1.heap.size]? = some (.cells #[.int .i64 rr.s, .int .i64 rr.g, .int .i64 rr.m, .int .i64 (rr.f 0), .int .i64 (rr.f 1), .int .i64 (rr.f 2), .int .i64 (rr.f 3), .int .i64 (rr.f 4), .int .i64 (rr.f 5), .int .i64 (rr.f 6), .int .i64 (rr.f 7)] 41) := by rw [hb3'.block _ (by have := (Array.getElem?_eq_some_iff.1 HA2.out).1; simp; omega), Below.heap_alloc _ _ _ (Array.getElem?_eq_some_iff.1 HA2.out).1]; exact HA2.out
                         have hC3 : W3.heap[W2.heap.size]? = some (.cells #[.int .i64 rr.s, .int .i64 rr.g, .int .i64 rr.m, .int .i64 (rr.f 0), .int .i64 (rr.f 1), .int .i64 (rr.f 2), .int .i64 (rr.f 3), .int .i64 (rr.f 4), .int .i64 (rr.f 5), .int .i64 (rr.f 6), .int .i64 (rr.f 7)] 41) := by rw [hb3'.block _ (by simp)]; exact heap_alloc_new W2 _
                         have HA3 := Lib.hid hA3
                         have HC3 := Lib.hid hC3
                         have HO3 := Lib.hid ho3.reads
                         obtain ⟨d0, d1, d2, d3, d4, d5, d6, d7, d8, d9, d10, d11, d12, d13, d14⟩ := deed_cells (HMID.out.later HB3.out).box
                         have hdl := (Array.getElem?_eq_some_iff.1 (HMID.out.later HB3.out).box).1
                         clear hb3' hA3 hC3 ho3 HB2 HB2a HA2
                         go_wp2_with fail
                         clear d0 d1 d2 d3 d4 d5 d6 d7 d8 d9 d10 d11 d12 d13 d14 hdl
                         refine (refColumn_any q G' a0 rows' dk _ (HBB.out.later HB3.out).r HLA.out).mono ?_
                         rintro e W4 ⟨v4, rfl, ho4, hb4'⟩
                         have HB4 := Lib.hid (nb_trans HB3.out hb4')
                         have hA4 : W4.heap[W1.heap.size]? = some (.cells #[.int .i64 rr.s, .int .i64 rr.g, .int .i64 rr.m, .int .i64 (rr.f 0), .int .i64 (rr.f 1), .int .i64 (rr.f 2), .int .i64 (rr.f 3), .int .i64 (rr.f 4), .int .i64 (rr.f 5), .int .i64 (rr.f 6), .int .i64 (rr.f 7)] 41) := by rw [hb4'.block _ (Array.getElem?_eq_some_iff.1 HA3.out).1]; exact HA3.out
                         have hC4 : W4.heap[W2.heap.size]? = some (.cells #[.int .i64 rr.s, .int .i64 rr.g, .int .i64 rr.m, .int .i64 (rr.f 0), .int .i64 (rr.f 1), .int .i64 (rr.f 2), .int .i64 (rr.f 3), .int .i64 (rr.f 4), .int .i64 (rr.f 5), .int .i64 (rr.f 6), .int .i64 (rr.f 7)] 41) := by rw [hb4'.block _ (Array.getElem?_eq_some_iff.1 HC3.out).1]; exact HC3.out
                         have HO34 := Lib.hid (Ints.ofReads (HO3.out.later hb4'))
                         have HO4 := Lib.hid (Ints.ofReads ho4.reads)
                         have k0 : W4.cell? ⟨W1.heap.size, 0, none⟩ = some (.int .i64 rr.s) := by rw [cell_of_row _ _ _ _ _ _ hA4]; rfl
                         have k1 : W4.cell? ⟨W1.heap.size, 1, none⟩ = some (.int .i64 rr.g) := by rw [cell_of_row _ _ _ _ _ _ hA4]; rfl
                         have k2 : W4.cell? ⟨W1.heap.size, 2, none⟩ = some (.int .i64 rr.m) := by rw [cell_of_row _ _ _ _ _ _ hA4]; rfl
                         have k3 : W4.cell? ⟨W1.heap.size, 3, none⟩ = some (.int .i64 (rr.f 0)) := by rw [cell_of_row _ _ _ _ _ _ hA4]; rfl
                         have k4 : W4.cell? ⟨W1.heap.size, 4, none⟩ = some (.int .i64 (rr.f 1)) := by rw [cell_of_row _ _ _ _ _ _ hA4]; rfl
                         have k5 : W4.cell? ⟨W1.heap.size, 5, none⟩ = some (.int .i64 (rr.f 2)) := by rw [cell_of_row _ _ _ _ _ _ hA4]; rfl
                         have k6 : W4.cell? ⟨W1.heap.size, 6, none⟩ = some (.int .i64 (rr.f 3)) := by rw [cell_of_row _ _ _ _ _ _ hA4]; rfl
                         have k7 : W4.cell? ⟨W1.heap.size, 7, none⟩ = some (.int .i64 (rr.f 4)) := by rw [cell_of_row _ _ _ _ _ _ hA4]; rfl
                         have k8 : W4.cell? ⟨W1.heap.size, 8, none⟩ = some (.int .i64 (rr.f 5)) := by rw [cell_of_row _ _ _ _ _ _ hA4]; rfl
                         have k9 : W4.cell? ⟨W1.heap.size, 9, none⟩ = some (.int .i64 (rr.f 6)) := by rw [cell_of_row _ _ _ _ _ _ hA4]; rfl
                         have k10 : W4.cell? ⟨W1.heap.size, 10, none⟩ = some (.int .i64 (rr.f 7)) := by rw [cell_of_row _ _ _ _ _ _ hA4]; rfl
                         have j0 : W4.cell? ⟨W2.heap.size, 0, none⟩ = some (.int .i64 rr.s) := by rw [cell_of_row _ _ _ _ _ _ hC4]; rfl
                         have j1 : W4.cell? ⟨W2.heap.size, 1, none⟩ = some (.int .i64 rr.g) := by rw [cell_of_row _ _ _ _ _ _ hC4]; rfl
                         have j2 : W4.cell? ⟨W2.heap.size, 2, none⟩ = some (.int .i64 rr.m) := by rw [cell_of_row _ _ _ _ _ _ hC4]; rfl
                         have j3 : W4.cell? ⟨W2.heap.size, 3, none⟩ = some (.int .i64 (rr.f 0)) := by rw [cell_of_row _ _ _ _ _ _ hC4]; rfl
                         have j4 : W4.cell? ⟨W2.heap.size, 4, none⟩ = some (.int .i64 (rr.f 1)) := by rw [cell_of_row _ _ _ _ _ _ hC4]; rfl
                         have j5 : W4.cell? ⟨W2.heap.size, 5, none⟩ = some (.int .i64 (rr.f 2)) := by rw [cell_of_row _ _ _ _ _ _ hC4]; rfl
                         have j6 : W4.cell? ⟨W2.heap.size, 6, none⟩ = some (.int .i64 (rr.f 3)) := by rw [cell_of_row _ _ _ _ _ _ hC4]; rfl
                         have j7 : W4.cell? ⟨W2.heap.size, 7, none⟩ = some (.int .i64 (rr.f 4)) := by rw [cell_of_row _ _ _ _ _ _ hC4]; rfl
                         have j8 : W4.cell? ⟨W2.heap.size, 8, none⟩ = some (.int .i64 (rr.f 5)) := by rw [cell_of_row _ _ _ _ _ _ hC4]; rfl
                         have j9 : W4.cell? ⟨W2.heap.size, 9, none⟩ = some (.int .i64 (rr.f 6)) := by rw [cell_of_row _ _ _ _ _ _ hC4]; rfl
                         have j10 : W4.cell? ⟨W2.heap.size, 10, none⟩ = some (.int .i64 (rr.f 7)) := by rw [cell_of_row _ _ _ _ _ _ hC4]; rfl
                         have l1 := (Array.getElem?_eq_some_iff.1 hA4).1
                         have l2 := (Array.getElem?_eq_some_iff.1 hC4).1
                         have hne2 : (re != re) = false := by simp
                         have hne3 : (colE a0 dk != colE a0 dk) = false := by simp
                         have heq8 := eq8_run rr.f
                         clear hb4' hA4 hC4 ho4 HO3 HA3 HC3 HB3
                         go_wp2_with fail
                         clear k0 k1 k2 k3 k4 k5 k6 k7 k8 k9 k10 j0 j1 j2 j3 j4 j5 j6 j7 j8 j9 j10
                         refine (eqInt_any _ _ _ _ _ HO34.out HO4.out).mono ?_
                         rintro e W5 ⟨rfl, hw5⟩
                         rw [decide_eq_true rfl]
                         subst hw5
                         go_wp2
                         go_roundw
                         case rel => exact ⟨k + 1, by omega, by go_num, F', G', rows', HBB.out.later HB4.out, HRL'.out⟩
                         case measure => simp [intOf]; omega
               · as_aux_lemma =>
                     go_wp2_with fail
                     clear c0' c1' c2' c3' c4' c5' c6' c7' c8' c9' c10' c11' c12' c13' c14'
                     generalize wr.alloc (.cells #[.int .i64 1, .int .i64 di, .int .i64 dk, .int .i64 dn, .int .i64 r.s, .int .i64 r.g, .int .i64 r.m, .int .i64 (r.f 0), .int .i64 (r.f 1), .int .i64 (r.f 2), .int .i64 (r.f 3), .int .i64 (r.f 4), .int .i64 (r.f 5), .int .i64 (r.f 6), .int .i64 (r.f 7)] 37) = wd at *
                     generalize hra : rowR rows di = ra at *
                     generalize hxa : rowE rows di = xa at *
                     refine (tabRemove_any p F a0 rows di ra xa _ HBD.out.t HBD.out.ok hra hxa).mono ?_
                     rintro e w2 ⟨rfl, F2, ht2, hk2, hm2⟩
                     have hbx2 : w2.heap[wr.heap.size]? = some (.cells #[.int .i64 1, .int .i64 di, .int .i64 dk, .int .i64 dn, .int .i64 r.s, .int .i64 r.g, .int .i64 r.m, .int .i64 (r.f 0), .int .i64 (r.f 1), .int .i64 (r.f 2), .int .i64 (r.f 3), .int .i64 (r.f 4), .int .i64 (r.f 5), .int .i64 (r.f 6), .int .i64 (r.f 7)] 37) := by rw [hk2.block _ (by omega) HNF.out.1]; exact HBX.out
                     obtain ⟨d0, d1, d2, d3, d4, d5, d6, d7, d8, d9, d10, d11, d12, d13, d14⟩ := deed_cells hbx2
                     have hdl := (Array.getElem?_eq_some_iff.1 hbx2).1
                     have HR2 := Lib.hid ((HBD.out.r.kept hk2 (fun k hg hf => HBD.out.apart k hf hg)).later (nb_alloc (Below.refl _ _) (.cells #[.int .i64 ra.s, .int .i64 ra.g, .int .i64 ra.m, .int .i64 (ra.f 0), .int .i64 (ra.f 1), .int .i64 (ra.f 2), .int .i64 (ra.f 3), .int .i64 (ra.f 4), .int .i64 (ra.f 5), .int .i64 (ra.f 6), .int .i64 (ra.f 7)] 41)))
                     have HG2 : Hid (¬ G w2.heap.size) := Lib.hid (fun e => by have := HBD.out.r.lt _ e; have := hk2.size; omega)
                     have HT2 := Lib.hid ht2
                     have HK2 := Lib.hid hk2
                     have HM2 := Lib.hid hm2
                     have HBX2 := Lib.hid hbx2
                     clear ht2 hk2 hm2 hbx2
                     go_wp2_with fail
                     clear d0 d1 d2 d3 d4 d5 d6 d7 d8 d9 d10 d11 d12 d13 d14
                     refine (refRemove_any q G a0 rows di ra xa _ HR2.out (by have := HL1.out; omega) hra hxa).mono ?_
                     rintro e w3 ⟨rfl, G3, ht3, hk3, hm3⟩
                     have HMID : Hid (Mid w w3 p q wr.heap.size a0 k 1 di dk dn r) := Lib.hid ⟨⟨F2, G3, _, HBD.out.moved HT2.out HK2.out HM2.out (nb_alloc (Below.refl _ _) _) ht3 hk3 hm3 (HBD.out.ok.rem di), Nat.le_trans (remL_len _ _) (by have := HRL.out; omega)⟩, by rw [hk3.block _ (by simp; omega) HNF.out.2, Below.heap_alloc _ _ _ hdl]; exact HBX2.out⟩
                     have hra2 : w3.heap[w2.heap.size]? = some (.cells #[.int .i64 ra.s, .int .i64 ra.g, .int .i64 ra.m, .int .i64 (ra.f 0), .int .i64 (ra.f 1), .int .i64 (ra.f 2), .int .i64 (ra.f 3), .int .i64 (ra.f 4), .int .i64 (ra.f 5), .int .i64 (ra.f 6), .int .i64 (ra.f 7)] 41) := by rw [hk3.block _ (by simp) HG2.out]; exact heap_alloc_new w2 _
                     have hal := (Array.getElem?_eq_some_iff.1 hra2).1
                     have k0 : w3.cell? ⟨w2.heap.size, 0, none⟩ = some (.int .i64 ra.s) := by rw [cell_of_row _ _ _ _ _ _ hra2]; rfl
                     have k1 : w3.cell? ⟨w2.heap.size, 1, none⟩ = some (.int .i64 ra.g) := by rw [cell_of_row _ _ _ _ _ _ hra2]; rfl
                     have k2 : w3.cell? ⟨w2.heap.size, 2, none⟩ = some (.int .i64 ra.m) := by rw [cell_of_row _ _ _ _ _ _ hra2]; rfl
                     have k3 : w3.cell? ⟨w2.heap.size, 3, none⟩ = some (.int .i64 (ra.f 0)) := by rw [cell_of_row _ _ _ _ _ _ hra2]; rfl
                     have k4 : w3.cell? ⟨w2.heap.size, 4, none⟩ = some (.int .i64 (ra.f 1)) := by rw [cell_of_row _ _ _ _ _ _ hra2]; rfl
                     have k5 : w3.cell? ⟨w2.heap.size, 5, none⟩ = some (.int .i64 (ra.f 2)) := by rw [cell_of_row _ _ _ _ _ _ hra2]; rfl
                     have k6 : w3.cell? ⟨w2.heap.size, 6, none⟩ = some (.int .i64 (ra.f 3)) := by rw [cell_of_row _ _ _ _ _ _ hra2]; rfl
                     have k7 : w3.cell? ⟨w2.heap.size, 7, none⟩ = some (.int .i64 (ra.f 4)) := by rw [cell_of_row _ _ _ _ _ _ hra2]; rfl
                     have k8 : w3.cell? ⟨w2.heap.size, 8, none⟩ = some (.int .i64 (ra.f 5)) := by rw [cell_of_row _ _ _ _ _ _ hra2]; rfl
                     have k9 : w3.cell? ⟨w2.heap.size, 9, none⟩ = some (.int .i64 (ra.f 6)) := by rw [cell_of_row _ _ _ _ _ _ hra2]; rfl
                     have k10 : w3.cell? ⟨w2.heap.size, 10, none⟩ = some (.int .i64 (ra.f 7)) := by rw [cell_of_row _ _ _ _ _ _ hra2]; rfl
                     obtain ⟨d0, d1, d2, d3, d4, d5, d6, d7, d8, d9, d10, d11, d12, d13, d14⟩ := deed_cells HMID.out.box
                     have hdl3 := (Array.getElem?_eq_some_iff.1 HMID.out.box).1
                     clear ht3 hk3 hm3 HT2 HK2 HM2 HBX2 HR2 hdl hra hxa hra2
                     have hne2 : (xa != xa) = false := by simp
                     have heq8 := eq8_run ra.f
                     go_wp2_with fail
                     clear heq8 hne2 d0 d1 d2 d3 d4 d5 d6 d7 d8 d9 d10 d11 d12 d13 d14 hdl3 hal k0 k1 k2 k3 k4 k5 k6 k7 k8 k9 k10
                     have HMID' := Lib.hid (HMID.out.later (nb_alloc (Below.refl _ _) (.cells #[.int .i64 ra.s, .int .i64 ra.g, .int .i64 ra.m, .int .i64 (ra.f 0), .int .i64 (ra.f 1), .int .i64 (ra.f 2), .int .i64 (ra.f 3), .int .i64 (ra.f 4), .int .i64 (ra.f 5), .int .i64 (ra.f 6), .int .i64 (ra.f 7)] 41)))
                     clear HMID
                     have HMID := HMID'
                     clear HMID'
                     generalize w3.alloc (.cells #[.int .i64 ra.s, .int .i64 ra.g, .int .i64 ra.m, .int .i64 (ra.f 0), .int .i64 (ra.f 1), .int .i64 (ra.f 2), .int .i64 (ra.f 3), .int .i64 (ra.f 4), .int .i64 (ra.f 5), .int .i64 (ra.f 6), .int .i64 (ra.f 7)] 41) = W at *
                     as_aux_lemma =>
                         clear HBD HBX HNF HL1
                         obtain ⟨F', G', rows', hBB, hrl'⟩ := HMID.out.both
                         have HBB := Lib.hid hBB
                         have HRL' := Lib.hid hrl'
                         have HLA : Hid (rows'.length * 88 ≤ 140737488355328) := Lib.hid (by have := HS1.out; omega)
                         generalize hrr : rowR rows' di = rr at *
                         generalize hre : rowE rows' di = re at *
                         refine (tabRow_any p F' a0 rows' di rr re _ HBB.out.t HBB.out.ok hrr hre).mono ?_
                         rintro e W1 ⟨rfl, hb1'⟩
                         have HB1 := Lib.hid hb1'
                         obtain ⟨d0, d1, d2, d3, d4, d5, d6, d7, d8, d9, d10, d11, d12, d13, d14⟩ := deed_cells (HMID.out.later hb1').box
                         have hdl := (Array.getElem?_eq_some_iff.1 (HMID.out.later hb1').box).1
                         clear hb1' hBB hrl'
                         go_wp2_with fail
                         clear d0 d1 d2 d3 d4 d5 d6 d7 d8 d9 d10 d11 d12 d13 d14 hdl
                         have HB1a := Lib.hid (nb_alloc HB1.out (.cells #[.int .i64 rr.s, .int .i64 rr.g, .int .i64 rr.m, .int .i64 (rr.f 0), .int .i64 (rr.f 1), .int .i64 (rr.f 2), .int .i64 (rr.f 3), .int .i64 (rr.f 4), .int .i64 (rr.f 5), .int .i64 (rr.f 6), .int .i64 (rr.f 7)] 41))
                         refine (refRow_any q G' a0 rows' di rr re _ (HBB.out.later HB1a.out).r hrr hre).mono ?_
                         rintro e W2 ⟨rfl, hb2'⟩
                         have HB2 := Lib.hid (nb_trans HB1a.out hb2')
                         have hA2 : W2.heap[W1.heap.size]? = some (.cells #[.int .i64 rr.s, .int .i64 rr.g, .int .i64 rr.m, .int .i64 (rr.f 0), .int .i64 (rr.f 1), .int .i64 (rr.f 2), .int .i64 (rr.f 3), .int .i64 (rr.f 4), .int .i64 (rr.f 5), .int .i64 (rr.f 6), .int .i64 (rr.f 7)] 41) := by rw [hb2'.block _ (by simp)]; exact heap_alloc_new W1 _
                         have HA2 := Lib.hid hA2
                         obtain ⟨d0, d1, d2, d3, d4, d5, d6, d7, d8, d9, d10, d11, d12, d13, d14⟩ := deed_cells (HMID.out.later HB2.out).box
                         have hdl := (Array.getElem?_eq_some_iff.1 (HMID.out.later HB2.out).box).1
                         clear hb2' hA2 HB1 HB1a
                         go_wp2_with fail
                         clear d0 d1 d2 d3 d4 d5 d6 d7 d8 d9 d10 d11 d12 d13 d14 hdl
                         have HB2a := Lib.hid (nb_alloc HB2.out (.cells #[.int .i64 rr.s, .int .i64 rr.g, .int .i64 rr.m, .int .i64 (rr.f 0), .int .i64 (rr.f 1), .int .i64 (rr.f 2), .int .i64 (rr.f 3), .int .i64 (rr.f 4), .int .i64 (rr.f 5), .int .i64 (rr.f 6), .int .i64 (rr.f 7)] 41))
                         refine (tabColumn_any p F' a0 rows' dk _ (HBB.out.later HB2a.out).t (by have := HLA.out; omega)).mono ?_
                         rintro e W3 ⟨v3, rfl, ho3, hb3'⟩
                         have HB3 := Lib.hid (nb_trans HB2a.out hb3')
                         have hA3 : W3.heap[W1.heap.size]? = some (.cells #[.int .i64 rr.s, .int .i64 rr.g, .int .i64 rr.m, .int .i64 (rr.f 0), .int .i64 (rr.f 1), .int .i64 (rr.f 2), .int .i64 (rr.f 3), .int .i64 (rr.f 4), .int .i64 (rr.f 5), .int .i64 (rr.f 6), .int .i64 (rr.f 7)] 41) := by rw [hb3'.block _ (by have := (Array.getElem?_eq_some_iff.1 HA2.out).1; simp; omega), Below.heap_alloc _ _ _ (Array.getElem?_eq_some_iff.1 HA2.out).1]; exact HA2.out
                         have hC3 : W3.heap[W2.heap.size]? = some (.cells #[.int .i64 rr.s, .int .i64 rr.g, .int .i64 rr.m, .int .i64 (rr.f 0), .int .i64 (rr.f 1), .int .i64 (rr.f 2), .int .i64 (rr.f 3), .int .i64 (rr.f 4), .int .i64 (rr.f 5), .int .i64 (rr.f 6), .int .i64 (rr.f 7)] 41) := by rw [hb3'.block _ (by simp)]; exact heap_alloc_new W2 _
                         have HA3 := Lib.hid hA3
                         have HC3 := Lib.hid hC3
                         have HO3 := Lib.hid ho3.reads
                         obtain ⟨d0, d1, d2, d3, d4, d5, d6, d7, d8, d9, d10, d11, d12, d13, d14⟩ := deed_cells (HMID.out.later HB3.out).box
                         have hdl := (Array.getElem?_eq_some_iff.1 (HMID.out.later HB3.out).box).1
                         clear hb3' hA3 hC3 ho3 HB2 HB2a HA2
                         go_wp2_with fail
                         clear d0 d1 d2 d3 d4 d5 d6 d7 d8 d9 d10 d11 d12 d13 d14 hdl
                         refine (refColumn_any q G' a0 rows' dk _ (HBB.out.later HB3.out).r HLA.out).mono ?_
                         rintro e W4 ⟨v4, rfl, ho4, hb4'⟩
                         have HB4 := Lib.hid (nb_trans HB3.out hb4')
                         have hA4 : W4.heap[W1.heap.size]? = some (.cells #[.int .i64 rr.s, .int .i64 rr.g, .int .i64 rr.m, .int .i64 (rr.f 0), .int .i64 (rr.f 1), .int .i64 (rr.f 2), .int .i64 (rr.f 3), .int .i64 (rr.f 4), .int .i64 (rr.f 5), .int .i64 (rr.f 6), .int .i64 (rr.f 7)] 41) := by rw [hb4'.block _ (Array.getElem?_eq_some_iff.1 HA3.out).1]; exact HA3.out
                         have hC4 : W4.heap[W2.heap.size]? = some (.cells #[.int .i64 rr.s, .int .i64 rr.g, .int .i64 rr.m, .int .i64 (rr.f 0), .int .i64 (rr.f 1), .int .i64 (rr.f 2), .int .i64 (rr.f 3), .int .i64 (rr.f 4), .int .i64 (rr.f 5), .int .i64 (rr.f 6), .int .i64 (rr.f 7)] 41) := by rw [hb4'.block _ (Array.getElem?_eq_some_iff.1 HC3.out).1]; exact HC3.out
                         have HO34 := Lib.hid (Ints.ofReads (HO3.out.later hb4'))
                         have HO4 := Lib.hid (Ints.ofReads ho4.reads)
                         have k0 : W4.cell? ⟨W1.heap.size, 0, none⟩ = some (.int .i64 rr.s) := by rw [cell_of_row _ _ _ _ _ _ hA4]; rfl
                         have k1 : W4.cell? ⟨W1.heap.size, 1, none⟩ = some (.int .i64 rr.g) := by rw [cell_of_row _ _ _ _ _ _ hA4]; rfl
                         have k2 : W4.cell? ⟨W1.heap.size, 2, none⟩ = some (.int .i64 rr.m) := by rw [cell_of_row _ _ _ _ _ _ hA4]; rfl
                         have k3 : W4.cell? ⟨W1.heap.size, 3, none⟩ = some (.int .i64 (rr.f 0)) := by rw [cell_of_row _ _ _ _ _ _ hA4]; rfl
                         have k4 : W4.cell? ⟨W1.heap.size, 4, none⟩ = some (.int .i64 (rr.f 1)) := by rw [cell_of_row _ _ _ _ _ _ hA4]; rfl
                         have k5 : W4.cell? ⟨W1.heap.size, 5, none⟩ = some (.int .i64 (rr.f 2)) := by rw [cell_of_row _ _ _ _ _ _ hA4]; rfl
                         have k6 : W4.cell? ⟨W1.heap.size, 6, none⟩ = some (.int .i64 (rr.f 3)) := by rw [cell_of_row _ _ _ _ _ _ hA4]; rfl
                         have k7 : W4.cell? ⟨W1.heap.size, 7, none⟩ = some (.int .i64 (rr.f 4)) := by rw [cell_of_row _ _ _ _ _ _ hA4]; rfl
                         have k8 : W4.cell? ⟨W1.heap.size, 8, none⟩ = some (.int .i64 (rr.f 5)) := by rw [cell_of_row _ _ _ _ _ _ hA4]; rfl
                         have k9 : W4.cell? ⟨W1.heap.size, 9, none⟩ = some (.int .i64 (rr.f 6)) := by rw [cell_of_row _ _ _ _ _ _ hA4]; rfl
                         have k10 : W4.cell? ⟨W1.heap.size, 10, none⟩ = some (.int .i64 (rr.f 7)) := by rw [cell_of_row _ _ _ _ _ _ hA4]; rfl
                         have j0 : W4.cell? ⟨W2.heap.size, 0, none⟩ = some (.int .i64 rr.s) := by rw [cell_of_row _ _ _ _ _ _ hC4]; rfl
                         have j1 : W4.cell? ⟨W2.heap.size, 1, none⟩ = some (.int .i64 rr.g) := by rw [cell_of_row _ _ _ _ _ _ hC4]; rfl
                         have j2 : W4.cell? ⟨W2.heap.size, 2, none⟩ = some (.int .i64 rr.m) := by rw [cell_of_row _ _ _ _ _ _ hC4]; rfl
                         have j3 : W4.cell? ⟨W2.heap.size, 3, none⟩ = some (.int .i64 (rr.f 0)) := by rw [cell_of_row _ _ _ _ _ _ hC4]; rfl
                         have j4 : W4.cell? ⟨W2.heap.size, 4, none⟩ = some (.int .i64 (rr.f 1)) := by rw [cell_of_row _ _ _ _ _ _ hC4]; rfl
                         have j5 : W4.cell? ⟨W2.heap.size, 5, none⟩ = some (.int .i64 (rr.f 2)) := by rw [cell_of_row _ _ _ _ _ _ hC4]; rfl
                         have j6 : W4.cell? ⟨W2.heap.size, 6, none⟩ = some (.int .i64 (rr.f 3)) := by rw [cell_of_row _ _ _ _ _ _ hC4]; rfl
                         have j7 : W4.cell? ⟨W2.heap.size, 7, none⟩ = some (.int .i64 (rr.f 4)) := by rw [cell_of_row _ _ _ _ _ _ hC4]; rfl
                         have j8 : W4.cell? ⟨W2.heap.size, 8, none⟩ = some (.int .i64 (rr.f 5)) := by rw [cell_of_row _ _ _ _ _ _ hC4]; rfl
                         have j9 : W4.cell? ⟨W2.heap.size, 9, none⟩ = some (.int .i64 (rr.f 6)) := by rw [cell_of_row _ _ _ _ _ _ hC4]; rfl
                         have j10 : W4.cell? ⟨W2.heap.size, 10, none⟩ = some (.int .i64 (rr.f 7)) := by rw [cell_of_row _ _ _ _ _ _ hC4]; rfl
                         have l1 := (Array.getElem?_eq_some_iff.1 hA4).1
                         have l2 := (Array.getElem?_eq_some_iff.1 hC4).1
                         have hne2 : (re != re) = false := by simp
                         have hne3 : (colE a0 dk != colE a0 dk) = false := by simp
                         have heq8 := eq8_run rr.f
                         clear hb4' hA4 hC4 ho4 HO3 HA3 HC3 HB3
                         go_wp2_with fail
                         clear k0 k1 k2 k3 k4 k5 k6 k7 k8 k9 k10 j0 j1 j2 j3 j4 j5 j6 j7 j8 j9 j10
                         refine (eqInt_any _ _ _ _ _ HO34.out HO4.out).mono ?_
                         rintro e W5 ⟨rfl, hw5⟩
                         rw [decide_eq_true rfl]
                         subst hw5
                         go_wp2
                         go_roundw
                         case rel => exact ⟨k + 1, by omega, by go_num, F', G', rows', HBB.out.later HB4.out, HRL'.out⟩
                         case measure => simp [intOf]; omega
               · as_aux_lemma =>
                     go_wp2_with fail
                     have HTd := Lib.hid (HBD.out.later (Below.refl _ _).drew)
                     clear c0' c1' c2' c3' c4' c5' c6' c7' c8' c9' c10' c11' c12' c13' c14'
                     have hne : (setE a0 rows di dk dn != setE a0 rows di dk dn) = false := by simp
                     go_region_held3 (fun x => (x.cell? ⟨wr.heap.size, 1, none⟩ = some (.int .i64 di) ∧ x.cell? ⟨wr.heap.size, 2, none⟩ = some (.int .i64 dk) ∧ x.cell? ⟨wr.heap.size, 3, none⟩ = some (.int .i64 dn))) (first | go_keep | exact HKA.out | exact HKB.out) (first
                       | ((go_at_call 12; refine (tabSet_any p F a0 rows di dk dn _ HTd.out.t).mono ?_; rintro e w2 ⟨rfl, F2, ht2, hk2, hm2⟩; have HT2 := Lib.hid ht2; have HK2 := Lib.hid hk2; have HM2 := Lib.hid hm2; have HKA : Hid (w2.cell? ⟨wr.heap.size, 1, none⟩ = some (.int .i64 di) ∧ w2.cell? ⟨wr.heap.size, 2, none⟩ = some (.int .i64 dk) ∧ w2.cell? ⟨wr.heap.size, 3, none⟩ = some (.int .i64 dn)) := Lib.hid ⟨hk2.cellS (p := ⟨wr.heap.size, 1, none⟩) (by simp) HNF.out.1, hk2.cellS (p := ⟨wr.heap.size, 2, none⟩) (by simp) HNF.out.1, hk2.cellS (p := ⟨wr.heap.size, 3, none⟩) (by simp) HNF.out.1⟩; have HBX2 : Hid (w2.heap[wr.heap.size]? = some (.cells #[.int .i64 2, .int .i64 di, .int .i64 dk, .int .i64 dn, .int .i64 r.s, .int .i64 r.g, .int .i64 r.m, .int .i64 (r.f 0), .int .i64 (r.f 1), .int .i64 (r.f 2), .int .i64 (r.f 3), .int .i64 (r.f 4), .int .i64 (r.f 5), .int .i64 (r.f 6), .int .i64 (r.f 7)] 37)) := Lib.hid (by rw [hk2.block _ (by simp) HNF.out.1]; exact HBX.out); clear ht2 hk2 hm2))
                       | ((go_at_call 13; refine (refSet_any q G a0 rows di dk dn _ (HTd.out.r.kept HK2.out (fun k hg hf => HTd.out.apart k hf hg)) (by have := HL1.out; omega)).mono ?_; rintro e w3 ⟨rfl, G3, ht3, hk3, hm3⟩; have HMID : Hid (Mid w w3 p q wr.heap.size a0 k 2 di dk dn r) := Lib.hid ⟨⟨F2, G3, _, HTd.out.moved HT2.out HK2.out HM2.out (Below.refl _ _) ht3 hk3 hm3 (HTd.out.ok.set di dk dn), by rw [setL_len]; have := HRL.out; omega⟩, by rw [hk3.block _ (Array.getElem?_eq_some_iff.1 HBX2.out).1 HNF.out.2]; exact HBX2.out⟩; have HKB : Hid (w3.cell? ⟨wr.heap.size, 1, none⟩ = some (.int .i64 di) ∧ w3.cell? ⟨wr.heap.size, 2, none⟩ = some (.int .i64 dk) ∧ w3.cell? ⟨wr.heap.size, 3, none⟩ = some (.int .i64 dn)) := Lib.hid ⟨hk3.cellS (p := ⟨wr.heap.size, 1, none⟩) HKA.out.1 HNF.out.2, hk3.cellS (p := ⟨wr.heap.size, 2, none⟩) HKA.out.2.1 HNF.out.2, hk3.cellS (p := ⟨wr.heap.size, 3, none⟩) HKA.out.2.2 HNF.out.2⟩; clear ht3 hk3 hm3)))
                     obtain ⟨d0, d1, d2, d3, d4, d5, d6, d7, d8, d9, d10, d11, d12, d13, d14⟩ := deed_cells HMID.out.box
                     have hdl := (Array.getElem?_eq_some_iff.1 HMID.out.box).1
                     clear hne
                     go_wp2_with fail
                     clear d0 d1 d2 d3 d4 d5 d6 d7 d8 d9 d10 d11 d12 d13 d14 hdl HKA HKB HT2 HK2 HM2 HBX2 HTd
                     generalize w3 = W at *
                     as_aux_lemma =>
                         clear HBD HBX HNF HL1
                         obtain ⟨F', G', rows', hBB, hrl'⟩ := HMID.out.both
                         have HBB := Lib.hid hBB
                         have HRL' := Lib.hid hrl'
                         have HLA : Hid (rows'.length * 88 ≤ 140737488355328) := Lib.hid (by have := HS1.out; omega)
                         generalize hrr : rowR rows' di = rr at *
                         generalize hre : rowE rows' di = re at *
                         refine (tabRow_any p F' a0 rows' di rr re _ HBB.out.t HBB.out.ok hrr hre).mono ?_
                         rintro e W1 ⟨rfl, hb1'⟩
                         have HB1 := Lib.hid hb1'
                         obtain ⟨d0, d1, d2, d3, d4, d5, d6, d7, d8, d9, d10, d11, d12, d13, d14⟩ := deed_cells (HMID.out.later hb1').box
                         have hdl := (Array.getElem?_eq_some_iff.1 (HMID.out.later hb1').box).1
                         clear hb1' hBB hrl'
                         go_wp2_with fail
                         clear d0 d1 d2 d3 d4 d5 d6 d7 d8 d9 d10 d11 d12 d13 d14 hdl
                         have HB1a := Lib.hid (nb_alloc HB1.out (.cells #[.int .i64 rr.s, .int .i64 rr.g, .int .i64 rr.m, .int .i64 (rr.f 0), .int .i64 (rr.f 1), .int .i64 (rr.f 2), .int .i64 (rr.f 3), .int .i64 (rr.f 4), .int .i64 (rr.f 5), .int .i64 (rr.f 6), .int .i64 (rr.f 7)] 41))
                         refine (refRow_any q G' a0 rows' di rr re _ (HBB.out.later HB1a.out).r hrr hre).mono ?_
                         rintro e W2 ⟨rfl, hb2'⟩
                         have HB2 := Lib.hid (nb_trans HB1a.out hb2')
                         have hA2 : W2.heap[W1.heap.size]? = some (.cells #[.int .i64 rr.s, .int .i64 rr.g, .int .i64 rr.m, .int .i64 (rr.f 0), .int .i64 (rr.f 1), .int .i64 (rr.f 2), .int .i64 (rr.f 3), .int .i64 (rr.f 4), .int .i64 (rr.f 5), .int .i64 (rr.f 6), .int .i64 (rr.f 7)] 41) := by rw [hb2'.block _ (by simp)]; exact heap_alloc_new W1 _
                         have HA2 := Lib.hid hA2
                         obtain ⟨d0, d1, d2, d3, d4, d5, d6, d7, d8, d9, d10, d11, d12, d13, d14⟩ := deed_cells (HMID.out.later HB2.out).box
                         have hdl := (Array.getElem?_eq_some_iff.1 (HMID.out.later HB2.out).box).1
                         clear hb2' hA2 HB1 HB1a
                         go_wp2_with fail
                         clear d0 d1 d2 d3 d4 d5 d6 d7 d8 d9 d10 d11 d12 d13 d14 hdl
                         have HB2a := Lib.hid (nb_alloc HB2.out (.cells #[.int .i64 rr.s, .int .i64 rr.g, .int .i64 rr.m, .int .i64 (rr.f 0), .int .i64 (rr.f 1), .int .i64 (rr.f 2), .int .i64 (rr.f 3), .int .i64 (rr.f 4), .int .i64 (rr.f 5), .int .i64 (rr.f 6), .int .i64 (rr.f 7)] 41))
                         refine (tabColumn_any p F' a0 rows' dk _ (HBB.out.later HB2a.out).t (by have := HLA.out; omega)).mono ?_
                         rintro e W3 ⟨v3, rfl, ho3, hb3'⟩
                         have HB3 := Lib.hid (nb_trans HB2a.out hb3')
                         have hA3 : W3.heap[W1.heap.size]? = some (.cells #[.int .i64 rr.s, .int .i64 rr.g, .int .i64 rr.m, .int .i64 (rr.f 0), .int .i64 (rr.f 1), .int .i64 (rr.f 2), .int .i64 (rr.f 3), .int .i64 (rr.f 4), .int .i64 (rr.f 5), .int .i64 (rr.f 6), .int .i64 (rr.f 7)] 41) := by rw [hb3'.block _ (by have := (Array.getElem?_eq_some_iff.1 HA2.out).1; simp; omega), Below.heap_alloc _ _ _ (Array.getElem?_eq_some_iff.1 HA2.out).1]; exact HA2.out
                         have hC3 : W3.heap[W2.heap.size]? = some (.cells #[.int .i64 rr.s, .int .i64 rr.g, .int .i64 rr.m, .int .i64 (rr.f 0), .int .i64 (rr.f 1), .int .i64 (rr.f 2), .int .i64 (rr.f 3), .int .i64 (rr.f 4), .int .i64 (rr.f 5), .int .i64 (rr.f 6), .int .i64 (rr.f 7)] 41) := by rw [hb3'.block _ (by simp)]; exact heap_alloc_new W2 _
                         have HA3 := Lib.hid hA3
                         have HC3 := Lib.hid hC3
                         have HO3 := Lib.hid ho3.reads
                         obtain ⟨d0, d1, d2, d3, d4, d5, d6, d7, d8, d9, d10, d11, d12, d13, d14⟩ := deed_cells (HMID.out.later HB3.out).box
                         have hdl := (Array.getElem?_eq_some_iff.1 (HMID.out.later HB3.out).box).1
                         clear hb3' hA3 hC3 ho3 HB2 HB2a HA2
                         go_wp2_with fail
                         clear d0 d1 d2 d3 d4 d5 d6 d7 d8 d9 d10 d11 d12 d13 d14 hdl
                         refine (refColumn_any q G' a0 rows' dk _ (HBB.out.later HB3.out).r HLA.out).mono ?_
                         rintro e W4 ⟨v4, rfl, ho4, hb4'⟩
                         have HB4 := Lib.hid (nb_trans HB3.out hb4')
                         have hA4 : W4.heap[W1.heap.size]? = some (.cells #[.int .i64 rr.s, .int .i64 rr.g, .int .i64 rr.m, .int .i64 (rr.f 0), .int .i64 (rr.f 1), .int .i64 (rr.f 2), .int .i64 (rr.f 3), .int .i64 (rr.f 4), .int .i64 (rr.f 5), .int .i64 (rr.f 6), .int .i64 (rr.f 7)] 41) := by rw [hb4'.block _ (Array.getElem?_eq_some_iff.1 HA3.out).1]; exact HA3.out
                         have hC4 : W4.heap[W2.heap.size]? = some (.cells #[.int .i64 rr.s, .int .i64 rr.g, .int .i64 rr.m, .int .i64 (rr.f 0), .int .i64 (rr.f 1), .int .i64 (rr.f 2), .int .i64 (rr.f 3), .int .i64 (rr.f 4), .int .i64 (rr.f 5), .int .i64 (rr.f 6), .int .i64 (rr.f 7)] 41) := by rw [hb4'.block _ (Array.getElem?_eq_some_iff.1 HC3.out).1]; exact HC3.out
                         have HO34 := Lib.hid (Ints.ofReads (HO3.out.later hb4'))
                         have HO4 := Lib.hid (Ints.ofReads ho4.reads)
                         have k0 : W4.cell? ⟨W1.heap.size, 0, none⟩ = some (.int .i64 rr.s) := by rw [cell_of_row _ _ _ _ _ _ hA4]; rfl
                         have k1 : W4.cell? ⟨W1.heap.size, 1, none⟩ = some (.int .i64 rr.g) := by rw [cell_of_row _ _ _ _ _ _ hA4]; rfl
                         have k2 : W4.cell? ⟨W1.heap.size, 2, none⟩ = some (.int .i64 rr.m) := by rw [cell_of_row _ _ _ _ _ _ hA4]; rfl
                         have k3 : W4.cell? ⟨W1.heap.size, 3, none⟩ = some (.int .i64 (rr.f 0)) := by rw [cell_of_row _ _ _ _ _ _ hA4]; rfl
                         have k4 : W4.cell? ⟨W1.heap.size, 4, none⟩ = some (.int .i64 (rr.f 1)) := by rw [cell_of_row _ _ _ _ _ _ hA4]; rfl
                         have k5 : W4.cell? ⟨W1.heap.size, 5, none⟩ = some (.int .i64 (rr.f 2)) := by rw [cell_of_row _ _ _ _ _ _ hA4]; rfl
                         have k6 : W4.cell? ⟨W1.heap.size, 6, none⟩ = some (.int .i64 (rr.f 3)) := by rw [cell_of_row _ _ _ _ _ _ hA4]; rfl
                         have k7 : W4.cell? ⟨W1.heap.size, 7, none⟩ = some (.int .i64 (rr.f 4)) := by rw [cell_of_row _ _ _ _ _ _ hA4]; rfl
                         have k8 : W4.cell? ⟨W1.heap.size, 8, none⟩ = some (.int .i64 (rr.f 5)) := by rw [cell_of_row _ _ _ _ _ _ hA4]; rfl
                         have k9 : W4.cell? ⟨W1.heap.size, 9, none⟩ = some (.int .i64 (rr.f 6)) := by rw [cell_of_row _ _ _ _ _ _ hA4]; rfl
                         have k10 : W4.cell? ⟨W1.heap.size, 10, none⟩ = some (.int .i64 (rr.f 7)) := by rw [cell_of_row _ _ _ _ _ _ hA4]; rfl
                         have j0 : W4.cell? ⟨W2.heap.size, 0, none⟩ = some (.int .i64 rr.s) := by rw [cell_of_row _ _ _ _ _ _ hC4]; rfl
                         have j1 : W4.cell? ⟨W2.heap.size, 1, none⟩ = some (.int .i64 rr.g) := by rw [cell_of_row _ _ _ _ _ _ hC4]; rfl
                         have j2 : W4.cell? ⟨W2.heap.size, 2, none⟩ = some (.int .i64 rr.m) := by rw [cell_of_row _ _ _ _ _ _ hC4]; rfl
                         have j3 : W4.cell? ⟨W2.heap.size, 3, none⟩ = some (.int .i64 (rr.f 0)) := by rw [cell_of_row _ _ _ _ _ _ hC4]; rfl
                         have j4 : W4.cell? ⟨W2.heap.size, 4, none⟩ = some (.int .i64 (rr.f 1)) := by rw [cell_of_row _ _ _ _ _ _ hC4]; rfl
                         have j5 : W4.cell? ⟨W2.heap.size, 5, none⟩ = some (.int .i64 (rr.f 2)) := by rw [cell_of_row _ _ _ _ _ _ hC4]; rfl
                         have j6 : W4.cell? ⟨W2.heap.size, 6, none⟩ = some (.int .i64 (rr.f 3)) := by rw [cell_of_row _ _ _ _ _ _ hC4]; rfl
                         have j7 : W4.cell? ⟨W2.heap.size, 7, none⟩ = some (.int .i64 (rr.f 4)) := by rw [cell_of_row _ _ _ _ _ _ hC4]; rfl
                         have j8 : W4.cell? ⟨W2.heap.size, 8, none⟩ = some (.int .i64 (rr.f 5)) := by rw [cell_of_row _ _ _ _ _ _ hC4]; rfl
                         have j9 : W4.cell? ⟨W2.heap.size, 9, none⟩ = some (.int .i64 (rr.f 6)) := by rw [cell_of_row _ _ _ _ _ _ hC4]; rfl
                         have j10 : W4.cell? ⟨W2.heap.size, 10, none⟩ = some (.int .i64 (rr.f 7)) := by rw [cell_of_row _ _ _ _ _ _ hC4]; rfl
                         have l1 := (Array.getElem?_eq_some_iff.1 hA4).1
                         have l2 := (Array.getElem?_eq_some_iff.1 hC4).1
                         have hne2 : (re != re) = false := by simp
                         have hne3 : (colE a0 dk != colE a0 dk) = false := by simp
                         have heq8 := eq8_run rr.f
                         clear hb4' hA4 hC4 ho4 HO3 HA3 HC3 HB3
                         go_wp2_with fail
                         clear k0 k1 k2 k3 k4 k5 k6 k7 k8 k9 k10 j0 j1 j2 j3 j4 j5 j6 j7 j8 j9 j10
                         refine (eqInt_any _ _ _ _ _ HO34.out HO4.out).mono ?_
                         rintro e W5 ⟨rfl, hw5⟩
                         rw [decide_eq_true rfl]
                         subst hw5
                         go_wp2
                         go_roundw
                         case rel => exact ⟨k + 1, by omega, by go_num, F', G', rows', HBB.out.later HB4.out, HRL'.out⟩
                         case measure => simp [intOf]; omega
               · as_aux_lemma =>
                     have HMID : Hid (Mid w (wr.alloc (.cells #[.int .i64 dd, .int .i64 di, .int .i64 dk, .int .i64 dn, .int .i64 r.s, .int .i64 r.g, .int .i64 r.m, .int .i64 (r.f 0), .int .i64 (r.f 1), .int .i64 (r.f 2), .int .i64 (r.f 3), .int .i64 (r.f 4), .int .i64 (r.f 5), .int .i64 (r.f 6), .int .i64 (r.f 7)] 37)) p q wr.heap.size a0 k dd di dk dn r) := Lib.hid ⟨⟨F, G, rows, HBD.out, by have := HRL.out; omega⟩, HBX.out⟩
                     go_wp2_with fail
                     clear c0' c1' c2' c3' c4' c5' c6' c7' c8' c9' c10' c11' c12' c13' c14' hd0 hd1 hd2
                     generalize wr.alloc (.cells #[.int .i64 dd, .int .i64 di, .int .i64 dk, .int .i64 dn, .int .i64 r.s, .int .i64 r.g, .int .i64 r.m, .int .i64 (r.f 0), .int .i64 (r.f 1), .int .i64 (r.f 2), .int .i64 (r.f 3), .int .i64 (r.f 4), .int .i64 (r.f 5), .int .i64 (r.f 6), .int .i64 (r.f 7)] 37) = W at *
                     as_aux_lemma =>
                         clear HBD HBX HNF HL1
                         obtain ⟨F', G', rows', hBB, hrl'⟩ := HMID.out.both
                         have HBB := Lib.hid hBB
                         have HRL' := Lib.hid hrl'
                         have HLA : Hid (rows'.length * 88 ≤ 140737488355328) := Lib.hid (by have := HS1.out; omega)
                         generalize hrr : rowR rows' di = rr at *
                         generalize hre : rowE rows' di = re at *
                         refine (tabRow_any p F' a0 rows' di rr re _ HBB.out.t HBB.out.ok hrr hre).mono ?_
                         rintro e W1 ⟨rfl, hb1'⟩
                         have HB1 := Lib.hid hb1'
                         obtain ⟨d0, d1, d2, d3, d4, d5, d6, d7, d8, d9, d10, d11, d12, d13, d14⟩ := deed_cells (HMID.out.later hb1').box
                         have hdl := (Array.getElem?_eq_some_iff.1 (HMID.out.later hb1').box).1
                         clear hb1' hBB hrl'
                         go_wp2_with fail
                         clear d0 d1 d2 d3 d4 d5 d6 d7 d8 d9 d10 d11 d12 d13 d14 hdl
                         have HB1a := Lib.hid (nb_alloc HB1.out (.cells #[.int .i64 rr.s, .int .i64 rr.g, .int .i64 rr.m, .int .i64 (rr.f 0), .int .i64 (rr.f 1), .int .i64 (rr.f 2), .int .i64 (rr.f 3), .int .i64 (rr.f 4), .int .i64 (rr.f 5), .int .i64 (rr.f 6), .int .i64 (rr.f 7)] 41))
                         refine (refRow_any q G' a0 rows' di rr re _ (HBB.out.later HB1a.out).r hrr hre).mono ?_
                         rintro e W2 ⟨rfl, hb2'⟩
                         have HB2 := Lib.hid (nb_trans HB1a.out hb2')
                         have hA2 : W2.heap[W1.heap.size]? = some (.cells #[.int .i64 rr.s, .int .i64 rr.g, .int .i64 rr.m, .int .i64 (rr.f 0), .int .i64 (rr.f 1), .int .i64 (rr.f 2), .int .i64 (rr.f 3), .int .i64 (rr.f 4), .int .i64 (rr.f 5), .int .i64 (rr.f 6), .int .i64 (rr.f 7)] 41) := by rw [hb2'.block _ (by simp)]; exact heap_alloc_new W1 _
                         have HA2 := Lib.hid hA2
                         obtain ⟨d0, d1, d2, d3, d4, d5, d6, d7, d8, d9, d10, d11, d12, d13, d14⟩ := deed_cells (HMID.out.later HB2.out).box
                         have hdl := (Array.getElem?_eq_some_iff.1 (HMID.out.later HB2.out).box).1
                         clear hb2' hA2 HB1 HB1a
                         go_wp2_with fail
                         clear d0 d1 d2 d3 d4 d5 d6 d7 d8 d9 d10 d11 d12 d13 d14 hdl
                         have HB2a := Lib.hid (nb_alloc HB2.out (.cells #[.int .i64 rr.s, .int .i64 rr.g, .int .i64 rr.m, .int .i64 (rr.f 0), .int .i64 (rr.f 1), .int .i64 (rr.f 2), .int .i64 (rr.f 3), .int .i64 (rr.f 4), .int .i64 (rr.f 5), .int .i64 (rr.f 6), .int .i64 (rr.f 7)] 41))
                         refine (tabColumn_any p F' a0 rows' dk _ (HBB.out.later HB2a.out).t (by have := HLA.out; omega)).mono ?_
                         rintro e W3 ⟨v3, rfl, ho3, hb3'⟩
                         have HB3 := Lib.hid (nb_trans HB2a.out hb3')
                         have hA3 : W3.heap[W1.heap.size]? = some (.cells #[.int .i64 rr.s, .int .i64 rr.g, .int .i64 rr.m, .int .i64 (rr.f 0), .int .i64 (rr.f 1), .int .i64 (rr.f 2), .int .i64 (rr.f 3), .int .i64 (rr.f 4), .int .i64 (rr.f 5), .int .i64 (rr.f 6), .int .i64 (rr.f 7)] 41) := by rw [hb3'.block _ (by have := (Array.getElem?_eq_some_iff.1 HA2.out).1; simp; omega), Below.heap_alloc _ _ _ (Array.getElem?_eq_some_iff.1 HA2.out).1]; exact HA2.out
                         have hC3 : W3.heap[W2.heap.size]? = some (.cells #[.int .i64 rr.s, .int .i64 rr.g, .int .i64 rr.m, .int .i64 (rr.f 0), .int .i64 (rr.f 1), .int .i64 (rr.f 2), .int .i64 (rr.f 3), .int .i64 (rr.f 4), .int .i64 (rr.f 5), .int .i64 (rr.f 6), .int .i64 (rr.f 7)] 41) := by rw [hb3'.block _ (by simp)]; exact heap_alloc_new W2 _
                         have HA3 := Lib.hid hA3
                         have HC3 := Lib.hid hC3
                         have HO3 := Lib.hid ho3.reads
                         obtain ⟨d0, d1, d2, d3, d4, d5, d6, d7, d8, d9, d10, d11, d12, d13, d14⟩ := deed_cells (HMID.out.later HB3.out).box
                         have hdl := (Array.getElem?_eq_some_iff.1 (HMID.out.later HB3.out).box).1
                         clear hb3' hA3 hC3 ho3 HB2 HB2a HA2
                         go_wp2_with fail
                         clear d0 d1 d2 d3 d4 d5 d6 d7 d8 d9 d10 d11 d12 d13 d14 hdl
                         refine (refColumn_any q G' a0 rows' dk _ (HBB.out.later HB3.out).r HLA.out).mono ?_
                         rintro e W4 ⟨v4, rfl, ho4, hb4'⟩
                         have HB4 := Lib.hid (nb_trans HB3.out hb4')
                         have hA4 : W4.heap[W1.heap.size]? = some (.cells #[.int .i64 rr.s, .int .i64 rr.g, .int .i64 rr.m, .int .i64 (rr.f 0), .int .i64 (rr.f 1), .int .i64 (rr.f 2), .int .i64 (rr.f 3), .int .i64 (rr.f 4), .int .i64 (rr.f 5), .int .i64 (rr.f 6), .int .i64 (rr.f 7)] 41) := by rw [hb4'.block _ (Array.getElem?_eq_some_iff.1 HA3.out).1]; exact HA3.out
                         have hC4 : W4.heap[W2.heap.size]? = some (.cells #[.int .i64 rr.s, .int .i64 rr.g, .int .i64 rr.m, .int .i64 (rr.f 0), .int .i64 (rr.f 1), .int .i64 (rr.f 2), .int .i64 (rr.f 3), .int .i64 (rr.f 4), .int .i64 (rr.f 5), .int .i64 (rr.f 6), .int .i64 (rr.f 7)] 41) := by rw [hb4'.block _ (Array.getElem?_eq_some_iff.1 HC3.out).1]; exact HC3.out
                         have HO34 := Lib.hid (Ints.ofReads (HO3.out.later hb4'))
                         have HO4 := Lib.hid (Ints.ofReads ho4.reads)
                         have k0 : W4.cell? ⟨W1.heap.size, 0, none⟩ = some (.int .i64 rr.s) := by rw [cell_of_row _ _ _ _ _ _ hA4]; rfl
                         have k1 : W4.cell? ⟨W1.heap.size, 1, none⟩ = some (.int .i64 rr.g) := by rw [cell_of_row _ _ _ _ _ _ hA4]; rfl
                         have k2 : W4.cell? ⟨W1.heap.size, 2, none⟩ = some (.int .i64 rr.m) := by rw [cell_of_row _ _ _ _ _ _ hA4]; rfl
                         have k3 : W4.cell? ⟨W1.heap.size, 3, none⟩ = some (.int .i64 (rr.f 0)) := by rw [cell_of_row _ _ _ _ _ _ hA4]; rfl
                         have k4 : W4.cell? ⟨W1.heap.size, 4, none⟩ = some (.int .i64 (rr.f 1)) := by rw [cell_of_row _ _ _ _ _ _ hA4]; rfl
                         have k5 : W4.cell? ⟨W1.heap.size, 5, none⟩ = some (.int .i64 (rr.f 2)) := by rw [cell_of_row _ _ _ _ _ _ hA4]; rfl
                         have k6 : W4.cell? ⟨W1.heap.size, 6, none⟩ = some (.int .i64 (rr.f 3)) := by rw [cell_of_row _ _ _ _ _ _ hA4]; rfl
                         have k7 : W4.cell? ⟨W1.heap.size, 7, none⟩ = some (.int .i64 (rr.f 4)) := by rw [cell_of_row _ _ _ _ _ _ hA4]; rfl
                         have k8 : W4.cell? ⟨W1.heap.size, 8, none⟩ = some (.int .i64 (rr.f 5)) := by rw [cell_of_row _ _ _ _ _ _ hA4]; rfl
                         have k9 : W4.cell? ⟨W1.heap.size, 9, none⟩ = some (.int .i64 (rr.f 6)) := by rw [cell_of_row _ _ _ _ _ _ hA4]; rfl
                         have k10 : W4.cell? ⟨W1.heap.size, 10, none⟩ = some (.int .i64 (rr.f 7)) := by rw [cell_of_row _ _ _ _ _ _ hA4]; rfl
                         have j0 : W4.cell? ⟨W2.heap.size, 0, none⟩ = some (.int .i64 rr.s) := by rw [cell_of_row _ _ _ _ _ _ hC4]; rfl
                         have j1 : W4.cell? ⟨W2.heap.size, 1, none⟩ = some (.int .i64 rr.g) := by rw [cell_of_row _ _ _ _ _ _ hC4]; rfl
                         have j2 : W4.cell? ⟨W2.heap.size, 2, none⟩ = some (.int .i64 rr.m) := by rw [cell_of_row _ _ _ _ _ _ hC4]; rfl
                         have j3 : W4.cell? ⟨W2.heap.size, 3, none⟩ = some (.int .i64 (rr.f 0)) := by rw [cell_of_row _ _ _ _ _ _ hC4]; rfl
                         have j4 : W4.cell? ⟨W2.heap.size, 4, none⟩ = some (.int .i64 (rr.f 1)) := by rw [cell_of_row _ _ _ _ _ _ hC4]; rfl
                         have j5 : W4.cell? ⟨W2.heap.size, 5, none⟩ = some (.int .i64 (rr.f 2)) := by rw [cell_of_row _ _ _ _ _ _ hC4]; rfl
                         have j6 : W4.cell? ⟨W2.heap.size, 6, none⟩ = some (.int .i64 (rr.f 3)) := by rw [cell_of_row _ _ _ _ _ _ hC4]; rfl
                         have j7 : W4.cell? ⟨W2.heap.size, 7, none⟩ = some (.int .i64 (rr.f 4)) := by rw [cell_of_row _ _ _ _ _ _ hC4]; rfl
                         have j8 : W4.cell? ⟨W2.heap.size, 8, none⟩ = some (.int .i64 (rr.f 5)) := by rw [cell_of_row _ _ _ _ _ _ hC4]; rfl
                         have j9 : W4.cell? ⟨W2.heap.size, 9, none⟩ = some (.int .i64 (rr.f 6)) := by rw [cell_of_row _ _ _ _ _ _ hC4]; rfl
                         have j10 : W4.cell? ⟨W2.heap.size, 10, none⟩ = some (.int .i64 (rr.f 7)) := by rw [cell_of_row _ _ _ _ _ _ hC4]; rfl
                         have l1 := (Array.getElem?_eq_some_iff.1 hA4).1
                         have l2 := (Array.getElem?_eq_some_iff.1 hC4).1
                         have hne2 : (re != re) = false := by simp
                         have hne3 : (colE a0 dk != colE a0 dk) = false := by simp
                         have heq8 := eq8_run rr.f
                         clear hb4' hA4 hC4 ho4 HO3 HA3 HC3 HB3
                         go_wp2_with fail
                         clear k0 k1 k2 k3 k4 k5 k6 k7 k8 k9 k10 j0 j1 j2 j3 j4 j5 j6 j7 j8 j9 j10
                         refine (eqInt_any _ _ _ _ _ HO34.out HO4.out).mono ?_
                         rintro e W5 ⟨rfl, hw5⟩
                         rw [decide_eq_true rfl]
                         subst hw5
                         go_wp2
                         go_roundw
                         case rel => exact ⟨k + 1, by omega, by go_num, F', G', rows', HBB.out.later HB4.out, HRL'.out⟩
                         case measure => simp [intOf]; omega)
        · as_aux_lemma =>
            obtain rfl : k = n1 := by omega
            obtain ⟨F, G, rows, hBT, hrl⟩ := hT.out
            have HBT := Lib.hid hBT
            have HRL := Lib.hid hrl
            obtain ⟨v, hcI, -⟩ := hBT.r
            have cq := hcI.cell
            have hql := hcI.lt
            obtain ⟨hmm, hop⟩ := hcI.own.reads.open
            have hhi := info_parts infoHand
            obtain ⟨ih, hih, hzh0, hzh1, hzh2⟩ := hhi
            clear hBT hrl hcI hT
            generalize hn : rows.length = n at *
            have HN := Lib.hid hn
            clear hn
            have hnl : n * 88 ≤ 140737488355328 := by have := HS1.out; have := HRL.out; omega
            have HNL := Lib.hid hnl
            clear HRL
            unfold maxLen at hmm
            generalize wr = wz at *
            rcases hop with ⟨a, cap, rfl, hz⟩ | ⟨b, off, cap, rfl, hb, hlc, hcm, hcc⟩
            all_goals
              go_wp2
              go_loopw [26, 197] (fun u i wx => ∃ t : Nat, t ≤ n ∧ i = .int .i64 t ∧ Hid (OwnsF elHand wx wz.heap.size 32 u (hsOf (rows.take t))) ∧ Hid (Below wz.heap.size wz wx)) (fun _ i _ => n - (intOf i).toNat)
              case atStart => exact ⟨0, by omega, rfl, OwnsF.nil _ _ _ _, Below.refl _ _⟩
              case round =>
                obtain ⟨t, htn, rfl, hO, hB⟩ := hrel
                by_cases hlt2 : t < n
                · first
                    | omega
                    | (have hck := hcc t hlt2
                       have hcr : ∀ jj, jj < 11 → wr.cell? ⟨b, off + t * 11 + jj, none⟩ = (elRow.enc (rows.getD t rowZ))[jj]? := fun jj hjj => by rw [hB.out.cell (p := ⟨b, _, none⟩) hb]; exact hck jj hjj
                       have HTK : Hid (hsOf (rows.take (t + 1)) = hsOf (rows.take t) ++ [((rows.getD t rowZ).s, (rows.getD t rowZ).g)]) := Lib.hid (by
                         have hlt' : t < rows.length := by rw [HN.out]; exact hlt2
                         rw [List.take_add_one, List.getElem?_eq_getElem hlt', List.getD_eq_getElem?_getD, List.getElem?_eq_getElem hlt', Option.toList_some, hsOf_snoc]; rfl)
                       have HLEN : Hid ((hsOf (rows.take t)).length = t) := Lib.hid (by rw [hsOf_len, List.length_take, HN.out]; omega)
                       generalize rows.getD t rowZ = r at *
                       have c0' : wr.cell? ⟨b, off + t * 11, none⟩ = some (.int .i64 r.s) := hcr 0 (by decide)
                       have c1' : wr.cell? ⟨b, off + t * 11 + 1, none⟩ = some (.int .i64 r.g) := hcr 1 (by decide)
                       have c2' : wr.cell? ⟨b, off + t * 11 + 2, none⟩ = some (.int .i64 r.m) := hcr 2 (by decide)
                       have c3' : wr.cell? ⟨b, off + t * 11 + 3, none⟩ = some (.int .i64 (r.f 0)) := hcr 3 (by decide)
                       have c4' : wr.cell? ⟨b, off + t * 11 + 4, none⟩ = some (.int .i64 (r.f 1)) := hcr 4 (by decide)
                       have c5' : wr.cell? ⟨b, off + t * 11 + 5, none⟩ = some (.int .i64 (r.f 2)) := hcr 5 (by decide)
                       have c6' : wr.cell? ⟨b, off + t * 11 + 6, none⟩ = some (.int .i64 (r.f 3)) := hcr 6 (by decide)
                       have c7' : wr.cell? ⟨b, off + t * 11 + 7, none⟩ = some (.int .i64 (r.f 4)) := hcr 7 (by decide)
                       have c8' : wr.cell? ⟨b, off + t * 11 + 8, none⟩ = some (.int .i64 (r.f 5)) := hcr 8 (by decide)
                       have c9' : wr.cell? ⟨b, off + t * 11 + 9, none⟩ = some (.int .i64 (r.f 6)) := hcr 9 (by decide)
                       have c10' : wr.cell? ⟨b, off + t * 11 + 10, none⟩ = some (.int .i64 (r.f 7)) := hcr 10 (by decide)
                       have hbw : b < wr.heap.size := Nat.lt_of_lt_of_le hb hB.out.size
                       clear hcc hck hcr
                       go_wp2_with (first | (at_builtin; refine wpList_append_own _ rfl _ _ 49 rfl wz.heap.size 32 ih (.agg #[.int .i64 0, .int .i64 0]) 2 16 Try.underlying49 hih hzh0 hzh1 hzh2 rfl (by decide) _ _ _ rfl (World.ownsRow.alloc (World.ownsRow.alloc hO.out _) _) ⟨wr.heap.size + 1, 0, none⟩ 1 1 [.int .i64 r.s, .int .i64 r.g] rfl rfl (by exact World.news_of_block (heap_alloc2_new wr _ _)) (by intro u hu; simp at hu; rcases hu with rfl | rfl <;> rfl) (by rw [HLEN.out]; unfold maxLen; omega) (by rw [HLEN.out]; omega) (by have := hB.out.size; simp; omega) ?_))
                       intro v' w2 hown hgr _
                       have HO2 : Hid (OwnsF elHand w2 wz.heap.size 32 v' (hsOf (rows.take t) ++ [(r.s, r.g)])) := Lib.hid (OwnsF.snoc (x := (r.s, r.g)) hown)
                       have HB2 : Hid (Below wz.heap.size wz w2) := Lib.hid ((nb_alloc (nb_alloc hB.out _) _).grown hgr (by have := hB.out.size; simp; omega) (fun jj hjj => hO.out.ge hjj))
                       clear hown hgr
                       go_wp2
                       go_roundw
                       case rel => exact ⟨t + 1, by omega, by go_num, by rw [HTK.out]; exact HO2, HB2⟩
                       case measure => simp [intOf]; omega)
                · obtain rfl : t = n := by omega
                  have HALL : Hid (hsOf (rows.take t) = hsOf rows) := Lib.hid (by rw [List.take_of_length_le (by rw [HN.out]; exact Nat.le_refl _)])
                  go_wp2_with fail
                  refine (tabHandles_any p F a0 rows _ (HBT.out.later hB.out).t (by rw [HN.out]; have := HNL.out; omega)).mono ?_
                  rintro e w5 ⟨v5, rfl, ho5, hb5⟩
                  have HO5 := Lib.hid ho5.reads
                  have HO6 := Lib.hid ((hO.out.reads).later hb5)
                  have HB5 := Lib.hid (nb_trans hB.out hb5)
                  clear ho5 hb5
                  go_wp2_with fail
                  refine (eqHand_any _ _ _ _ _ HO5.out HO6.out).mono ?_
                  rintro e w6 ⟨rfl, hb6⟩
                  rw [HALL.out, decide_eq_true rfl]
                  have HB6 := Lib.hid (HBT.out.below.trans ((nb_trans HB5.out hb6).mono HBT.out.below.size))
                  clear hb6
                  go_wp2
                  go_ret
                  exact ⟨rfl, HB6.out⟩

namespace tableDoes
theorem own : ownKnob Try.prog.godebug = none := by kernel_rfl
theorem laidOut : laidOutB Try.prog = true := by kernel_rfl

set_option maxRecDepth 100000 in
theorem lifted (os : Os) (started : os.Started) (H : Type) (enc : TypeId × Value → H) :
    ReturnsInHanded {} Try.checked os 3 .any (Rows.tableDoesSpec.pre6 enc Try.prog Try.f3 Rows.tableDoesRow.domain false) (Rows.tableDoesSpec.post enc Try.prog Try.f3 false true false false) := by
  refine returnsInHanded_of_change_sized (C := Try.checked) own started (by kernel_rfl) Try.func3
    (ChangeSpec.witness6 (enc := enc) (C := Try.checked) false ⟨#[], #[.int .i64 0, .slice none 0 0], []⟩ 8 (by kernel_rfl) (by kernel_rfl) (by kernel_rfl) (by kernel_rfl)) ?_
  intro W base args ds gs before hval0 hW hcnd hsz _
  have hval : ∀ (j : Nat) t v, Try.f3.params[j]? = some t → args[j]? = some v → Value.okWide Try.prog W .any base t v := hval0
  have hW' := hW
  obtain ⟨p, q, hA0, hV, rfl, hfz, hnd⟩ := hW
  have hA : DataW.TrodAll enc Try.prog W 0 (fun _ => true) true Try.f3.params.toList args.toList ds p := hA0
  rw [Try.params3] at hA hval
  obtain ⟨v0, vs0, d0, ds0, p0, q0, hargs, rfl, rfl, h0, r0⟩ := trodAll_cons hA
  obtain ⟨v1, vs1, d1, ds1, p1, q1, rfl, rfl, rfl, h1, r1⟩ := trodAll_cons r0
  obtain ⟨rfl, rfl, rfl⟩ := trodAll_nil r1
  obtain rfl : args = #[v0, v1] := by cases args; simp_all
  obtain ⟨rfl, rfl⟩ := trodVars_none hV
  have k0' := h0
  have lt0 : ∀ x ∈ p0, x.block < W.heap.size := by obtain ⟨m, hm⟩ := h0; exact DataW.trod_lt m _ _ _ hm
  have k1' := h1
  have lt1 : ∀ x ∈ p1, x.block < W.heap.size := by obtain ⟨m, hm⟩ := h1; exact DataW.trod_lt m _ _ _ hm
  obtain ⟨a0, rfl, i0⟩ : ∃ a : Int, v0 = .int .i64 a ∧ I64 a := by
    obtain ⟨a, rfl, _, _, wa⟩ := open_int Try.underlying3 (hval 0 3 v0 rfl rfl) h0
    exact ⟨a, rfl, I64_of wa⟩
  obtain ⟨z1, i1⟩ : ∃ zs, Reads elDeed W v1 zs := by
    obtain ⟨a0, len0, cap0, rfl⟩ := okWide_slice Try.underlying22 (hval 1 22 v1 rfl rfl)
    exact Reads_of elDeed Try.underlying22 (by kernel_rfl) deed_dec h1
  rw [Try.params3] at hsz
  have s1 : z1.length * 120 ≤ 140737488351232 := by
    obtain ⟨aa, cc, ee, _⟩ := i1
    have hh := k1'
    rw [ee] at hh
    exact trod_len Try.underlying22 (show Try.prog.bytesOf 37 = 120 by kernel_rfl) hh (fun el sp hd => sized_slice hsz (j := 1) (t := 22) rfl (by rw [hd]; rfl) Try.underlying22)
  clear hA0 hval0
  refine (tableDoes_walk a0 i0 v1 z1 W i1 s1).mono fun e W' ⟨he, bel⟩ => ?_
  subst he
  exact ⟨_, rfl, _, _, _, [], _, [], hW', trodAll_mk1 (shut_bool Try.underlying4 _), (trodAll_cons_mk (Below.trod laidOut (by kernel_rfl) (of_decide_eq_true (by kernel_rfl)) k0' bel lt0) (trodAll_cons_mk (Below.trod laidOut (by kernel_rfl) (of_decide_eq_true (by kernel_rfl)) k1' bel lt1) trodAll_mk0)), rfl, bel.frame _, fun h => by cases h⟩
end tableDoes

theorem tableDoes_proved : Rows.TableDoesSaid :=
  OpenClaim.holds_of_wide 3 Try.f3 rfl rfl rfl rfl rfl rfl rfl ⟨rfl, rfl, rfl, rfl, rfl⟩ rfl rfl rfl rfl rfl (by kernel_rfl) Try.func3 (by kernel_rfl)
    (of_decide_eq_true (by kernel_rfl)) (by unfold Func.isWrapper; first | (rw [if_pos (by decide +kernel)]; kernel_rfl) | (rw [if_neg (by decide +kernel)]; exact ⟨rfl, rfl⟩))
    (fun os started H enc _ => tableDoes.lifted os started H enc)

end Go.Proofs.Ytdlbljheobkfaaa

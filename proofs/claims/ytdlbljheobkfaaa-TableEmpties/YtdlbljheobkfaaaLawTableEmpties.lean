/- Rows that are removed in any order are all returned, each once: the statement TableEmpties. No condition. -/
import Derived.Test.YtdlbljheobkfaaaOpen
import Derived.Test.YtdlbljheobkfaaaKeepTabled
import Derived.Test.YtdlbljheobkfaaaKeepFilled
import Derived.Test.YtdlbljheobkfaaaRemoveModel
import Derived.Test.YtdlbljheobkfaaaEq8
namespace Go.Proofs.Ytdlbljheobkfaaa
open Go.ChangeShapes Go.WideShapes Go.ChangeAt Go.RowKit
set_option linter.unusedVariables false

theorem zeroBool' (w : World) : (zeroValue 4).run Try.prog w = .ok (.bool false) w := by kernel_rfl
def truI : Int → Value := fun _ => .bool true
theorem truI_upd (h : Int) : (fun x => if x = h then Value.bool true else truI x) = truI := by funext x; unfold truI; split <;> rfl

/-- What the law keeps: a table, the rows that it began with, the map of the slots that came out. -/
structure EmpL (w0 w : World) (p E : Nat) (u : Value) (m : Int) (zs : List Int) (n i : Nat) (rows cur : List Rw) (ks : List Int) (F : Nat → Prop) : Prop where
  o : OwnT w0 w p F m cur
  us : OwnsF elRow w w0.heap.size 41 u rows
  ap : ∀ k, u.ownBlock = some k → ¬ F k ∧ k ≠ E
  map : MapIs kInt w E i ks truI
  fe : ¬ F E
  eb : w0.heap.size ≤ E
  ei : EmptyI m zs n i cur ks
  ok : TabOk m cur
theorem EmpL.later {w0 w w' : World} {p E : Nat} {u : Value} {m : Int} {zs : List Int} {n i : Nat} {rows cur : List Rw} {ks : List Int} {F : Nat → Prop} (h : EmpL w0 w p E u m zs n i rows cur ks F) (hb : Below w.heap.size w w') : EmpL w0 w' p E u m zs n i rows cur ks F :=
  ⟨h.o.later hb, h.us.later hb, h.ap, h.map.later hb, h.fe, h.eb, h.ei, h.ok⟩
theorem EmpL.start {w0 w : World} {p : Nat} {u : Value} {m : Int} {zs : List Int} {n : Nat} {rows : List Rw} {F : Nat → Prop} (hO : OwnT w0 w p F m rows) (hu : OwnsF elRow w w0.heap.size 41 u rows) (hap : ∀ k, u.ownBlock = some k → ¬ F k) (ei : EmptyI m zs n 0 rows []) (ok : TabOk m rows) :
    EmpL w0 (w.alloc (.map #[] 0)) p w.heap.size u m zs n 0 rows rows [] F :=
  ⟨hO.later (nb_alloc (Below.refl _ _) _), hu.later (nb_alloc (Below.refl _ _) _), fun k e => ⟨hap k e, by have := hu.lt e; omega⟩, MapIs.new kInt w truI, fun f => by have := hO.t.lt _ f; omega, hO.below.size, ei, ok⟩
/-- A row has been removed; its slot is not yet in the map. -/
theorem EmpL.removed {w0 w w' : World} {p E : Nat} {u : Value} {m : Int} {zs : List Int} {n i : Nat} {rows cur cur' : List Rw} {ks : List Int} {F F' : Nat → Prop} (h : EmpL w0 w p E u m zs n i rows cur ks F) (ht : TableAt w' p F' m cur') (hk : Kept F w w') (hm : Moves w F F') :
    OwnT w0 w' p F' m cur' ∧ OwnsF elRow w' w0.heap.size 41 u rows ∧ (∀ k, u.ownBlock = some k → ¬ F' k ∧ k ≠ E) ∧ MapIs kInt w' E i ks truI ∧ ¬ F' E :=
  ⟨h.o.moved ht hk hm, h.us.kept hk (fun k e => (h.ap k e).1), fun k e => ⟨fun f => (hm k f).elim (h.ap k e).1 (fun x => by have := h.us.lt e; omega), (h.ap k e).2⟩, h.map.kept hk h.fe, fun f => (hm E f).elim h.fe (fun x => by have := h.map.lt; omega)⟩

set_option maxRecDepth 100000 in
set_option maxHeartbeats 8000000 in
theorem tableEmpties_walk (a0 : Int) (i0 : I64 a0) (u1 : Value) (z1 : List Int)  (u2 : Value) (z2 : List Int)  (w : World) (i1 : Ints w u1 z1) (i2 : Ints w u2 z2) :
    Calls Try.prog 6 #[.int .i64 a0, u1, u2] w fun e w' => e = .returned (.bool true) ∧ Below w.heap.size w w' := by
  have HI2 := Lib.hid i2
  obtain ⟨a2, cap2, rfl, hlc2, hcm2, hc2⟩ := i2
  have HC2 := Lib.hid hc2
  clear hc2
  unfold maxLen at hcm2
  have hmk : ∀ x : World, (Instr.makeMap 60 none).run Try.prog x = .ok (.map (some x.heap.size)) (x.alloc (.map #[] 0)) := run_makeMap 60
  have HI1 := Lib.hid i1
  have hmm : 0 ≤ a0 % 256 ∧ a0 % 256 ≤ 255 := by omega
  obtain ⟨m0, m1⟩ := hmm
  clear i1 i0
  go_enter Try.func6, Try.ntmps6
  go_wp2_with fail
  refine (tabled_any _).mono ?_
  rintro e w1 ⟨rfl, hb1⟩
  have HB1 := Lib.hid hb1
  clear hb1
  go_wp2_with fail
  refine (filled_any a0 u1 z1 _ (HI1.out.later HB1.out)).mono ?_
  rintro e w2 ⟨p, u, rfl, F, hO, hOw, hap⟩
  generalize a0 % 256 = m at *
  have hn60 := cut60_le z1.length
  generalize cut60 z1.length = n at *
  have hlen : (fillL m z1 n).length = n := fillL_len _ _ _
  have hok := fillL_ok m0 m1 z1 n
  have hei := EmptyI.start m z1 n
  have hget := fun i (h : i < n) => fillL_get m z1 n i h
  generalize fillL m z1 n = rows at *
  have HLEN := Lib.hid hlen
  have HGET := Lib.hid hget
  have HST := Lib.hid (EmpL.start hO hOw hap hei hok)
  obtain ⟨a, cap, rfl, hlc, hcm, -⟩ := hOw.reads
  rw [hlen] at hlc ⊢
  have HW1 := Lib.hid HB1.out.size
  generalize hn2 : z2.length = n2 at *
  clear hO hOw hap hei hok hget hlen hn2
  unfold maxLen at hcm
  rw [HLEN.out] at HST
  go_wp2
  clear hmk
  go_loopw [27] (fun i wr => ∃ t : Nat, t ≤ n ∧ i = .int .i64 t ∧ Hid (∃ F cur ks, EmpL w1 wr p w2.heap.size (.slice a n cap) m z1 n t rows cur ks F)) (fun i _ => n - (intOf i).toNat)
  case atStart => exact ⟨0, by omega, rfl, _, _, _, HST.out⟩
  case round =>
    obtain ⟨t, htn, rfl, hE⟩ := hrel
    clear HST
    generalize w2.heap.size = E at *
    obtain ⟨F, cur, ks, hL⟩ := hE.out
    have HL := Lib.hid hL
    clear hL hE
    by_cases hlt : t < n
    · have hcl : cur.length = n - t := by have := HL.out.ei.len; omega
      have HCL := Lib.hid hcl
      obtain ⟨k, hk1, hk2⟩ : ∃ k : Nat, k < cur.length ∧ ((t < n2 ∧ z2.getD t 0 % ((n : Int) - t) = (k : Int)) ∨ (¬ t < n2 ∧ k = 0)) := by
        by_cases h2 : t < n2
        · have h0 : 0 ≤ z2.getD t 0 % ((n : Int) - t) := Int.emod_nonneg _ (by omega)
          have h1 : z2.getD t 0 % ((n : Int) - t) < (n : Int) - t := Int.emod_lt_of_pos _ (by omega)
          obtain ⟨k, hk⟩ := Int.eq_ofNat_of_zero_le h0
          exact ⟨k, by omega, .inl ⟨h2, hk⟩⟩
        · exact ⟨0, by omega, .inr ⟨h2, rfl⟩⟩
      obtain ⟨hei, hnk, s, hs, hrs⟩ := HL.out.ei.next hk1
      have HEI := Lib.hid hei
      have HNK := Lib.hid hnk
      have HG := Lib.hid (HGET.out s hs)
      rw [← hrs] at HG
      have HRS : Hid ((cur.getD k rowZ).s = (s : Int)) := Lib.hid (by rw [hrs]; rfl)
      have HRI := Lib.hid (rowR_in hk1)
      have HRL : Hid (remL cur k = rmL cur k rowZ) := Lib.hid (by rw [remL, show inB (k : Int) 0 (cur.length - 1) = true by simp [inB]; omega, if_pos rfl, Int.toNat_natCast])
      have HOK' := Lib.hid (HL.out.ok.rm k)
      generalize cur.getD k rowZ = r at *
      clear hei hnk hrs hcl
      have him : (s : Int) < (n : Int) := by omega
      rcases hk2 with ⟨h2, hkk⟩ | ⟨h2, rfl⟩
      case' inl =>
        obtain ⟨b, off, rfl, hbl, hcz⟩ := HC2.out t (by omega)
        have cz : wr.cell? ⟨b, off + t, none⟩ = some (.int .i64 (z2.getD t 0)) := by rw [(nb_trans HB1.out HL.out.o.below).cell (p := ⟨b, off + t, none⟩) hbl]; exact hcz
        have hbw : b < wr.heap.size := Nat.lt_of_lt_of_le hbl (nb_trans HB1.out HL.out.o.below).size
        generalize z2.getD t 0 = y at *
        have HKK := Lib.hid hkk
        clear hcz hkk
        go_wp2_with fail
        refine (rest_any _ _ _ (by omega) (by omega)).mono ?_
        rintro e w' ⟨rfl, rfl⟩
        rw [HKK.out]
        clear cz
        go_wp2_with fail
      case' inr =>
        go_wp2_with fail
        try rw [show (0 : Int) = ((0 : Nat) : Int) from rfl]
      all_goals
        refine (tabRemove_any p F m cur _ r 0 _ HL.out.o.t HL.out.ok HRI.out.1 HRI.out.2).mono ?_
        rintro e w3 ⟨rfl, F3, ht3, hk3, hm3⟩
        rw [HRL.out] at ht3
        rw [HRS.out]
        obtain ⟨hO3, hU3, hA3, hM3, hE3⟩ := HL.out.removed ht3 hk3 hm3
        have HO3 := Lib.hid (hO3.later (nb_alloc (Below.refl _ _) (.cells #[.int .i64 (s : Int), .int .i64 r.g, .int .i64 r.m, .int .i64 (r.f 0), .int .i64 (r.f 1), .int .i64 (r.f 2), .int .i64 (r.f 3), .int .i64 (r.f 4), .int .i64 (r.f 5), .int .i64 (r.f 6), .int .i64 (r.f 7)] 41)))
        have HU3 := Lib.hid (hU3.later (nb_alloc (Below.refl _ _) (.cells #[.int .i64 (s : Int), .int .i64 r.g, .int .i64 r.m, .int .i64 (r.f 0), .int .i64 (r.f 1), .int .i64 (r.f 2), .int .i64 (r.f 3), .int .i64 (r.f 4), .int .i64 (r.f 5), .int .i64 (r.f 6), .int .i64 (r.f 7)] 41)))
        have HA3 := Lib.hid hA3
        have HM3 := Lib.hid (hM3.later (nb_alloc (Below.refl _ _) (.cells #[.int .i64 (s : Int), .int .i64 r.g, .int .i64 r.m, .int .i64 (r.f 0), .int .i64 (r.f 1), .int .i64 (r.f 2), .int .i64 (r.f 3), .int .i64 (r.f 4), .int .i64 (r.f 5), .int .i64 (r.f 6), .int .i64 (r.f 7)] 41)))
        have HE3 := Lib.hid hE3
        have HRB : Hid ((w3.alloc (.cells #[.int .i64 (s : Int), .int .i64 r.g, .int .i64 r.m, .int .i64 (r.f 0), .int .i64 (r.f 1), .int .i64 (r.f 2), .int .i64 (r.f 3), .int .i64 (r.f 4), .int .i64 (r.f 5), .int .i64 (r.f 6), .int .i64 (r.f 7)] 41)).heap[w3.heap.size]? = some (.cells #[.int .i64 (s : Int), .int .i64 r.g, .int .i64 r.m, .int .i64 (r.f 0), .int .i64 (r.f 1), .int .i64 (r.f 2), .int .i64 (r.f 3), .int .i64 (r.f 4), .int .i64 (r.f 5), .int .i64 (r.f 6), .int .i64 (r.f 7)] 41)) := Lib.hid (heap_alloc_new w3 _)
        clear ht3 hk3 hm3 hO3 hU3 hA3 hM3 hE3
        go_wp2_with fail
        generalize w3.alloc (.cells #[.int .i64 (s : Int), .int .i64 r.g, .int .i64 r.m, .int .i64 (r.f 0), .int .i64 (r.f 1), .int .i64 (r.f 2), .int .i64 (r.f 3), .int .i64 (r.f 4), .int .i64 (r.f 5), .int .i64 (r.f 6), .int .i64 (r.f 7)] 41) = W at *
        obtain ⟨g, cap', e', _, hgl, _, _, _, hcc⟩ := HU3.out.at11 (by rw [HLEN.out]; omega)
        simp only [Value.slice.injEq] at e'
        obtain ⟨rfl, -, rfl⟩ := e'
        have hcs := hcc s (by rw [HLEN.out]; exact hs)
        rw [HG.out] at hcs
        have hcs0 := hcs 0 (by decide)
        rw [show (elRow.enc r)[0]? = some (.int .i64 r.s) from rfl, HRS.out] at hcs0
        have k0 : ∀ x : Later W, x.w.cell? ⟨w3.heap.size, 0, none⟩ = some (.int .i64 (s : Int)) := fun x => x.cell (by rw [cell_of_row _ _ _ _ _ _ HRB.out]; rfl)
        have k1 : ∀ x : Later W, x.w.cell? ⟨w3.heap.size, 1, none⟩ = some (.int .i64 r.g) := fun x => x.cell (by rw [cell_of_row _ _ _ _ _ _ HRB.out]; rfl)
        have k2 : ∀ x : Later W, x.w.cell? ⟨w3.heap.size, 2, none⟩ = some (.int .i64 r.m) := fun x => x.cell (by rw [cell_of_row _ _ _ _ _ _ HRB.out]; rfl)
        have k3 : ∀ x : Later W, x.w.cell? ⟨w3.heap.size, 3, none⟩ = some (.int .i64 (r.f 0)) := fun x => x.cell (by rw [cell_of_row _ _ _ _ _ _ HRB.out]; rfl)
        have k4 : ∀ x : Later W, x.w.cell? ⟨w3.heap.size, 4, none⟩ = some (.int .i64 (r.f 1)) := fun x => x.cell (by rw [cell_of_row _ _ _ _ _ _ HRB.out]; rfl)
        have k5 : ∀ x : Later W, x.w.cell? ⟨w3.heap.size, 5, none⟩ = some (.int .i64 (r.f 2)) := fun x => x.cell (by rw [cell_of_row _ _ _ _ _ _ HRB.out]; rfl)
        have k6 : ∀ x : Later W, x.w.cell? ⟨w3.heap.size, 6, none⟩ = some (.int .i64 (r.f 3)) := fun x => x.cell (by rw [cell_of_row _ _ _ _ _ _ HRB.out]; rfl)
        have k7 : ∀ x : Later W, x.w.cell? ⟨w3.heap.size, 7, none⟩ = some (.int .i64 (r.f 4)) := fun x => x.cell (by rw [cell_of_row _ _ _ _ _ _ HRB.out]; rfl)
        have k8 : ∀ x : Later W, x.w.cell? ⟨w3.heap.size, 8, none⟩ = some (.int .i64 (r.f 5)) := fun x => x.cell (by rw [cell_of_row _ _ _ _ _ _ HRB.out]; rfl)
        have k9 : ∀ x : Later W, x.w.cell? ⟨w3.heap.size, 9, none⟩ = some (.int .i64 (r.f 6)) := fun x => x.cell (by rw [cell_of_row _ _ _ _ _ _ HRB.out]; rfl)
        have k10 : ∀ x : Later W, x.w.cell? ⟨w3.heap.size, 10, none⟩ = some (.int .i64 (r.f 7)) := fun x => x.cell (by rw [cell_of_row _ _ _ _ _ _ HRB.out]; rfl)
        have d0 : ∀ x : Later W, x.w.cell? ⟨g, s * 11, none⟩ = some (.int .i64 (s : Int)) := fun x => x.cell (hcs0)
        have d1 : ∀ x : Later W, x.w.cell? ⟨g, s * 11 + 1, none⟩ = some (.int .i64 r.g) := fun x => x.cell (hcs 1 (by decide))
        have d2 : ∀ x : Later W, x.w.cell? ⟨g, s * 11 + 2, none⟩ = some (.int .i64 r.m) := fun x => x.cell (hcs 2 (by decide))
        have d3 : ∀ x : Later W, x.w.cell? ⟨g, s * 11 + 3, none⟩ = some (.int .i64 (r.f 0)) := fun x => x.cell (hcs 3 (by decide))
        have d4 : ∀ x : Later W, x.w.cell? ⟨g, s * 11 + 4, none⟩ = some (.int .i64 (r.f 1)) := fun x => x.cell (hcs 4 (by decide))
        have d5 : ∀ x : Later W, x.w.cell? ⟨g, s * 11 + 5, none⟩ = some (.int .i64 (r.f 2)) := fun x => x.cell (hcs 5 (by decide))
        have d6 : ∀ x : Later W, x.w.cell? ⟨g, s * 11 + 6, none⟩ = some (.int .i64 (r.f 3)) := fun x => x.cell (hcs 6 (by decide))
        have d7 : ∀ x : Later W, x.w.cell? ⟨g, s * 11 + 7, none⟩ = some (.int .i64 (r.f 4)) := fun x => x.cell (hcs 7 (by decide))
        have d8 : ∀ x : Later W, x.w.cell? ⟨g, s * 11 + 8, none⟩ = some (.int .i64 (r.f 5)) := fun x => x.cell (hcs 8 (by decide))
        have d9 : ∀ x : Later W, x.w.cell? ⟨g, s * 11 + 9, none⟩ = some (.int .i64 (r.f 6)) := fun x => x.cell (hcs 9 (by decide))
        have d10 : ∀ x : Later W, x.w.cell? ⟨g, s * 11 + 10, none⟩ = some (.int .i64 (r.f 7)) := fun x => x.cell (hcs 10 (by decide))
        have klk : ∀ x : Later W, (Instr.lookup 60 (.map (some E)) (.int .i64 (s : Int)) false).run Try.prog x.w = .ok (.bool false) x.w := fun x => by
          have := (HM3.out.later x.below).look Try.underlying60 (zeroBool' _) (s : Int) ⟨by omega, by omega⟩
          rw [if_neg (by rw [← HRS.out]; exact HNK.out)] at this
          exact this
        have heq8 := eq8_run r.f
        clear hcc hcs hcs0
        refine wp_region_later (by kernel_rfl) (by kernel_rfl) ?_
        repeat (go_big_quiet_step (fail))
        refine wpQuiet_nil ?_
        rintro _ ⟨nq, rfl⟩
        have k0' := k0 nq
        clear klk heq8 k0 k1 k2 k3 k4 k5 k6 k7 k8 k9 k10 d0 d1 d2 d3 d4 d5 d6 d7 d8 d9 d10
        have HBQ := Lib.hid nq.below
        have hrl : w3.heap.size < nq.w.heap.size := World.block_lt_of_cell? _ _ k0'
        obtain ⟨D, hoD, hnd, hok, hkD, hatD, hsD⟩ := HM3.out.later nq.below
        have HD := Lib.hid hoD
        have HR1 := Lib.hid hnd
        have HR2 := Lib.hid hok
        have HR3 := Lib.hid hkD
        have HR4 := Lib.hid hatD
        have HR5 := Lib.hid hsD
        have HKOK : Hid (kInt.ok (s : Int)) := Lib.hid ⟨by omega, by omega⟩
        clear hoD hnd hok hkD hatD hsD
        generalize nq.w = X at *
        go_wp2_with (first | (at_mapUpdate; refine wpList_mapUpdate_own _ rfl _ _ _ 60 rfl 3 4 kInt.law Try.underlying60 heldR E t D rfl HD.out (by unfold maxLen; omega) _ _ (kInt.lit (s : Int)) rfl rfl (kInt.key (s : Int) HKOK.out) (.held (.bool true)) [] rfl ?_))
        intro w4 hown4 hgr4
        have hk4 : Kept (fun b => b = E) X w4 := Kept.grown hgr4 (fun q e => by cases e; rfl)
        have HN : Hid (EmpL w1 w4 p E (.slice (some ⟨g, 0, none⟩) n cap) m z1 n (t + 1) rows (rmL cur _ rowZ) (ks ++ [r.s]) F3) := Lib.hid (by
          have hOX := HO3.out.later HBQ.out
          have hmp := MapIs.put (K := kInt) HD.out HR1.out HR2.out HR3.out HR4.out HR5.out (s : Int) HKOK.out (.bool true) hown4
          rw [if_neg (by rw [← HRS.out]; exact HNK.out), truI_upd] at hmp
          have hUX := (HU3.out.later HBQ.out).kept hk4 (fun k e => (HA3.out k e).2)
          exact ⟨⟨hOX.t.kept hk4 (fun b hf e => HE3.out (e ▸ hf)), hOX.fb, hOX.below.trans (hk4.below hOX.below.size (fun b e => by rw [e]; exact HL.out.eb))⟩, hUX, HA3.out, by rw [HRS.out]; exact hmp, HE3.out, HL.out.eb, HEI.out, HOK'.out⟩)
        clear hown4 hgr4 hk4
        go_wp2
        go_roundw
        case rel => exact ⟨t + 1, by omega, by go_num, _, _, _, HN.out⟩
        case measure => simp [intOf]; omega
    · obtain rfl : t = n := by omega
      have hcl : cur.length = 0 := by have := HL.out.ei.len; omega
      have HCL := Lib.hid hcl
      clear hcl
      go_wp2_with fail
      refine (tabHandles_any p F m cur _ HL.out.o.t (by rw [HCL.out]; omega)).mono ?_
      rintro e w5 ⟨v5, rfl, ho5, hb5⟩
      obtain ⟨a5, cap5, rfl, -⟩ := ho5.reads
      rw [hsOf_len, HCL.out]
      have HB5 := Lib.hid (nb_trans HB1.out (nb_trans HL.out.o.below hb5))
      clear ho5 hb5
      go_wp2
      go_ret
      exact ⟨rfl, HB5.out⟩

namespace tableEmpties
theorem own : ownKnob Try.prog.godebug = none := by kernel_rfl
theorem laidOut : laidOutB Try.prog = true := by kernel_rfl

set_option maxRecDepth 100000 in
theorem lifted (os : Os) (started : os.Started) (H : Type) (enc : TypeId × Value → H) :
    ReturnsInHanded {} Try.checked os 6 .any (Rows.tableEmptiesSpec.pre6 enc Try.prog Try.f6 Rows.tableEmptiesRow.domain false) (Rows.tableEmptiesSpec.post enc Try.prog Try.f6 false true false false) := by
  refine returnsInHanded_of_change (C := Try.checked) own started (by kernel_rfl) Try.func6
    (ChangeSpec.witness6 (enc := enc) (C := Try.checked) false ⟨#[], #[.int .i64 0, .slice none 0 0, .slice none 0 0], []⟩ 8 (by kernel_rfl) (by kernel_rfl) (by kernel_rfl) (by kernel_rfl)) ?_
  intro W base args ds gs before hval0 hW hcnd _
  have hval : ∀ (j : Nat) t v, Try.f6.params[j]? = some t → args[j]? = some v → Value.okWide Try.prog W .any base t v := hval0
  have hW' := hW
  obtain ⟨p, q, hA0, hV, rfl, hfz, hnd⟩ := hW
  have hA : DataW.TrodAll enc Try.prog W 0 (fun _ => true) true Try.f6.params.toList args.toList ds p := hA0
  rw [Try.params6] at hA hval
  obtain ⟨v0, vs0, d0, ds0, p0, q0, hargs, rfl, rfl, h0, r0⟩ := trodAll_cons hA
  obtain ⟨v1, vs1, d1, ds1, p1, q1, rfl, rfl, rfl, h1, r1⟩ := trodAll_cons r0
  obtain ⟨v2, vs2, d2, ds2, p2, q2, rfl, rfl, rfl, h2, r2⟩ := trodAll_cons r1
  obtain ⟨rfl, rfl, rfl⟩ := trodAll_nil r2
  obtain rfl : args = #[v0, v1, v2] := by cases args; simp_all
  obtain ⟨rfl, rfl⟩ := trodVars_none hV
  have k0' := h0
  have lt0 : ∀ x ∈ p0, x.block < W.heap.size := by obtain ⟨m, hm⟩ := h0; exact DataW.trod_lt m _ _ _ hm
  have k1' := h1
  have lt1 : ∀ x ∈ p1, x.block < W.heap.size := by obtain ⟨m, hm⟩ := h1; exact DataW.trod_lt m _ _ _ hm
  have k2' := h2
  have lt2 : ∀ x ∈ p2, x.block < W.heap.size := by obtain ⟨m, hm⟩ := h2; exact DataW.trod_lt m _ _ _ hm
  obtain ⟨a0, rfl, i0⟩ : ∃ a : Int, v0 = .int .i64 a ∧ I64 a := by
    obtain ⟨a, rfl, _, _, wa⟩ := open_int Try.underlying3 (hval 0 3 v0 rfl rfl) h0
    exact ⟨a, rfl, I64_of wa⟩
  obtain ⟨z1, i1⟩ : ∃ zs, Ints W v1 zs := by
    obtain ⟨a0, len0, cap0, rfl⟩ := okWide_slice Try.underlying45 (hval 1 45 v1 rfl rfl)
    exact Ints_of Try.underlying45 Try.underlying3 (by kernel_rfl) h1
  obtain ⟨z2, i2⟩ : ∃ zs, Ints W v2 zs := by
    obtain ⟨a0, len0, cap0, rfl⟩ := okWide_slice Try.underlying45 (hval 2 45 v2 rfl rfl)
    exact Ints_of Try.underlying45 Try.underlying3 (by kernel_rfl) h2
  clear hA0 hval0
  refine (tableEmpties_walk a0 i0 v1 z1 v2 z2 W i1 i2).mono fun e W' ⟨he, bel⟩ => ?_
  subst he
  exact ⟨_, rfl, _, _, _, [], _, [], hW', trodAll_mk1 (shut_bool Try.underlying4 _), (trodAll_cons_mk (Below.trod laidOut (by kernel_rfl) (of_decide_eq_true (by kernel_rfl)) k0' bel lt0) (trodAll_cons_mk (Below.trod laidOut (by kernel_rfl) (of_decide_eq_true (by kernel_rfl)) k1' bel lt1) (trodAll_cons_mk (Below.trod laidOut (by kernel_rfl) (of_decide_eq_true (by kernel_rfl)) k2' bel lt2) trodAll_mk0))), rfl, bel.frame _, fun h => by cases h⟩
end tableEmpties

theorem tableEmpties_proved : Rows.TableEmptiesSaid :=
  OpenClaim.holds_of_wide 6 Try.f6 rfl rfl rfl rfl rfl rfl rfl ⟨rfl, rfl, rfl, rfl, rfl⟩ rfl rfl rfl rfl rfl (by kernel_rfl) Try.func6 (by kernel_rfl)
    (of_decide_eq_true (by kernel_rfl)) (by unfold Func.isWrapper; first | (rw [if_pos (by decide +kernel)]; kernel_rfl) | (rw [if_neg (by decide +kernel)]; exact ⟨rfl, rfl⟩))
    (fun os started H enc _ => tableEmpties.lifted os started H enc)

end Go.Proofs.Ytdlbljheobkfaaa

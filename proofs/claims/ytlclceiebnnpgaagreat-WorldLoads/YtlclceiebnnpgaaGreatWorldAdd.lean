/- The contract of add of package world. -/
import Derived.Test.YtlclceiebnnpgaaGreatWorldKit
namespace Go.Proofs.YtlclceiebnnpgaaGreat
set_option maxRecDepth 8000
open Go.RowKit

def AddWPost (w : World) (p : Nat) (F : Nat → Prop) (l : List (Int × Bool)) (R : Rw → Prop) (r : Rw) (e : Ending) (w' : World) : Prop :=
  e = .returned (.tuple #[]) ∧ ∃ F', WldAt w' p F' l (fun x => x = r ∨ R x) ∧ Kept F w w' ∧ Moves w F F'

set_option maxHeartbeats 4000000 in
theorem worldAdd_any (p : Nat) (F : Nat → Prop) (l : List (Int × Bool)) (R : Rw → Prop) (r : Rw) (w : World) (h : WldAt w p F l R) (hbe : bErr r.m [r.f 0, r.f 1, r.f 2, r.f 3, r.f 4, r.f 5, r.f 6, r.f 7] = 0) (hnew : ∀ x, R x → hd x ≠ hd r) (hok : I64r r.s ∧ I64r r.g) (hfew : Few R) :
    Calls Tryz.prog 15 #[.pointer (some ⟨p, 0, none⟩), .agg #[.int .i64 r.s, .int .i64 r.g], .agg #[.int .i64 r.m, .int .i64 (r.f 0), .int .i64 (r.f 1), .int .i64 (r.f 2), .int .i64 (r.f 3), .int .i64 (r.f 4), .int .i64 (r.f 5), .int .i64 (r.f 6), .int .i64 (r.f 7)]] w (AddWPost w p F l R r) := by
  obtain ⟨c, tm, pm, ks, tb, tr, hk, pl, h⟩ := h
  have HX : Hid (Below w.heap.size w ((w.alloc (.cells #[.int .i64 r.s, .int .i64 r.g] 28)).alloc (.cells #[.int .i64 r.m, .int .i64 (r.f 0), .int .i64 (r.f 1), .int .i64 (r.f 2), .int .i64 (r.f 3), .int .i64 (r.f 4), .int .i64 (r.f 5), .int .i64 (r.f 6), .int .i64 (r.f 7)] 26))) := Lib.hid (nb_alloc (nb_alloc (Below.refl _ _) _) _)
  have hbox : Boxes w.heap.size ((w.alloc (.cells #[.int .i64 r.s, .int .i64 r.g] 28)).alloc (.cells #[.int .i64 r.m, .int .i64 (r.f 0), .int .i64 (r.f 1), .int .i64 (r.f 2), .int .i64 (r.f 3), .int .i64 (r.f 4), .int .i64 (r.f 5), .int .i64 (r.f 6), .int .i64 (r.f 7)] 26)) r := ⟨heap_alloc2_old _ _ _, heap_alloc2_new _ _ _⟩
  have hwX := h.later HX.out
  have H0 := Lib.hid h
  have hlt := h.lt
  have HBOX : Hid (∀ Y, Kept F ((w.alloc (.cells #[.int .i64 r.s, .int .i64 r.g] 28)).alloc (.cells #[.int .i64 r.m, .int .i64 (r.f 0), .int .i64 (r.f 1), .int .i64 (r.f 2), .int .i64 (r.f 3), .int .i64 (r.f 4), .int .i64 (r.f 5), .int .i64 (r.f 6), .int .i64 (r.f 7)] 26)) Y → Boxes w.heap.size Y r) := Lib.hid (fun Y hY => hbox.kept hY (fun e => by have := hlt _ e; omega) (fun e => by have := hlt _ e; omega))
  have HBE := Lib.hid hbe
  have HNEW := Lib.hid hnew
  have HOK : Hid (I64r r.s ∧ I64r r.g) := Lib.hid hok
  have HFEW := Lib.hid hfew
  have HMI : Hid (I64r r.m) := Lib.hid (by have := (bErr_zero hbe).1; exact ⟨by omega, by omega⟩)
  clear h hbox hlt hbe hnew hok hfew
  have heq : ∀ x : World, (binOp .eql 62 (.map none) (.map none)).run Tryz.prog x = .ok (.bool true) x := fun x => by kernel_rfl
  go_enter Tryz.func15, Tryz.ntmps15
  rcases hwX.maps with ⟨rfl, rfl, rfl, rfl⟩ | ⟨mt, mp, rfl, rfl, -⟩
  · as_aux_lemma =>
    obtain ⟨v, hpv, -⟩ := H0.out.slots
    have c1 := H0.out.cell1
    have c2 := H0.out.cell2
    have hpl := H0.out.plt
    have hpA : p < w.heap.size + 1 := by omega
    have hpB : p < w.heap.size + 1 + 1 := by omega
    have hpC : p < w.heap.size + 1 + 1 + 1 := by omega
    have fz : ∀ j, w.frozen? ⟨p, j, none⟩ = false := fun j => frozen_of_row _ _ _ _ _ hpv
    have hmk1 : ∀ x : World, (Instr.makeMap 62 none).run Tryz.prog x = .ok (.map (some x.heap.size)) (x.alloc (.map #[] 0)) := run_makeMap 62
    have hmk2 : ∀ x : World, (Instr.makeMap 63 none).run Tryz.prog x = .ok (.map (some x.heap.size)) (x.alloc (.map #[] 0)) := run_makeMap 63
    have HWX := Lib.hid hwX
    have HPV := Lib.hid hpv
    clear hwX hpv
    go_wp2_with fail
    have hW1 : Kept (fun b => b = p) w ((w.setCell ⟨p, 1, none⟩ (.map (some (w.heap.size + 1 + 1)))).setCell ⟨p, 2, none⟩ (.map (some (w.heap.size + 1 + 1 + 1)))) := (Kept.setCell (F := fun b => b = p) w (p := ⟨p, 1, none⟩) rfl _).trans (Kept.setCell (F := fun b => b = p) _ (p := ⟨p, 2, none⟩) rfl _) (fun _ h => .inl h)
    have hs1 : ((w.setCell ⟨p, 1, none⟩ (.map (some (w.heap.size + 1 + 1)))).setCell ⟨p, 2, none⟩ (.map (some (w.heap.size + 1 + 1 + 1)))).heap.size = w.heap.size := by simp [World.setCell]
    obtain ⟨hW2, hs2⟩ := hW1.both hs1 (.cells #[.int .i64 r.s, .int .i64 r.g] 28)
    obtain ⟨hW3, hs3⟩ := hW2.both hs2 (.cells #[.int .i64 r.m, .int .i64 (r.f 0), .int .i64 (r.f 1), .int .i64 (r.f 2), .int .i64 (r.f 3), .int .i64 (r.f 4), .int .i64 (r.f 5), .int .i64 (r.f 6), .int .i64 (r.f 7)] 26)
    have hz : ((((w.setCell ⟨p, 1, none⟩ (.map (some (w.heap.size + 1 + 1)))).setCell ⟨p, 2, none⟩ (.map (some (w.heap.size + 1 + 1 + 1)))).alloc (.cells #[.int .i64 r.s, .int .i64 r.g] 28)).alloc (.cells #[.int .i64 r.m, .int .i64 (r.f 0), .int .i64 (r.f 1), .int .i64 (r.f 2), .int .i64 (r.f 3), .int .i64 (r.f 4), .int .i64 (r.f 5), .int .i64 (r.f 6), .int .i64 (r.f 7)] 26)).heap.size = w.heap.size + 1 + 1 := by rw [hs3]; simp
    obtain ⟨F1, c1', hw1, hkk1, hmm1⟩ := HWX.out.make (mt := w.heap.size + 1 + 1) (mp := w.heap.size + 1 + 1 + 1) (w' := ((((((w.setCell ⟨p, 1, none⟩ (.map (some (w.heap.size + 1 + 1)))).setCell ⟨p, 2, none⟩ (.map (some (w.heap.size + 1 + 1 + 1)))).alloc (.cells #[.int .i64 r.s, .int .i64 r.g] 28)).alloc (.cells #[.int .i64 r.m, .int .i64 (r.f 0), .int .i64 (r.f 1), .int .i64 (r.f 2), .int .i64 (r.f 3), .int .i64 (r.f 4), .int .i64 (r.f 5), .int .i64 (r.f 6), .int .i64 (r.f 7)] 26)).alloc (.map #[] 0)).alloc (.map #[] 0))) ((hW3.trans (Kept.alloc (fun b => b = p) _ _) (fun _ h => .inl h)).trans (Kept.alloc (fun b => b = p) _ _) (fun _ h => .inl h)) (fun v hv => by
      have hpw : w.heap[p]? = some (.cells #[v, .map none, .map none] 65 (0, 0)) := by
        rw [HX.out.block p hpl] at hv; exact hv
      rw [Below.heap_alloc _ _ _ (by simp [hz]; omega), Below.heap_alloc _ _ _ (by rw [hz]; omega), Below.heap_alloc _ _ _ (by simp [World.setCell]; omega), Below.heap_alloc _ _ _ (by simp [World.setCell]; omega)]
      rw [heap_setCell_same _ _ _ _ _ _ (heap_setCell_same _ _ _ _ _ _ hpw)]
      rfl) (by
      have := (MapIs.new kInt ((((w.setCell ⟨p, 1, none⟩ (.map (some (w.heap.size + 1 + 1)))).setCell ⟨p, 2, none⟩ (.map (some (w.heap.size + 1 + 1 + 1)))).alloc (.cells #[.int .i64 r.s, .int .i64 r.g] 28)).alloc (.cells #[.int .i64 r.m, .int .i64 (r.f 0), .int .i64 (r.f 1), .int .i64 (r.f 2), .int .i64 (r.f 3), .int .i64 (r.f 4), .int .i64 (r.f 5), .int .i64 (r.f 6), .int .i64 (r.f 7)] 26)) (ptrOf tb))
      rw [hz] at this
      exact this.later (nb_alloc (Below.refl _ _) _)) (by
      have := (MapIs.new kHand (((((w.setCell ⟨p, 1, none⟩ (.map (some (w.heap.size + 1 + 1)))).setCell ⟨p, 2, none⟩ (.map (some (w.heap.size + 1 + 1 + 1)))).alloc (.cells #[.int .i64 r.s, .int .i64 r.g] 28)).alloc (.cells #[.int .i64 r.m, .int .i64 (r.f 0), .int .i64 (r.f 1), .int .i64 (r.f 2), .int .i64 (r.f 3), .int .i64 (r.f 4), .int .i64 (r.f 5), .int .i64 (r.f 6), .int .i64 (r.f 7)] 26)).alloc (.map #[] 0)) (plV tb pl))
      rw [show (((((w.setCell ⟨p, 1, none⟩ (.map (some (w.heap.size + 1 + 1)))).setCell ⟨p, 2, none⟩ (.map (some (w.heap.size + 1 + 1 + 1)))).alloc (.cells #[.int .i64 r.s, .int .i64 r.g] 28)).alloc (.cells #[.int .i64 r.m, .int .i64 (r.f 0), .int .i64 (r.f 1), .int .i64 (r.f 2), .int .i64 (r.f 3), .int .i64 (r.f 4), .int .i64 (r.f 5), .int .i64 (r.f 6), .int .i64 (r.f 7)] 26)).alloc (.map #[] 0)).heap.size = w.heap.size + 1 + 1 + 1 by simp [hz]] at this
      exact this) (by simp) (by simp) (by omega)
    clear hW1 hs1 hW2 hs2 hW3 hs3 hz c1 c2 fz hpA hpB hpC hpl hmk1 hmk2 heq HWX HPV H0
    generalize ((((((w.setCell ⟨p, 1, none⟩ (.map (some (w.heap.size + 1 + 1)))).setCell ⟨p, 2, none⟩ (.map (some (w.heap.size + 1 + 1 + 1)))).alloc (.cells #[.int .i64 r.s, .int .i64 r.g] 28)).alloc (.cells #[.int .i64 r.m, .int .i64 (r.f 0), .int .i64 (r.f 1), .int .i64 (r.f 2), .int .i64 (r.f 3), .int .i64 (r.f 4), .int .i64 (r.f 5), .int .i64 (r.f 6), .int .i64 (r.f 7)] 26)).alloc (.map #[] 0)).alloc (.map #[] 0)) = U at *
    obtain ⟨mt, hmt⟩ : ∃ mt, mt = w.heap.size + 1 + 1 := ⟨_, rfl⟩
    obtain ⟨mp, hmp⟩ : ∃ mp, mp = w.heap.size + 1 + 1 + 1 := ⟨_, rfl⟩
    rw [← hmp, ← hmt] at hw1
    generalize ((w.alloc (.cells #[.int .i64 r.s, .int .i64 r.g] 28)).alloc (.cells #[.int .i64 r.m, .int .i64 (r.f 0), .int .i64 (r.f 1), .int .i64 (r.f 2), .int .i64 (r.f 3), .int .i64 (r.f 4), .int .i64 (r.f 5), .int .i64 (r.f 6), .int .i64 (r.f 7)] 26)) = X at *
    have HW := Lib.hid hw1
    have HK := Lib.hid hkk1
    have HM := Lib.hid hmm1
    obtain ⟨ks, hks⟩ : ∃ ks : List Int, ks = [] := ⟨_, rfl⟩
    obtain ⟨hk, hhk⟩ : ∃ hk : List (Int × Int), hk = [] := ⟨_, rfl⟩
    rw [← hks, ← hhk] at HW
    have HNK : Hid (¬ r.m ∈ ks) := Lib.hid (by rw [hks]; simp)
    clear hw1 hkk1 hmm1 hks hhk hmt hmp
    have hlk : ∀ n, (Instr.lookup 62 (.map (some mt)) (.int .i64 r.m) false).run Tryz.prog (U.drewN n) = .ok (.pointer none) (U.drewN n) := fun n => by
      have := (HW.out.later (nb_drewN (n := n) (Below.refl U.heap.size U))).lookT r.m HMI.out
      rw [if_neg HNK.out] at this; exact this
    have c1 := HW.out.cell1
    have kb0 := (HBOX.out U HK.out).b0
    have hpl := HW.out.plt
    have hBl := (HBOX.out U HK.out).lt
    have hmI := HMI.out
    go_wp2_with fail
    go_quiet (fail)
    go_wp2_with fail
    clear hlk c1 kb0
    have HW2 := Lib.hid (HW.out.later (nb_drewN (n := nq) (Below.refl U.heap.size U)))
    have HK2 : Hid (Kept F X (U.drewN nq)) := Lib.hid (HK.out.trans (Kept.ofBelow (F := F) (nb_drewN (Below.refl _ _))) (fun _ h => .inl h))
    have HM2 := HM
    clear HW HK HM
    replace hpl : p < (U.drewN nq).heap.size := hpl
    replace hBl : w.heap.size + 1 < (U.drewN nq).heap.size := hBl
    generalize U.drewN nq = V at *
    have kb0 := (HBOX.out V HK2.out).b0
    have hB0 := bErr_zero HBE.out
    go_wp2_with fail
    refine (tableNew_yes r.m _ hB0.1.1 hB0.1.2).mono ?_
    rintro e w3 ⟨q, F3, rfl, ht3, hf3, hb3⟩
    have hkX3 : Kept F X w3 := HK2.out.trans (Kept.ofBelow (F := F) hb3) (fun _ h => .inl h)
    have c13 := (HW2.out.later hb3).cell1
    have kb3 := (HBOX.out w3 hkX3).b0
    have hpl3 : p < w3.heap.size := Nat.lt_of_lt_of_le hpl hb3.size
    have hBl3 := (HBOX.out w3 hkX3).lt
    have HMT : Hid (MapIs kInt w3.drew mt ks.length ks (ptrOf tb)) := Lib.hid ((HW2.out.mapT.1.later hb3).kept (Kept.drew (fun _ => False) _) id)
    have HKL : Hid (ks.length < maxLen) := Lib.hid (by have := HW2.out.mapT.2.2.2; unfold maxLen; omega)
    have HT3 := Lib.hid ht3
    have HF3 := Lib.hid hf3
    have HB3 := Lib.hid hb3
    have HX3 := Lib.hid hkX3
    clear ht3 hf3 hb3 hkX3 kb0 hpl hBl hB0
    go_wp2_with fail
    go_still_tail 7, (by kernel_rfl)
    change wpList _ _ _ _ _ w3.drew
    clear c13 kb3
    go_wp2_with (first | (at_mapUpdate; refine wpList_put_new (K := kInt) _ rfl _ _ _ 62 rfl 78 Tryz.underlying62 rfl HMT.out HKL.out r.m HMI.out (.pointer (some ⟨q, 0, none⟩)) rfl rfl HNK.out ?_))
    intro W hmap4 hk4
    have hB0 := bErr_zero HBE.out
    obtain ⟨F4, c4, hw4, hkk4, hmm4⟩ := HW2.out.newTab HNK.out hB0.1.1 hB0.1.2 HT3.out HB3.out HF3.out ((Kept.drew (fun b => b = mt) w3).trans hk4 (fun _ h => .inl h)) hmap4.tight
    obtain ⟨ks4, hks4⟩ : ∃ ks4, ks4 = ks ++ [r.m] := ⟨_, rfl⟩
    obtain ⟨tb1, htb4⟩ : ∃ tb4 : Int → Nat, tb4 = fun j => if j = r.m then q else tb j := ⟨_, rfl⟩
    rw [← hks4, ← htb4] at hw4
    have HKM : Hid (r.m ∈ ks4) := Lib.hid (by rw [hks4]; simp)
    have HQ : Hid (tb1 r.m = q) := Lib.hid (by rw [htb4]; simp)
    have HW := Lib.hid hw4
    have HK : Hid (Kept F X W) := Lib.hid (HK2.out.trans hkk4 HM2.out)
    have HM : Hid (Moves X F F4) := Lib.hid (HM2.out.trans hmm4 HK2.out.size)
    clear hw4 hkk4 hmm4 hks4 htb4 hmap4 hk4 HW2 HK2 HM2 HT3 HF3 HB3 HX3 HMT HKL hB0 hpl3 hBl3 HNK
    have hB := HBOX.out W HK.out
    have kh0 := hB.h0
    have kh1 := hB.h1
    have kb0 := hB.b0
    have kb1 : W.cell? ⟨w.heap.size + 1, 1, none⟩ = some (.int .i64 (r.f 0)) := hB.b 0 (by decide)
    have kb2 : W.cell? ⟨w.heap.size + 1, 2, none⟩ = some (.int .i64 (r.f 1)) := hB.b 1 (by decide)
    have kb3 : W.cell? ⟨w.heap.size + 1, 3, none⟩ = some (.int .i64 (r.f 2)) := hB.b 2 (by decide)
    have kb4 : W.cell? ⟨w.heap.size + 1, 4, none⟩ = some (.int .i64 (r.f 3)) := hB.b 3 (by decide)
    have kb5 : W.cell? ⟨w.heap.size + 1, 5, none⟩ = some (.int .i64 (r.f 4)) := hB.b 4 (by decide)
    have kb6 : W.cell? ⟨w.heap.size + 1, 6, none⟩ = some (.int .i64 (r.f 5)) := hB.b 5 (by decide)
    have kb7 : W.cell? ⟨w.heap.size + 1, 7, none⟩ = some (.int .i64 (r.f 6)) := hB.b 6 (by decide)
    have kb8 : W.cell? ⟨w.heap.size + 1, 8, none⟩ = some (.int .i64 (r.f 7)) := hB.b 7 (by decide)
    have hBl := hB.lt
    obtain ⟨rws, hr60, hrin⟩ := HFEW.out
    have HTL : Hid (((tr r.m).length + 1) * 16 ≤ 140737488355328) := Lib.hid (by have := HW.out.laid.trLen hrin HKM.out; omega)
    have HHL : Hid (hk.length < maxLen) := Lib.hid (by have := HW.out.laid.hkLen HW.out.mapP.1.nodup hrin; unfold maxLen; omega)
    have HNH : Hid (¬ hd r ∈ hk) := Lib.hid (fun e => by obtain ⟨x, hx, e⟩ := (HW.out.laid.has _).1 e; exact HNEW.out x hx e)
    clear hB hr60 hrin
    go_wp2_with fail
    refine (tabAdd_any q _ r.m (tr r.m) r _ (by rw [← HQ.out]; exact HW.out.tabs r.m HKM.out) HTL.out).mono ?_
    rintro e w5 ⟨rfl, F5, ht5, hk5, hm5⟩
    rw [addL, addE, if_pos HBE.out, if_pos rfl, if_pos rfl] at ht5
    rw [addN, addE, if_pos HBE.out, if_pos rfl, if_pos rfl]
    have hk05 : 0 ≤ r.m := (HW.out.laid.key _ HKM.out).1
    have hkX5 : Kept F X w5 := HK.out.trans hk5 (fun b hb => HM.out b hb.1)
    have hB5 := HBOX.out w5 hkX5
    have l0 := hB5.h0
    have l1 := hB5.h1
    have hBl5 := hB5.lt
    have c25 := (HW.out.slots.kept hk5 (fun b hb hb' => by rw [hb.2] at hb'; omega)).cell.2
    have hpl5 : p < w5.heap.size := Nat.lt_of_lt_of_le HW.out.plt hk5.size
    have HMP : Hid (MapIs kHand w5.drew mp hk.length hk (plV tb1 pl)) := Lib.hid ((HW.out.mapP.1.kept hk5 (fun e => by rw [HW.out.mapP.2.2] at e; omega)).kept (Kept.drew (fun _ => False) _) id)
    have HT5 := Lib.hid ht5
    have HK5 := Lib.hid hk5
    have HM5 := Lib.hid hm5
    clear ht5 hk5 hm5 hk05 hkX5 hB5 kh0 kh1 kb0 kb1 kb2 kb3 kb4 kb5 kb6 kb7 kb8 hBl
    go_wp2_with fail
    go_still_tail 8, (by kernel_rfl)
    change wpList _ _ _ _ _ w5.drew
    clear l0 l1 c25
    go_wp2_with (first | (at_mapUpdate; refine wpList_put_new (K := kHand) _ rfl _ _ _ 63 rfl 97 Tryz.underlying63 rfl HMP.out HHL.out (r.s, r.g) HOK.out (.agg #[.pointer (some ⟨q, 0, none⟩), .int .i64 (tr r.m).length]) rfl rfl HNH.out ?_))
    intro w6 hmap6 hk6
    have HEND : Hid (AddWPost w p F l R r (.returned (.tuple #[])) w6) := Lib.hid (by
      obtain ⟨F6, c6, hw6, hkk6, hmm6⟩ := HW.out.addRow HKM.out HBE.out HNH.out (by rw [HQ.out]; exact HT5.out) HK5.out HM5.out ((Kept.drew (fun b => b = mp) w5).trans hk6 (fun _ h => .inl h)) (by rw [HQ.out]; exact hmap6.tight)
      have hkk : Kept F X w6 := HK.out.trans hkk6 HM.out
      have hmm : Moves X F F6 := HM.out.trans hmm6 HK.out.size
      have hXs := HX.out.size
      exact ⟨rfl, F6, ⟨c6, _, _, _, _, _, _, _, hw6⟩, (Kept.ofBelow HX.out).trans hkk (fun _ h => .inl h), fun b hb => (hmm b hb).imp id (fun h => by omega)⟩)
    clear hmap6 hk6
    go_wp2
    go_end0
    exact HEND.out
  · have c1 := hwX.cell1
    have heqS : ∀ x : World, (binOp .eql 62 (.map (some mt)) (.map none)).run Tryz.prog x = .ok (.bool false) x := fun x => by kernel_rfl
    have hpl := hwX.plt
    have HWX := Lib.hid hwX
    clear hwX
    go_wp2_with fail
    clear c1 heqS heq hpl
    generalize ((w.alloc (.cells #[.int .i64 r.s, .int .i64 r.g] 28)).alloc (.cells #[.int .i64 r.m, .int .i64 (r.f 0), .int .i64 (r.f 1), .int .i64 (r.f 2), .int .i64 (r.f 3), .int .i64 (r.f 4), .int .i64 (r.f 5), .int .i64 (r.f 6), .int .i64 (r.f 7)] 26)) = X at *
    by_cases hkm : r.m ∈ ks
    · as_aux_lemma =>
      have c1 := HWX.out.cell1
      have kb0 := (HBOX.out X (Kept.refl _ _)).b0
      have hpl := HWX.out.plt
      have hBl := (HBOX.out X (Kept.refl _ _)).lt
      obtain ⟨q, hq⟩ : ∃ q, tb r.m = q := ⟨_, rfl⟩
      have hlk : ∀ n, (Instr.lookup 62 (.map (some mt)) (.int .i64 r.m) false).run Tryz.prog (X.drewN n) = .ok (.pointer (some ⟨q, 0, none⟩)) (X.drewN n) := fun n => by
        have := (HWX.out.later (nb_drewN (n := n) (Below.refl X.heap.size X))).lookT r.m HMI.out
        rw [if_pos hkm, ptrOf, hq] at this; exact this
      have HQ := Lib.hid hq
      have HKM := Lib.hid hkm
      clear hq hkm
      go_quiet (fail)
      clear hlk c1 kb0
      have HW : Hid (WldIs (X.drewN nq) p F c l (.map (some mt)) (.map (some mp)) ks tb tr hk pl R) := Lib.hid (HWX.out.later (nb_drewN (Below.refl _ _)))
      have HK : Hid (Kept F X (X.drewN nq)) := Lib.hid (Kept.ofBelow (nb_drewN (Below.refl _ _)))
      have HM : Hid (Moves X F F) := Lib.hid (Moves.refl _ _)
      replace hpl : p < (X.drewN nq).heap.size := hpl
      replace hBl : w.heap.size + 1 < (X.drewN nq).heap.size := hBl
      clear HWX
      generalize X.drewN nq = W at *
      generalize htb : tb = tb1 at *
      clear htb
      have hB := HBOX.out W HK.out
      have kh0 := hB.h0
      have kh1 := hB.h1
      have kb0 := hB.b0
      have kb1 : W.cell? ⟨w.heap.size + 1, 1, none⟩ = some (.int .i64 (r.f 0)) := hB.b 0 (by decide)
      have kb2 : W.cell? ⟨w.heap.size + 1, 2, none⟩ = some (.int .i64 (r.f 1)) := hB.b 1 (by decide)
      have kb3 : W.cell? ⟨w.heap.size + 1, 3, none⟩ = some (.int .i64 (r.f 2)) := hB.b 2 (by decide)
      have kb4 : W.cell? ⟨w.heap.size + 1, 4, none⟩ = some (.int .i64 (r.f 3)) := hB.b 3 (by decide)
      have kb5 : W.cell? ⟨w.heap.size + 1, 5, none⟩ = some (.int .i64 (r.f 4)) := hB.b 4 (by decide)
      have kb6 : W.cell? ⟨w.heap.size + 1, 6, none⟩ = some (.int .i64 (r.f 5)) := hB.b 5 (by decide)
      have kb7 : W.cell? ⟨w.heap.size + 1, 7, none⟩ = some (.int .i64 (r.f 6)) := hB.b 6 (by decide)
      have kb8 : W.cell? ⟨w.heap.size + 1, 8, none⟩ = some (.int .i64 (r.f 7)) := hB.b 7 (by decide)
      have hBl := hB.lt
      obtain ⟨rws, hr60, hrin⟩ := HFEW.out
      have HTL : Hid (((tr r.m).length + 1) * 16 ≤ 140737488355328) := Lib.hid (by have := HW.out.laid.trLen hrin HKM.out; omega)
      have HHL : Hid (hk.length < maxLen) := Lib.hid (by have := HW.out.laid.hkLen HW.out.mapP.1.nodup hrin; unfold maxLen; omega)
      have HNH : Hid (¬ hd r ∈ hk) := Lib.hid (fun e => by obtain ⟨x, hx, e⟩ := (HW.out.laid.has _).1 e; exact HNEW.out x hx e)
      clear hB hr60 hrin
      go_wp2_with fail
      refine (tabAdd_any q _ r.m (tr r.m) r _ (by rw [← HQ.out]; exact HW.out.tabs r.m HKM.out) HTL.out).mono ?_
      rintro e w5 ⟨rfl, F5, ht5, hk5, hm5⟩
      rw [addL, addE, if_pos HBE.out, if_pos rfl, if_pos rfl] at ht5
      rw [addN, addE, if_pos HBE.out, if_pos rfl, if_pos rfl]
      have hk05 : 0 ≤ r.m := (HW.out.laid.key _ HKM.out).1
      have hkX5 : Kept F X w5 := HK.out.trans hk5 (fun b hb => HM.out b hb.1)
      have hB5 := HBOX.out w5 hkX5
      have l0 := hB5.h0
      have l1 := hB5.h1
      have hBl5 := hB5.lt
      have c25 := (HW.out.slots.kept hk5 (fun b hb hb' => by rw [hb.2] at hb'; omega)).cell.2
      have hpl5 : p < w5.heap.size := Nat.lt_of_lt_of_le HW.out.plt hk5.size
      have HMP : Hid (MapIs kHand w5.drew mp hk.length hk (plV tb1 pl)) := Lib.hid ((HW.out.mapP.1.kept hk5 (fun e => by rw [HW.out.mapP.2.2] at e; omega)).kept (Kept.drew (fun _ => False) _) id)
      have HT5 := Lib.hid ht5
      have HK5 := Lib.hid hk5
      have HM5 := Lib.hid hm5
      clear ht5 hk5 hm5 hk05 hkX5 hB5 kh0 kh1 kb0 kb1 kb2 kb3 kb4 kb5 kb6 kb7 kb8 hBl
      go_wp2_with fail
      go_still_tail 8, (by kernel_rfl)
      change wpList _ _ _ _ _ w5.drew
      clear l0 l1 c25
      go_wp2_with (first | (at_mapUpdate; refine wpList_put_new (K := kHand) _ rfl _ _ _ 63 rfl 97 Tryz.underlying63 rfl HMP.out HHL.out (r.s, r.g) HOK.out (.agg #[.pointer (some ⟨q, 0, none⟩), .int .i64 (tr r.m).length]) rfl rfl HNH.out ?_))
      intro w6 hmap6 hk6
      have HEND : Hid (AddWPost w p F l R r (.returned (.tuple #[])) w6) := Lib.hid (by
        obtain ⟨F6, c6, hw6, hkk6, hmm6⟩ := HW.out.addRow HKM.out HBE.out HNH.out (by rw [HQ.out]; exact HT5.out) HK5.out HM5.out ((Kept.drew (fun b => b = mp) w5).trans hk6 (fun _ h => .inl h)) (by rw [HQ.out]; exact hmap6.tight)
        have hkk : Kept F X w6 := HK.out.trans hkk6 HM.out
        have hmm : Moves X F F6 := HM.out.trans hmm6 HK.out.size
        have hXs := HX.out.size
        exact ⟨rfl, F6, ⟨c6, _, _, _, _, _, _, _, hw6⟩, (Kept.ofBelow HX.out).trans hkk (fun _ h => .inl h), fun b hb => (hmm b hb).imp id (fun h => by omega)⟩)
      clear hmap6 hk6
      go_wp2
      go_end0
      exact HEND.out
    · as_aux_lemma =>
      obtain ⟨U, hUX⟩ : ∃ U, U = X := ⟨_, rfl⟩
      rw [← hUX]
      have HW : Hid (WldIs U p F c l (.map (some mt)) (.map (some mp)) ks tb tr hk pl R) := Lib.hid (by rw [hUX]; exact HWX.out)
      have HK : Hid (Kept F X U) := Lib.hid (by rw [hUX]; exact Kept.refl _ _)
      have HM : Hid (Moves X F F) := Lib.hid (Moves.refl _ _)
      have HNK := Lib.hid hkm
      clear HWX hUX hkm
      have hlk : ∀ n, (Instr.lookup 62 (.map (some mt)) (.int .i64 r.m) false).run Tryz.prog (U.drewN n) = .ok (.pointer none) (U.drewN n) := fun n => by
        have := (HW.out.later (nb_drewN (n := n) (Below.refl U.heap.size U))).lookT r.m HMI.out
        rw [if_neg HNK.out] at this; exact this
      have c1 := HW.out.cell1
      have kb0 := (HBOX.out U HK.out).b0
      have hpl := HW.out.plt
      have hBl := (HBOX.out U HK.out).lt
      have hmI := HMI.out
      go_wp2_with fail
      go_quiet (fail)
      go_wp2_with fail
      clear hlk c1 kb0
      have HW2 := Lib.hid (HW.out.later (nb_drewN (n := nq) (Below.refl U.heap.size U)))
      have HK2 : Hid (Kept F X (U.drewN nq)) := Lib.hid (HK.out.trans (Kept.ofBelow (F := F) (nb_drewN (Below.refl _ _))) (fun _ h => .inl h))
      have HM2 := HM
      clear HW HK HM
      replace hpl : p < (U.drewN nq).heap.size := hpl
      replace hBl : w.heap.size + 1 < (U.drewN nq).heap.size := hBl
      generalize U.drewN nq = V at *
      have kb0 := (HBOX.out V HK2.out).b0
      have hB0 := bErr_zero HBE.out
      go_wp2_with fail
      refine (tableNew_yes r.m _ hB0.1.1 hB0.1.2).mono ?_
      rintro e w3 ⟨q, F3, rfl, ht3, hf3, hb3⟩
      have hkX3 : Kept F X w3 := HK2.out.trans (Kept.ofBelow (F := F) hb3) (fun _ h => .inl h)
      have c13 := (HW2.out.later hb3).cell1
      have kb3 := (HBOX.out w3 hkX3).b0
      have hpl3 : p < w3.heap.size := Nat.lt_of_lt_of_le hpl hb3.size
      have hBl3 := (HBOX.out w3 hkX3).lt
      have HMT : Hid (MapIs kInt w3.drew mt ks.length ks (ptrOf tb)) := Lib.hid ((HW2.out.mapT.1.later hb3).kept (Kept.drew (fun _ => False) _) id)
      have HKL : Hid (ks.length < maxLen) := Lib.hid (by have := HW2.out.mapT.2.2.2; unfold maxLen; omega)
      have HT3 := Lib.hid ht3
      have HF3 := Lib.hid hf3
      have HB3 := Lib.hid hb3
      have HX3 := Lib.hid hkX3
      clear ht3 hf3 hb3 hkX3 kb0 hpl hBl hB0
      go_wp2_with fail
      go_still_tail 7, (by kernel_rfl)
      change wpList _ _ _ _ _ w3.drew
      clear c13 kb3
      go_wp2_with (first | (at_mapUpdate; refine wpList_put_new (K := kInt) _ rfl _ _ _ 62 rfl 78 Tryz.underlying62 rfl HMT.out HKL.out r.m HMI.out (.pointer (some ⟨q, 0, none⟩)) rfl rfl HNK.out ?_))
      intro W hmap4 hk4
      have hB0 := bErr_zero HBE.out
      obtain ⟨F4, c4, hw4, hkk4, hmm4⟩ := HW2.out.newTab HNK.out hB0.1.1 hB0.1.2 HT3.out HB3.out HF3.out ((Kept.drew (fun b => b = mt) w3).trans hk4 (fun _ h => .inl h)) hmap4.tight
      obtain ⟨ks4, hks4⟩ : ∃ ks4, ks4 = ks ++ [r.m] := ⟨_, rfl⟩
      obtain ⟨tb1, htb4⟩ : ∃ tb4 : Int → Nat, tb4 = fun j => if j = r.m then q else tb j := ⟨_, rfl⟩
      rw [← hks4, ← htb4] at hw4
      have HKM : Hid (r.m ∈ ks4) := Lib.hid (by rw [hks4]; simp)
      have HQ : Hid (tb1 r.m = q) := Lib.hid (by rw [htb4]; simp)
      have HW := Lib.hid hw4
      have HK : Hid (Kept F X W) := Lib.hid (HK2.out.trans hkk4 HM2.out)
      have HM : Hid (Moves X F F4) := Lib.hid (HM2.out.trans hmm4 HK2.out.size)
      clear hw4 hkk4 hmm4 hks4 htb4 hmap4 hk4 HW2 HK2 HM2 HT3 HF3 HB3 HX3 HMT HKL hB0 hpl3 hBl3 HNK
      have hB := HBOX.out W HK.out
      have kh0 := hB.h0
      have kh1 := hB.h1
      have kb0 := hB.b0
      have kb1 : W.cell? ⟨w.heap.size + 1, 1, none⟩ = some (.int .i64 (r.f 0)) := hB.b 0 (by decide)
      have kb2 : W.cell? ⟨w.heap.size + 1, 2, none⟩ = some (.int .i64 (r.f 1)) := hB.b 1 (by decide)
      have kb3 : W.cell? ⟨w.heap.size + 1, 3, none⟩ = some (.int .i64 (r.f 2)) := hB.b 2 (by decide)
      have kb4 : W.cell? ⟨w.heap.size + 1, 4, none⟩ = some (.int .i64 (r.f 3)) := hB.b 3 (by decide)
      have kb5 : W.cell? ⟨w.heap.size + 1, 5, none⟩ = some (.int .i64 (r.f 4)) := hB.b 4 (by decide)
      have kb6 : W.cell? ⟨w.heap.size + 1, 6, none⟩ = some (.int .i64 (r.f 5)) := hB.b 5 (by decide)
      have kb7 : W.cell? ⟨w.heap.size + 1, 7, none⟩ = some (.int .i64 (r.f 6)) := hB.b 6 (by decide)
      have kb8 : W.cell? ⟨w.heap.size + 1, 8, none⟩ = some (.int .i64 (r.f 7)) := hB.b 7 (by decide)
      have hBl := hB.lt
      obtain ⟨rws, hr60, hrin⟩ := HFEW.out
      have HTL : Hid (((tr r.m).length + 1) * 16 ≤ 140737488355328) := Lib.hid (by have := HW.out.laid.trLen hrin HKM.out; omega)
      have HHL : Hid (hk.length < maxLen) := Lib.hid (by have := HW.out.laid.hkLen HW.out.mapP.1.nodup hrin; unfold maxLen; omega)
      have HNH : Hid (¬ hd r ∈ hk) := Lib.hid (fun e => by obtain ⟨x, hx, e⟩ := (HW.out.laid.has _).1 e; exact HNEW.out x hx e)
      clear hB hr60 hrin
      go_wp2_with fail
      refine (tabAdd_any q _ r.m (tr r.m) r _ (by rw [← HQ.out]; exact HW.out.tabs r.m HKM.out) HTL.out).mono ?_
      rintro e w5 ⟨rfl, F5, ht5, hk5, hm5⟩
      rw [addL, addE, if_pos HBE.out, if_pos rfl, if_pos rfl] at ht5
      rw [addN, addE, if_pos HBE.out, if_pos rfl, if_pos rfl]
      have hk05 : 0 ≤ r.m := (HW.out.laid.key _ HKM.out).1
      have hkX5 : Kept F X w5 := HK.out.trans hk5 (fun b hb => HM.out b hb.1)
      have hB5 := HBOX.out w5 hkX5
      have l0 := hB5.h0
      have l1 := hB5.h1
      have hBl5 := hB5.lt
      have c25 := (HW.out.slots.kept hk5 (fun b hb hb' => by rw [hb.2] at hb'; omega)).cell.2
      have hpl5 : p < w5.heap.size := Nat.lt_of_lt_of_le HW.out.plt hk5.size
      have HMP : Hid (MapIs kHand w5.drew mp hk.length hk (plV tb1 pl)) := Lib.hid ((HW.out.mapP.1.kept hk5 (fun e => by rw [HW.out.mapP.2.2] at e; omega)).kept (Kept.drew (fun _ => False) _) id)
      have HT5 := Lib.hid ht5
      have HK5 := Lib.hid hk5
      have HM5 := Lib.hid hm5
      clear ht5 hk5 hm5 hk05 hkX5 hB5 kh0 kh1 kb0 kb1 kb2 kb3 kb4 kb5 kb6 kb7 kb8 hBl
      go_wp2_with fail
      go_still_tail 8, (by kernel_rfl)
      change wpList _ _ _ _ _ w5.drew
      clear l0 l1 c25
      go_wp2_with (first | (at_mapUpdate; refine wpList_put_new (K := kHand) _ rfl _ _ _ 63 rfl 97 Tryz.underlying63 rfl HMP.out HHL.out (r.s, r.g) HOK.out (.agg #[.pointer (some ⟨q, 0, none⟩), .int .i64 (tr r.m).length]) rfl rfl HNH.out ?_))
      intro w6 hmap6 hk6
      have HEND : Hid (AddWPost w p F l R r (.returned (.tuple #[])) w6) := Lib.hid (by
        obtain ⟨F6, c6, hw6, hkk6, hmm6⟩ := HW.out.addRow HKM.out HBE.out HNH.out (by rw [HQ.out]; exact HT5.out) HK5.out HM5.out ((Kept.drew (fun b => b = mp) w5).trans hk6 (fun _ h => .inl h)) (by rw [HQ.out]; exact hmap6.tight)
        have hkk : Kept F X w6 := HK.out.trans hkk6 HM.out
        have hmm : Moves X F F6 := HM.out.trans hmm6 HK.out.size
        have hXs := HX.out.size
        exact ⟨rfl, F6, ⟨c6, _, _, _, _, _, _, _, hw6⟩, (Kept.ofBelow HX.out).trans hkk (fun _ h => .inl h), fun b hb => (hmm b hb).imp id (fun h => by omega)⟩)
      clear hmap6 hk6
      go_wp2
      go_end0
      exact HEND.out
end Go.Proofs.YtlclceiebnnpgaaGreat

/- The contract of Kill of package world. -/
import Derived.Test.YtlclceiebnnpgaaGreatWorldRemove
import Derived.Test.YtlclceiebnnpgaaGreatGroundB
namespace Go.Proofs.YtlclceiebnnpgaaGreat
set_option maxRecDepth 8000
open Go.RowKit

def KillPost (w : World) (p : Nat) (F : Nat → Prop) (l : List (Int × Bool)) (rows : List Rw) (a b : Int) (e : Ending) (w' : World) : Prop :=
  e = .returned (.int .i64 (killE rows a b)) ∧ ∃ F', WldAt w' p F' (freeL l a b) (· ∈ killR rows a b) ∧ Kept F w w' ∧ Moves w F F'
theorem mem_of_hasH {rows : List Rw} {a b : Int} (h : hasH rows a b = true) : ∃ x, x ∈ rows ∧ hd x = (a, b) := by
  obtain ⟨r, hr, e1, e2⟩ := hasH_iff.1 h
  exact ⟨r, hr, by rw [hd, e1, e2]⟩
theorem not_mem_of_hasH {rows : List Rw} {a b : Int} (h : hasH rows a b = false) : ∀ x ∈ rows, hd x ≠ (a, b) := fun x hx e => by
  simp only [hd, Prod.mk.injEq] at e
  have := hasH_iff.2 ⟨x, hx, e⟩
  rw [h] at this; cases this

set_option maxHeartbeats 4000000 in
theorem worldKill_any (p : Nat) (F : Nat → Prop) (l : List (Int × Bool)) (rows : List Rw) (a b : Int) (w : World) (h : WldAt w p F l (· ∈ rows)) (ok : WOk l rows) (ha : I64r a) (hb : I64r b) :
    Calls Tryz.prog 20 #[.pointer (some ⟨p, 0, none⟩), .agg #[.int .i64 a, .int .i64 b]] w (KillPost w p F l rows a b) := by
  have H0 := Lib.hid h
  have HOK := Lib.hid ok
  have HAB : Hid (I64r a ∧ I64r b) := Lib.hid ⟨ha, hb⟩
  have HLT := Lib.hid h.lt
  obtain ⟨c, tm, pm, ks, tb, tr, hk, pl, h⟩ := h
  have hX : Below w.heap.size w (w.alloc (.cells #[.int .i64 a, .int .i64 b] 28)) := nb_alloc (Below.refl _ _) _
  have hhb : (w.alloc (.cells #[.int .i64 a, .int .i64 b] 28)).heap[w.heap.size]? = some (.cells #[.int .i64 a, .int .i64 b] 28) := heap_alloc_new _ _
  have hsz : (w.alloc (.cells #[.int .i64 a, .int .i64 b] 28)).heap.size = w.heap.size + 1 := by simp
  have HW := Lib.hid (h.later hX)
  have HWA := Lib.hid (H0.out.later hX)
  have HX := Lib.hid hX
  have hmk := h.laid.hasH a b
  clear h hX ok
  go_enter Tryz.func20, Tryz.ntmps20
  go_wp2_with fail
  generalize (w.alloc (.cells #[.int .i64 a, .int .i64 b] 28)) = X at *
  have c2 := HW.out.cell2
  have hpl := HW.out.plt
  have kh0 : X.cell? ⟨w.heap.size, 0, none⟩ = some (.int .i64 a) := by rw [cell_of_row _ _ _ _ _ _ hhb]; rfl
  have kh1 : X.cell? ⟨w.heap.size, 1, none⟩ = some (.int .i64 b) := by rw [cell_of_row _ _ _ _ _ _ hhb]; rfl
  have hhl : w.heap.size < X.heap.size := by omega
  have HHB := Lib.hid hhb
  clear hhb hsz
  cases hh : hasH rows a b
  · as_aux_lemma =>
    have hm : ¬ (a, b) ∈ hk := of_decide_eq_false (hmk.trans hh)
    have hlk : (Instr.lookup 63 pm (.agg #[.int .i64 a, .int .i64 b]) true).run Tryz.prog X.drew = .ok (.tuple #[.agg #[.pointer none, .int .i64 0], .bool false]) X.drew := (HW.out.later (Below.refl _ _).drew).look2o a b ha hb hm
    have hlk1 : (Instr.lookup 63 pm (.agg #[.int .i64 a, .int .i64 b]) true).run Tryz.prog (X.alloc (.cells #[.pointer none, .int .i64 0] 97)).drew = .ok (.tuple #[.agg #[.pointer none, .int .i64 0], .bool false]) (X.alloc (.cells #[.pointer none, .int .i64 0] 97)).drew := (HW.out.later (nb_alloc (Below.refl _ _) (.cells #[.pointer none, .int .i64 0] 97)).drew).look2o a b ha hb hm
    have HEND : Hid (∀ w', Below X.heap.size X w' → KillPost w p F l rows a b (.returned (.int .i64 7)) w') := Lib.hid (fun w' h' => by
      have hb' : Below w.heap.size w w' := nb_trans HX.out h'
      have hl : liveB l a b = false := by rw [← HOK.out.has a b]; exact hh
      refine ⟨by rw [killE, hh]; rfl, F, ?_, Kept.ofBelow hb', Moves.refl _ _⟩
      rw [freeL, hl]
      refine (H0.out.later hb').congr (fun x => ?_)
      rw [mem_killR]
      exact ⟨fun hx => ⟨hx, not_mem_of_hasH hh x hx⟩, And.left⟩)
    clear hmk hh hm HW HWA HHB
    go_region
    all_goals
      clear hlk hlk1 kh0 kh1 c2
      go_wp2
      go_ret
      exact HEND.out _ (nb_alloc (Below.refl _ _) _).drew
  · as_aux_lemma =>
    have hm : (a, b) ∈ hk := of_decide_eq_true (hmk.trans hh)
    obtain ⟨q, hq⟩ : ∃ q, tb (pl (a, b)).1 = q := ⟨_, rfl⟩
    obtain ⟨i, hi⟩ : ∃ i, (pl (a, b)).2 = i := ⟨_, rfl⟩
    have hlk : (Instr.lookup 63 pm (.agg #[.int .i64 a, .int .i64 b]) true).run Tryz.prog X.drew = .ok (.tuple #[.agg #[.pointer (some ⟨q, 0, none⟩), .int .i64 i], .bool true]) X.drew := by
      have := (HW.out.later (Below.refl _ _).drew).look2i a b ha hb hm
      rw [plV, hq, hi] at this; exact this
    have hlk1 : (Instr.lookup 63 pm (.agg #[.int .i64 a, .int .i64 b]) true).run Tryz.prog (X.alloc (.cells #[.pointer none, .int .i64 0] 97)).drew = .ok (.tuple #[.agg #[.pointer (some ⟨q, 0, none⟩), .int .i64 i], .bool true]) (X.alloc (.cells #[.pointer none, .int .i64 0] 97)).drew := by
      have := (HW.out.later (nb_alloc (Below.refl _ _) (.cells #[.pointer none, .int .i64 0] 97)).drew).look2i a b ha hb hm
      rw [plV, hq, hi] at this; exact this
    have HH := Lib.hid hh
    clear hmk hm hq hi HW hh
    go_region
    all_goals
      clear hlk hlk1 kh0 kh1 c2
      have HWV : Hid (WldAt (X.alloc (.cells #[.pointer (some ⟨q, 0, none⟩), .int .i64 i] 97)).drew p F l (· ∈ rows)) := Lib.hid (HWA.out.later (nb_alloc (Below.refl _ _) _).drew)
      have HXV : Hid (Below X.heap.size X (X.alloc (.cells #[.pointer (some ⟨q, 0, none⟩), .int .i64 i] 97)).drew) := Lib.hid (nb_alloc (Below.refl _ _) _).drew
      generalize (X.alloc (.cells #[.pointer (some ⟨q, 0, none⟩), .int .i64 i] 97)).drew = V at *
      have hvb : V.heap[w.heap.size]? = some (.cells #[.int .i64 a, .int .i64 b] 28) := by rw [HXV.out.block _ hhl]; exact HHB.out
      have kv0 : V.cell? ⟨w.heap.size, 0, none⟩ = some (.int .i64 a) := by rw [cell_of_row _ _ _ _ _ _ hvb]; rfl
      have kv1 : V.cell? ⟨w.heap.size, 1, none⟩ = some (.int .i64 b) := by rw [cell_of_row _ _ _ _ _ _ hvb]; rfl
      have hvl : w.heap.size < V.heap.size := (Array.getElem?_eq_some_iff.1 hvb).1
      have HVB := Lib.hid hvb
      clear hvb
      go_wp2_with fail
      refine (worldRemove_any p F l _ a b _ HWV.out HAB.out.1 HAB.out.2 (mem_of_hasH HH.out) HOK.out.few).mono ?_
      rintro e w2 ⟨rfl, F2, h2, hk2, hm2⟩
      have hb2 : w2.heap[w.heap.size]? = some (.cells #[.int .i64 a, .int .i64 b] 28) := by rw [hk2.block _ hvl (fun e => by have := HLT.out _ e; omega)]; exact HVB.out
      have kw0 : w2.cell? ⟨w.heap.size, 0, none⟩ = some (.int .i64 a) := by rw [cell_of_row _ _ _ _ _ _ hb2]; rfl
      have kw1 : w2.cell? ⟨w.heap.size, 1, none⟩ = some (.int .i64 b) := by rw [cell_of_row _ _ _ _ _ _ hb2]; rfl
      obtain ⟨c2, tm2, pm2, ks2, tb2, tr2, hk2', pl2, hw2⟩ := h2
      have hpl2 := hw2.plt
      have hwl2 : w.heap.size < w2.heap.size := (Array.getElem?_eq_some_iff.1 hb2).1
      have HW2 := Lib.hid hw2
      have HK2 := Lib.hid hk2
      have HM2 := Lib.hid hm2
      clear hw2 hk2 hm2 hb2 kv0 kv1
      go_wp2_with fail
      go_still_tail 4, (by kernel_rfl)
      change wpList _ _ _ _ _ w2.drew
      clear kw0 kw1
      go_wp2_with fail
      refine (free_any p _ l a b _ (HW2.out.slots.kept (Kept.drew (fun _ => False) _) (fun _ _ => id)) HOK.out.slots).mono ?_
      rintro e w3 ⟨rfl, hs3, hk3⟩
      have HEND : Hid (KillPost w p F l rows a b (.returned (.int .i64 (freeE l a b))) w3) := Lib.hid (by
        have hlv : liveB l a b = true := by rw [← HOK.out.has a b]; exact HH.out
        have hk3' : Kept (fun b => F2 b ∧ c2 b = -1) w2 w3 := (Kept.drew _ w2).trans hk3 (fun _ h => .inl h)
        obtain ⟨hw3, hkF3⟩ := HW2.out.slotStep hs3 hk3' (Moves.refl _ _)
        have hXs := HX.out.size
        have hXv := HXV.out.size
        refine ⟨by rw [freeE, killE, hlv, HH.out], growF F2 w2 w3, WldAt.congr ⟨_, _, _, _, _, _, _, _, hw3⟩ (fun x => mem_killR.symm), ?_, fun b hb => ?_⟩
        · exact ((Kept.ofBelow (HX.out.trans (HXV.out.mono hXs))).trans HK2.out (fun _ h => .inl h)).trans hkF3 (fun b hb => (HM2.out b hb).imp id (fun h => by omega))
        · rcases hb with hb | hb
          · exact (HM2.out b hb).imp id (fun h => by omega)
          · have := HK2.out.size
            right; omega)
      clear hs3 hk3
      go_wp2
      go_ret
      exact HEND.out
end Go.Proofs.YtlclceiebnnpgaaGreat

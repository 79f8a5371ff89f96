/- The contract of Spawn of package world. -/
import Derived.Test.YtlclceiebnnpgaaGreatWorldAdd
namespace Go.Proofs.YtlclceiebnnpgaaGreat
set_option maxRecDepth 8000
open Go.RowKit

def SpawnPost (w : World) (p : Nat) (F : Nat → Prop) (l : List (Int × Bool)) (rows : List Rw) (m : Int) (f : Nat → Int) (e : Ending) (w' : World) : Prop :=
  e = .returned (.tuple #[.agg #[.int .i64 (spawnH l m f).1, .int .i64 (spawnH l m f).2], .int .i64 (spawnE l m f)]) ∧ ∃ F', WldAt w' p F' (spawnL l m f) (· ∈ spawnR l rows m f) ∧ Kept F w w' ∧ Moves w F F'
theorem takeH_I64 {l : List (Int × Bool)} (ok : SlotOk l) (he : takeE l = 0) : I64r (takeH l).1 ∧ I64r (takeH l).2 := by
  have h := (liveB_take he (takeH l).1 (takeH l).2).2 (.inl rfl)
  obtain ⟨h0, h1, h2⟩ := liveB_iff.1 h
  have hl := ok.take.len
  have hg := ok.take.gen (takeH l).1.toNat (by omega)
  rw [h2] at hg
  simp only at hg
  exact ⟨⟨by omega, by omega⟩, ⟨by omega, by omega⟩⟩
theorem takeE_ne {l : List (Int × Bool)} (h : takeE l ≠ 0) : takeL l = l ∧ takeH l = (0, 0) := by
  by_cases h1 : firstFree l < l.length
  · exact absurd (takeE_old h1) h
  · by_cases h2 : l.length < 60
    · exact absurd (takeE_new h1 h2) h
    · exact ⟨takeL_no h1 h2, takeH_no h1 h2⟩

set_option maxHeartbeats 4000000 in
theorem worldSpawn_any (p : Nat) (F : Nat → Prop) (l : List (Int × Bool)) (rows : List Rw) (m : Int) (f : Nat → Int) (w : World) (h : WldAt w p F l (· ∈ rows)) (ok : WOk l rows) :
    Calls Tryz.prog 18 #[.pointer (some ⟨p, 0, none⟩), .agg #[.int .i64 m, .int .i64 (f 0), .int .i64 (f 1), .int .i64 (f 2), .int .i64 (f 3), .int .i64 (f 4), .int .i64 (f 5), .int .i64 (f 6), .int .i64 (f 7)]] w (SpawnPost w p F l rows m f) := by
  have hX : Below w.heap.size w ((w.alloc (.cells #[.int .i64 m, .int .i64 (f 0), .int .i64 (f 1), .int .i64 (f 2), .int .i64 (f 3), .int .i64 (f 4), .int .i64 (f 5), .int .i64 (f 6), .int .i64 (f 7)] 26)).alloc (.cells #[.int .i64 0, .int .i64 0] 28)) := nb_alloc (nb_alloc (Below.refl _ _) _) _
  have hb0 : ((w.alloc (.cells #[.int .i64 m, .int .i64 (f 0), .int .i64 (f 1), .int .i64 (f 2), .int .i64 (f 3), .int .i64 (f 4), .int .i64 (f 5), .int .i64 (f 6), .int .i64 (f 7)] 26)).alloc (.cells #[.int .i64 0, .int .i64 0] 28)).heap[w.heap.size]? = some (.cells #[.int .i64 m, .int .i64 (f 0), .int .i64 (f 1), .int .i64 (f 2), .int .i64 (f 3), .int .i64 (f 4), .int .i64 (f 5), .int .i64 (f 6), .int .i64 (f 7)] 26) := heap_alloc2_old _ _ _
  have hb1 : ((w.alloc (.cells #[.int .i64 m, .int .i64 (f 0), .int .i64 (f 1), .int .i64 (f 2), .int .i64 (f 3), .int .i64 (f 4), .int .i64 (f 5), .int .i64 (f 6), .int .i64 (f 7)] 26)).alloc (.cells #[.int .i64 0, .int .i64 0] 28)).heap[w.heap.size + 1]? = some (.cells #[.int .i64 0, .int .i64 0] 28) := heap_alloc2_new _ _ _
  have HLT := Lib.hid h.lt
  have HW := Lib.hid (h.later hX)
  have HX := Lib.hid hX
  have HB0 := Lib.hid hb0
  have HB1 := Lib.hid hb1
  have HOK := Lib.hid ok
  have hbl := (Array.getElem?_eq_some_iff.1 hb1).1
  clear h hX ok hb0 hb1
  go_enter Tryz.func18, Tryz.ntmps18
  go_wp2_with fail
  generalize ((w.alloc (.cells #[.int .i64 m, .int .i64 (f 0), .int .i64 (f 1), .int .i64 (f 2), .int .i64 (f 3), .int .i64 (f 4), .int .i64 (f 5), .int .i64 (f 6), .int .i64 (f 7)] 26)).alloc (.cells #[.int .i64 0, .int .i64 0] 28)) = X at *
  have HBOX : Hid (∀ Y, Kept F X Y → Y.heap[w.heap.size]? = some (.cells #[.int .i64 m, .int .i64 (f 0), .int .i64 (f 1), .int .i64 (f 2), .int .i64 (f 3), .int .i64 (f 4), .int .i64 (f 5), .int .i64 (f 6), .int .i64 (f 7)] 26) ∧ Y.heap[w.heap.size + 1]? = some (.cells #[.int .i64 0, .int .i64 0] 28)) := Lib.hid (fun Y hY => ⟨by rw [hY.block _ (by omega) (fun e => by have := HLT.out _ e; omega)]; exact HB0.out, by rw [hY.block _ hbl (fun e => by have := HLT.out _ e; omega)]; exact HB1.out⟩)
  refine (checkBeast_any _ _ _ _ _ _ _ _ _ _).mono ?_
  rintro e w1 ⟨rfl, hw1⟩
  have hX1 : Below X.heap.size X w1 := by rw [← hw1]; exact nb_alloc (Below.refl _ _) _
  have HX1 := Lib.hid hX1
  clear hw1 hX1
  by_cases hbe : bErr m [f 0, f 1, f 2, f 3, f 4, f 5, f 6, f 7] = 0
  · rw [hbe]
    have hwf := HW.out.later HX1.out
    obtain ⟨c, tm, pm, ks, tb, tr, hk, pl, hwi⟩ := hwf
    have HWI := Lib.hid hwi
    have hpl := hwi.plt
    have HBE := Lib.hid hbe
    clear hwi hbe
    go_wp2_with fail
    refine (take_any p _ l _ HWI.out.slots HOK.out.slots).mono ?_
    rintro e w2 ⟨rfl, F2, hs2, hk2, hm2⟩
    obtain ⟨hw2, hkF2⟩ := HWI.out.slotStep hs2 hk2 hm2
    have HW2 := Lib.hid hw2
    have HKX2 : Hid (Kept F X w2) := Lib.hid ((Kept.ofBelow HX1.out).trans hkF2 (fun _ h => .inl h))
    have hs12 := hkF2.size
    clear hs2 hk2 hm2 hw2 hkF2 HWI
    have hXs := HX.out.size
    have hs1 := HX1.out.size
    by_cases hte : takeE l = 0
    · as_aux_lemma =>
      obtain ⟨⟨ta, tb2⟩, hth⟩ : ∃ x, takeH l = x := ⟨_, rfl⟩
      have HTE := Lib.hid hte
      have HTH := Lib.hid hth
      rw [hte, hth]
      have HOKT : Hid (I64r ta ∧ I64r tb2) := Lib.hid (by have := takeH_I64 HOK.out.slots hte; rw [hth] at this; exact this)
      have HNEW : Hid (∀ x, x ∈ rows → hd x ≠ hd ⟨ta, tb2, m, f⟩) := Lib.hid (fun x hx e => by
        have h1 := HOK.out.live x hx
        simp only [hd, Prod.mk.injEq] at e
        have h2 := take_dead hte x.g
        rw [hth] at h2
        rw [e.1] at h1
        rw [h1] at h2
        cases h2)
      obtain ⟨hq0, hq1⟩ := HBOX.out w2 HKX2.out
      have kb0 : w2.cell? ⟨w.heap.size, 0, none⟩ = some (.int .i64 m) := by rw [cell_of_row _ _ _ _ _ _ hq0]; rfl
      have kb1 : w2.cell? ⟨w.heap.size, 1, none⟩ = some (.int .i64 (f 0)) := by rw [cell_of_row _ _ _ _ _ _ hq0]; rfl
      have kb2 : w2.cell? ⟨w.heap.size, 2, none⟩ = some (.int .i64 (f 1)) := by rw [cell_of_row _ _ _ _ _ _ hq0]; rfl
      have kb3 : w2.cell? ⟨w.heap.size, 3, none⟩ = some (.int .i64 (f 2)) := by rw [cell_of_row _ _ _ _ _ _ hq0]; rfl
      have kb4 : w2.cell? ⟨w.heap.size, 4, none⟩ = some (.int .i64 (f 3)) := by rw [cell_of_row _ _ _ _ _ _ hq0]; rfl
      have kb5 : w2.cell? ⟨w.heap.size, 5, none⟩ = some (.int .i64 (f 4)) := by rw [cell_of_row _ _ _ _ _ _ hq0]; rfl
      have kb6 : w2.cell? ⟨w.heap.size, 6, none⟩ = some (.int .i64 (f 5)) := by rw [cell_of_row _ _ _ _ _ _ hq0]; rfl
      have kb7 : w2.cell? ⟨w.heap.size, 7, none⟩ = some (.int .i64 (f 6)) := by rw [cell_of_row _ _ _ _ _ _ hq0]; rfl
      have kb8 : w2.cell? ⟨w.heap.size, 8, none⟩ = some (.int .i64 (f 7)) := by rw [cell_of_row _ _ _ _ _ _ hq0]; rfl
      have hqa := (Array.getElem?_eq_some_iff.1 hq0).1
      clear hte hth hq0 hq1
      go_wp2_with fail
      refine (worldAdd_any p _ _ _ ⟨ta, tb2, m, f⟩ _ ⟨_, _, _, _, _, _, _, _, HW2.out.later (nb_alloc (Below.refl _ _) _)⟩ HBE.out HNEW.out HOKT.out HOK.out.few).mono ?_
      rintro e w4 ⟨rfl, F4, h4, hk4, hm4⟩
      have hk24 : Kept (growF F w1 w2) w2 w4 := (Kept.alloc (growF F w1 w2) w2 _).trans hk4 (fun _ h => .inl h)
      have hkX4 : Kept F X w4 := HKX2.out.trans hk24 (fun b e => e.imp id (fun h => by omega))
      obtain ⟨hq0, hq1⟩ := HBOX.out w4 hkX4
      have hqh : w4.heap[w2.heap.size]? = some (.cells #[.int .i64 ta, .int .i64 tb2] 28) := by
        rw [hk4.block _ (by simp) (fun e => by rcases e with e | e; · have := HLT.out _ e; omega
                                               · omega)]
        exact heap_alloc_new w2 _
      have kz0 : w4.cell? ⟨w.heap.size + 1, 0, none⟩ = some (.int .i64 0) := by rw [cell_of_row _ _ _ _ _ _ hq1]; rfl
      have kz1 : w4.cell? ⟨w.heap.size + 1, 1, none⟩ = some (.int .i64 0) := by rw [cell_of_row _ _ _ _ _ _ hq1]; rfl
      have kt0 : w4.cell? ⟨w2.heap.size, 0, none⟩ = some (.int .i64 ta) := by rw [cell_of_row _ _ _ _ _ _ hqh]; rfl
      have kt1 : w4.cell? ⟨w2.heap.size, 1, none⟩ = some (.int .i64 tb2) := by rw [cell_of_row _ _ _ _ _ _ hqh]; rfl
      have fz : ∀ j, w4.frozen? ⟨w.heap.size + 1, j, none⟩ = false := fun j => frozen_of_row _ _ _ _ _ hq1
      have hl1 := (Array.getElem?_eq_some_iff.1 hq1).1
      have hl2 := (Array.getElem?_eq_some_iff.1 hqh).1
      have hne : ¬ w2.heap.size = w.heap.size + 1 := by omega
      have hne' : ¬ w.heap.size + 1 = w2.heap.size := by omega
      have HL : Hid (spawnL l m f = takeL l ∧ spawnH l m f = (ta, tb2) ∧ spawnE l m f = 0) := Lib.hid ⟨by rw [spawnL, if_pos HBE.out], by rw [spawnH, if_pos HBE.out]; exact HTH.out, by rw [spawnE, if_pos HBE.out]; exact HTE.out⟩
      have HEND : Hid (∀ w5, Kept (fun b => b = w.heap.size + 1) w4 w5 → ∃ F', WldAt w5 p F' (spawnL l m f) (· ∈ spawnR l rows m f) ∧ Kept F w w5 ∧ Moves w F F') := Lib.hid (fun w5 hk5 => by
        have hF4 : ∀ b, F4 b → b ≠ w.heap.size + 1 := fun b hb e => by
          rcases hm4 b hb with h1 | h1
          · rcases h1 with h1 | h1
            · have := HLT.out _ h1; omega
            · omega
          · simp at h1; omega
        rw [HL.out.1]
        refine ⟨F4, (h4.kept hk5 hF4).congr (fun x => ?_), ((Kept.ofBelow HX.out).trans hkX4 (fun _ h => .inl h)).trans hk5 (fun b e => .inr (by omega)), fun b hb => ?_⟩
        · unfold spawnR spawnE
          rw [if_pos HBE.out, if_pos HTE.out, mem_insR, HTH.out]
        · rcases hm4 b hb with h1 | h1
          · exact h1.imp id (fun h => by omega)
          · right; simp at h1; omega)
      clear h4 hk4 hm4 hk24 hkX4 hq0 hq1 hqh kb0 kb1 kb2 kb3 kb4 kb5 kb6 kb7 kb8
      go_wp2
      refine bodyPost_ret (v := .tuple #[.agg #[.int .i64 ta, .int .i64 tb2], .int .i64 0]) (by simp [results, Tryz.results18, go_sem, kz0, kz1]) rfl ⟨by rw [HL.out.2.1, HL.out.2.2], HEND.out _ ?_⟩
      exact (Kept.setCell (F := fun b => b = w.heap.size + 1) _ (p := ⟨w.heap.size + 1, 0, none⟩) rfl _).trans (Kept.setCell (F := fun b => b = w.heap.size + 1) _ (p := ⟨w.heap.size + 1, 1, none⟩) rfl _) (fun _ h => .inl h)
    · as_aux_lemma =>
      obtain ⟨hL, hH⟩ := takeE_ne hte
      rw [hH]
      obtain ⟨E, hE⟩ : ∃ E, takeE l = E := ⟨_, rfl⟩
      rw [hE] at hte ⊢
      have hne : (E != 0) = true := by simpa using hte
      obtain ⟨hq0, hq1⟩ := HBOX.out w2 HKX2.out
      have kz0 : w2.cell? ⟨w.heap.size + 1, 0, none⟩ = some (.int .i64 0) := by rw [cell_of_row _ _ _ _ _ _ hq1]; rfl
      have kz1 : w2.cell? ⟨w.heap.size + 1, 1, none⟩ = some (.int .i64 0) := by rw [cell_of_row _ _ _ _ _ _ hq1]; rfl
      have fz : ∀ j, w2.frozen? ⟨w.heap.size + 1, j, none⟩ = false := fun j => frozen_of_row _ _ _ _ _ hq1
      have hl1 := (Array.getElem?_eq_some_iff.1 hq1).1
      have HL : Hid (spawnH l m f = (0, 0) ∧ spawnE l m f = E) := Lib.hid ⟨by rw [spawnH, if_pos HBE.out]; exact hH, by rw [spawnE, if_pos HBE.out]; exact hE⟩
      have HEND : Hid (∀ w5, Kept (fun b => b = w.heap.size + 1 ∨ w2.heap.size ≤ b) w2 w5 → ∃ F', WldAt w5 p F' (spawnL l m f) (· ∈ spawnR l rows m f) ∧ Kept F w w5 ∧ Moves w F F') := Lib.hid (fun w5 hk5 => by
        have e1 : spawnL l m f = takeL l := by rw [spawnL, if_pos HBE.out]
        have e2 : spawnR l rows m f = rows := by rw [spawnR, spawnE, if_pos HBE.out, if_neg (by rw [hE]; exact hte)]
        rw [e1, e2]
        refine ⟨growF F w1 w2, ⟨_, _, _, _, _, _, _, _, HW2.out.kept hk5 (fun b hb e => ?_)⟩, ((Kept.ofBelow HX.out).trans HKX2.out (fun _ h => .inl h)).trans hk5 (fun b e => ?_), fun b hb => hb.imp id (fun h => by omega)⟩
        · have := HW2.out.lt b hb
          rcases e with e | e
          · rcases hb with hb | hb
            · have := HLT.out _ hb; omega
            · omega
          · omega
        · right; omega)
      clear hte hH hE hL hq0 hq1
      go_wp2
      refine bodyPost_ret (v := .tuple #[.agg #[.int .i64 0, .int .i64 0], .int .i64 E]) (by simp [results, Tryz.results18, go_sem, hl1, kz0, kz1]) rfl ⟨by rw [HL.out.1, HL.out.2], HEND.out _ ?_⟩
      exact ((Kept.setCell (F := fun b => b = w.heap.size + 1 ∨ w2.heap.size ≤ b) _ (p := ⟨w.heap.size + 1, 0, none⟩) (.inl rfl) _).trans (Kept.setCell (F := fun b => b = w.heap.size + 1 ∨ w2.heap.size ≤ b) _ (p := ⟨w.heap.size + 1, 1, none⟩) (.inl rfl) _) (fun _ h => .inl h)).trans (Kept.alloc (fun b => b = w.heap.size + 1 ∨ w2.heap.size ≤ b) _ _) (fun _ h => .inl h)
  · as_aux_lemma =>
    obtain ⟨E, hE⟩ : ∃ E, bErr m [f 0, f 1, f 2, f 3, f 4, f 5, f 6, f 7] = E := ⟨_, rfl⟩
    rw [hE] at hbe ⊢
    have hne : (E != 0) = true := by simpa using hbe
    obtain ⟨hq0, hq1⟩ := HBOX.out w1 (Kept.ofBelow HX1.out)
    have kz0 : w1.cell? ⟨w.heap.size + 1, 0, none⟩ = some (.int .i64 0) := by rw [cell_of_row _ _ _ _ _ _ hq1]; rfl
    have kz1 : w1.cell? ⟨w.heap.size + 1, 1, none⟩ = some (.int .i64 0) := by rw [cell_of_row _ _ _ _ _ _ hq1]; rfl
    have fz : ∀ j, w1.frozen? ⟨w.heap.size + 1, j, none⟩ = false := fun j => frozen_of_row _ _ _ _ _ hq1
    have hl1 := (Array.getElem?_eq_some_iff.1 hq1).1
    have hbe' : bErr m [f 0, f 1, f 2, f 3, f 4, f 5, f 6, f 7] ≠ 0 := by rw [hE]; exact hbe
    have HL : Hid (spawnH l m f = (0, 0) ∧ spawnE l m f = E) := Lib.hid ⟨by rw [spawnH, if_neg hbe'], by rw [spawnE, if_neg hbe']; exact hE⟩
    have HEND : Hid (∀ w5, Kept (fun b => b = w.heap.size + 1) w1 w5 → ∃ F', WldAt w5 p F' (spawnL l m f) (· ∈ spawnR l rows m f) ∧ Kept F w w5 ∧ Moves w F F') := Lib.hid (fun w5 hk5 => by
      have e1 : spawnL l m f = l := by rw [spawnL, if_neg hbe']
      have e2 : spawnR l rows m f = rows := by rw [spawnR, spawnE, if_neg hbe', if_neg hbe']
      rw [e1, e2]
      exact ⟨F, (HW.out.later HX1.out).kept hk5 (fun b hb e => by have := HLT.out _ hb; omega), (((Kept.ofBelow HX.out).trans (Kept.ofBelow (F := F) HX1.out) (fun _ h => .inl h))).trans hk5 (fun b e => by right; omega), Moves.refl _ _⟩)
    clear hbe hbe' hE hq0 hq1
    go_wp2
    refine bodyPost_ret (v := .tuple #[.agg #[.int .i64 0, .int .i64 0], .int .i64 E]) (by simp [results, Tryz.results18, go_sem, kz0, kz1]) rfl ⟨by rw [HL.out.1, HL.out.2], HEND.out _ ?_⟩
    exact (Kept.setCell (F := fun b => b = w.heap.size + 1) _ (p := ⟨w.heap.size + 1, 0, none⟩) rfl _).trans (Kept.setCell (F := fun b => b = w.heap.size + 1) _ (p := ⟨w.heap.size + 1, 1, none⟩) rfl _) (fun _ h => .inl h)
end Go.Proofs.YtlclceiebnnpgaaGreat

/- The contract of Take of package slots. -/
import Derived.Test.YtakoejopgdaknaaSlotFree
namespace Go.Proofs.Ytakoejopgdaknaa
set_option maxRecDepth 8000
open Go.RowKit
variable {T : TypeId} {rest : List Value}

theorem infoSlot : (Try.prog.info? 111).map (fun i => (i.zero, i.size, i.bytes)) = some (some (.agg #[.int .i64 0, .bool false]), 2, 16) := by kernel_rfl

theorem takeL_old {l : List (Int × Bool)} (h : firstFree l < l.length) : takeL l = l.set (firstFree l) ((l.getD (firstFree l) slotZ).1, true) := by rw [takeL, if_pos h]
theorem takeH_old {l : List (Int × Bool)} (h : firstFree l < l.length) : takeH l = ((firstFree l : Int), (l.getD (firstFree l) slotZ).1) := by rw [takeH, if_pos h]
theorem takeE_old {l : List (Int × Bool)} (h : firstFree l < l.length) : takeE l = 0 := by rw [takeE, if_pos h]
theorem takeL_new {l : List (Int × Bool)} (h : ¬ firstFree l < l.length) (h' : l.length < 60) : takeL l = l ++ [(0, true)] := by rw [takeL, if_neg h, if_pos h']
theorem takeH_new {l : List (Int × Bool)} (h : ¬ firstFree l < l.length) (h' : l.length < 60) : takeH l = ((l.length : Int), 0) := by rw [takeH, if_neg h, if_pos h']
theorem takeE_new {l : List (Int × Bool)} (h : ¬ firstFree l < l.length) (h' : l.length < 60) : takeE l = 0 := by rw [takeE, if_neg h, if_pos h']
theorem takeL_no {l : List (Int × Bool)} (h : ¬ firstFree l < l.length) (h' : ¬ l.length < 60) : takeL l = l := by rw [takeL, if_neg h, if_neg h']
theorem takeH_no {l : List (Int × Bool)} (h : ¬ firstFree l < l.length) (h' : ¬ l.length < 60) : takeH l = (0, 0) := by rw [takeH, if_neg h, if_neg h']
theorem takeE_no {l : List (Int × Bool)} (h : ¬ firstFree l < l.length) (h' : ¬ l.length < 60) : takeE l = 2 := by rw [takeE, if_neg h, if_neg h']

theorem ret_take {l : List (Int × Bool)} {a b e : Int} (h : takeH l = (a, b)) (h' : takeE l = e) : Ending.returned (.tuple #[.agg #[.int .i64 a, .int .i64 b], .int .i64 e]) = .returned (.tuple #[.agg #[.int .i64 (takeH l).1, .int .i64 (takeH l).2], .int .i64 (takeE l)]) := by rw [h, h']

/-- One flag of a slot is written. -/
theorem slotsIn_flag {w : World} {p g cap i : Nat} {F : Nat → Prop} {l : List (Int × Bool)} {c : Bool}
    (hp : w.heap[p]? = some (.cells (.slice (some ⟨g, 0, none⟩) l.length cap :: rest).toArray T (0, 0))) (hF : F p) (hFg : F g) (hgp : g ≠ p) (hlt : ∀ k, F k → k < w.heap.size)
    (ho : Owns elSlot w 111 (.slice (some ⟨g, 0, none⟩) l.length cap) l) (hi : i < l.length) :
    SlotsIn (w.setCell ⟨g, i * 2 + 1, none⟩ (.bool c)) p T rest F (l.set i ((l.getD i slotZ).1, c)) ∧ Kept F w (w.setCell ⟨g, i * 2 + 1, none⟩ (.bool c)) := by
  have o2 := ho.stored i 1 ((l.getD i slotZ).1, c) (.bool c) hi (by decide) rfl
  refine ⟨⟨_, ?_, o2, hF, fun k hk => ?_, fun k hk => by simpa using hlt k hk⟩, Kept.setCell _ (p := ⟨g, i * 2 + 1, none⟩) hFg _⟩
  · rw [heap_setCell_other _ _ _ _ (Ne.symm hgp)]
    exact hp
  · have : g = k := by simpa [Value.ownBlock] using hk
    subst this; exact ⟨hFg, hgp⟩

theorem kept_two (b : Nat) (x : World) (u u' : Value) : Kept (fun k => k = b) x ((x.setCell ⟨b, 0, none⟩ u).setCell ⟨b, 1, none⟩ u') :=
  (Kept.setCell (F := fun k => k = b) x (p := ⟨b, 0, none⟩) rfl u).trans (Kept.setCell (F := fun k => k = b) _ (p := ⟨b, 1, none⟩) rfl u') (fun _ h => .inl h)

def TakePost (w : World) (p : Nat) (T : TypeId) (rest : List Value) (F : Nat → Prop) (l : List (Int × Bool)) (e : Ending) (w' : World) : Prop :=
  e = .returned (.tuple #[.agg #[.int .i64 (takeH l).1, .int .i64 (takeH l).2], .int .i64 (takeE l)]) ∧ ∃ F', SlotsIn w' p T rest F' (takeL l) ∧ Kept F w w' ∧ Moves w F F'

set_option maxHeartbeats 2000000 in
theorem take_old (p : Nat) (F : Nat → Prop) (l : List (Int × Bool)) (w : World) (h : SlotsIn w p T rest F l) (ok : SlotOk l) (hff : firstFree l < l.length) :
    Calls Try.prog 55 #[.pointer (some ⟨p, 0, none⟩)] w (TakePost w p T rest F l) := by
  have HS := Lib.hid (h.later (nb_alloc (Below.refl _ _) (.cells #[.int .i64 0, .int .i64 0] 38)))
  have hpw := h.lt
  obtain ⟨v0, hp0, ho0, _, _, hlt0⟩ := HS.out
  have cp0 : (w.alloc (.cells #[.int .i64 0, .int .i64 0] 38)).cell? ⟨p, 0, none⟩ = some v0 := by rw [cell_of_row _ _ _ _ _ _ hp0]; simp
  have HR := Lib.hid ho0.reads
  clear hp0 ho0 hlt0 h
  have hlen := ok.len
  have HFF : Hid (ffI l = (firstFree l : Int)) := Lib.hid (by rw [ffI, if_pos hff])
  have HRES := Lib.hid (ret_take (takeH_old hff) (takeE_old hff))
  have HL := Lib.hid (takeL_old hff)
  clear ok
  generalize firstFree l = i at *
  go_enter Try.func55, Try.ntmps55
  go_wp2_with fail
  refine (indexFunc_any _ l _ HR.out).mono ?_
  rintro e w' ⟨rfl, hb'⟩
  rw [HFF.out]
  obtain ⟨v, hp, ho, hF, hv, hlt⟩ := HS.out.later hb'
  have k0 : w'.cell? ⟨w.heap.size, 0, none⟩ = some (.int .i64 0) := by rw [hb'.cell (p := ⟨w.heap.size, 0, none⟩) (by simp)]; simp
  have k1 : w'.cell? ⟨w.heap.size, 1, none⟩ = some (.int .i64 0) := by rw [hb'.cell (p := ⟨w.heap.size, 1, none⟩) (by simp)]; simp
  have z0 : w'.frozen? ⟨w.heap.size, 0, none⟩ = false := by rw [hb'.frozen (p := ⟨w.heap.size, 0, none⟩) (by simp)]; simp
  have z1 : w'.frozen? ⟨w.heap.size, 1, none⟩ = false := by rw [hb'.frozen (p := ⟨w.heap.size, 1, none⟩) (by simp)]; simp
  have HB := Lib.hid (nb_trans (nb_alloc (Below.refl _ _) _) hb')
  have hgt : w.heap.size < w'.heap.size := by have := hb'.size; simp at this; omega
  clear hb'
  have cp : w'.cell? ⟨p, 0, none⟩ = some v := by rw [cell_of_row _ _ _ _ _ _ hp]; simp
  obtain ⟨g, cap, rfl, hg, hm, c0, c1, hfz⟩ := ho.open2 rfl hff
  have c0' : w'.cell? ⟨g, i * 2, none⟩ = some (.int .i64 (l.getD i slotZ).1) := c0
  have c1' : w'.cell? ⟨g, i * 2 + 1, none⟩ = some (.bool (l.getD i slotZ).2) := c1
  have f1 := hfz (i * 2 + 1)
  clear hfz c0 c1
  obtain ⟨hFg, hgp⟩ := hv g rfl
  have hpg : ¬ p = g := Ne.symm hgp
  have hgw := hpw g hFg
  have hgw1 : ¬ g = w.heap.size := by omega
  have hgw2 : ¬ w.heap.size = g := by omega
  have HD := Lib.hid (slotsIn_flag (g := g) (cap := cap) (c := true) (w := w') hp hF hFg hgp hlt ho hff)
  clear hp ho hv
  generalize hy : l.getD i slotZ = y at *
  clear hy
  unfold maxLen at hm
  go_wp2
  refine bodyPost_ret (v := .tuple #[.agg #[.int .i64 i, .int .i64 y.1], .int .i64 0]) (by simp [results, Try.results55, go_sem, k0, k1]) rfl ⟨HRES.out, F, ?_⟩
  obtain ⟨hs, hk⟩ := HD.out
  have hbk : ∀ k, F k → ¬ k = w.heap.size := fun k hk => by have := hpw k hk; omega
  have hk2 := kept_two w.heap.size
  exact ⟨by rw [HL.out]; exact hs.kept (hk2 _ _ _) hbk, ((Kept.ofBelow HB.out).trans hk (fun _ h => .inl h)).trans (hk2 _ _ _) (fun _ h => .inr (by omega)), Moves.refl _ _⟩

theorem take_head {p : Nat} {F : Nat → Prop} {l : List (Int × Bool)} {w : World} (h : SlotsIn w p T rest F l) : ∃ v0, (w.alloc (.cells #[.int .i64 0, .int .i64 0] 38)).cell? ⟨p, 0, none⟩ = some v0 ∧ Reads elSlot (w.alloc (.cells #[.int .i64 0, .int .i64 0] 38)) v0 l := by
  obtain ⟨v0, hp0, ho0, _⟩ := h.later (nb_alloc (Below.refl _ _) (.cells #[.int .i64 0, .int .i64 0] 38))
  exact ⟨v0, by rw [cell_of_row _ _ _ _ _ _ hp0]; simp, ho0.reads⟩

set_option maxHeartbeats 2000000 in
theorem take_no (p : Nat) (F : Nat → Prop) (l : List (Int × Bool)) (w : World) (h : SlotsIn w p T rest F l) (hff : ¬ firstFree l < l.length) (hno : ¬ l.length < 60) :
    Calls Try.prog 55 #[.pointer (some ⟨p, 0, none⟩)] w (TakePost w p T rest F l) := by
  have HS := Lib.hid h
  have HS1 := Lib.hid (h.later (nb_alloc (Below.refl _ _) (.cells #[.int .i64 0, .int .i64 0] 38)))
  obtain ⟨v0, cp0, hr⟩ := take_head h
  have HR := Lib.hid hr
  have HFF : Hid (ffI l = -1) := Lib.hid (by rw [ffI, if_neg hff])
  have HRES := Lib.hid (ret_take (takeH_no hff hno) (takeE_no hff hno))
  have HL := Lib.hid (takeL_no hff hno)
  clear h hr hff
  go_enter Try.func55, Try.ntmps55
  go_wp2_with fail
  refine (indexFunc_any _ l _ HR.out).mono ?_
  rintro e w' ⟨rfl, hb'⟩
  rw [HFF.out]
  obtain ⟨v, hp, ho, _⟩ := HS1.out.later hb'
  have cp : w'.cell? ⟨p, 0, none⟩ = some v := by rw [cell_of_row _ _ _ _ _ _ hp]; simp
  obtain ⟨a, cap, rfl, _, _, _⟩ := ho.reads
  have k0 : w'.cell? ⟨w.heap.size, 0, none⟩ = some (.int .i64 0) := by rw [hb'.cell (p := ⟨w.heap.size, 0, none⟩) (by simp)]; simp
  have k1 : w'.cell? ⟨w.heap.size, 1, none⟩ = some (.int .i64 0) := by rw [hb'.cell (p := ⟨w.heap.size, 1, none⟩) (by simp)]; simp
  have z0 : w'.frozen? ⟨w.heap.size, 0, none⟩ = false := by rw [hb'.frozen (p := ⟨w.heap.size, 0, none⟩) (by simp)]; simp
  have z1 : w'.frozen? ⟨w.heap.size, 1, none⟩ = false := by rw [hb'.frozen (p := ⟨w.heap.size, 1, none⟩) (by simp)]; simp
  have HB := Lib.hid (nb_trans (nb_alloc (Below.refl _ _) _) hb')
  clear hb' hp ho
  go_wp2
  refine bodyPost_ret (v := .tuple #[.agg #[.int .i64 0, .int .i64 0], .int .i64 2]) (by simp [results, Try.results55, go_sem, k0, k1]) rfl ⟨HRES.out, F, ?_⟩
  have hk2 := kept_two w.heap.size
  exact ⟨by rw [HL.out]; exact (HS.out.later HB.out).kept (hk2 _ _ _) (fun k hk => by have := HS.out.lt k hk; omega), (Kept.ofBelow HB.out).trans (hk2 _ _ _) (fun _ h => .inr (by omega)), Moves.refl _ _⟩

set_option maxHeartbeats 2000000 in
theorem take_new (p : Nat) (F : Nat → Prop) (l : List (Int × Bool)) (w : World) (h : SlotsIn w p T rest F l) (hff : ¬ firstFree l < l.length) (hno : l.length < 60) :
    Calls Try.prog 55 #[.pointer (some ⟨p, 0, none⟩)] w (TakePost w p T rest F l) := by
  obtain ⟨i0, hi, hz0, hz1, hz2⟩ := info_parts infoSlot
  have HS := Lib.hid h
  have HS1 := Lib.hid (h.later (nb_alloc (Below.refl _ _) (.cells #[.int .i64 0, .int .i64 0] 38)))
  obtain ⟨v0, cp0, hr⟩ := take_head h
  have HR := Lib.hid hr
  have HFF : Hid (ffI l = -1) := Lib.hid (by rw [ffI, if_neg hff])
  have HRES := Lib.hid (ret_take (takeH_new hff hno) (takeE_new hff hno))
  have HL := Lib.hid (takeL_new hff hno)
  clear h hr hff
  go_enter Try.func55, Try.ntmps55
  go_wp2_with fail
  refine (indexFunc_any _ l _ HR.out).mono ?_
  rintro e w' ⟨rfl, hb'⟩
  rw [HFF.out]
  obtain ⟨v, hp, ho, hF, hv, hlt⟩ := HS1.out.later hb'
  have cp : w'.cell? ⟨p, 0, none⟩ = some v := by rw [cell_of_row _ _ _ _ _ _ hp]; simp
  have fp : w'.frozen? ⟨p, 0, none⟩ = false := frozen_of_row _ _ _ _ _ hp
  have k0 : w'.cell? ⟨w.heap.size, 0, none⟩ = some (.int .i64 0) := by rw [hb'.cell (p := ⟨w.heap.size, 0, none⟩) (by simp)]; simp
  have k1 : w'.cell? ⟨w.heap.size, 1, none⟩ = some (.int .i64 0) := by rw [hb'.cell (p := ⟨w.heap.size, 1, none⟩) (by simp)]; simp
  have z0 : w'.frozen? ⟨w.heap.size, 0, none⟩ = false := by rw [hb'.frozen (p := ⟨w.heap.size, 0, none⟩) (by simp)]; simp
  have z1 : w'.frozen? ⟨w.heap.size, 1, none⟩ = false := by rw [hb'.frozen (p := ⟨w.heap.size, 1, none⟩) (by simp)]; simp
  have HB := Lib.hid (nb_trans (nb_alloc (Below.refl _ _) _) hb')
  have hgt : w.heap.size < w'.heap.size := by have := hb'.size; simp at this; omega
  clear hb'
  have HO := Lib.hid ho
  have HV := Lib.hid hv
  have HP := Lib.hid hp
  obtain ⟨a, cap, rfl, _, _, _⟩ := ho.reads
  clear ho hv hp
  go_wp2_with (first | (at_builtin; refine wpList_append_lies _ rfl _ _ 74 rfl 0 111 i0 (.agg #[.int .i64 0, .bool false]) 2 16 Try.underlying74 hi hz0 hz1 hz2 rfl (by decide) _ _ _ rfl (World.ownsRow.alloc HO.out _) ⟨w'.heap.size, 0, none⟩ 1 1 [.int .i64 0, .bool false] rfl rfl ?c1 ?c2 (by decide) ?c3 ?c4 (Nat.zero_le _) _ rfl ?_))
  case c1 => exact World.news_of_block (heap_alloc_new w' _)
  case c2 => intro u hu; simp at hu; rcases hu with rfl | rfl <;> rfl
  case c3 => unfold maxLen; omega
  case c4 => omega
  intro g cap' w2 hown hgr hat hg2
  have ho2 : Owns elSlot w2 111 (.slice (some ⟨g, 0, none⟩) (l ++ [(0, false)]).length cap') (l ++ [(0, false)]) := by
    unfold Owns; rw [List.flatMap_append, List.length_append]; exact hown
  have hblk : ∀ k, (Value.slice a l.length cap).ownBlock = some k → F k ∧ k ≠ p ∧ k < w.heap.size := fun k hk => ⟨(HV.out k hk).1, (HV.out k hk).2, HS.out.lt k (HV.out k hk).1⟩
  have hpw : p < w.heap.size := HS.out.lt p hF
  have hgg : g ≠ p ∧ g ≠ w.heap.size ∧ (F g ∨ w.heap.size ≤ g) := by
    rcases hat with e | e
    · obtain ⟨h1, h2, h3⟩ := hblk g e; exact ⟨h2, by omega, .inl h1⟩
    · exact ⟨by omega, by omega, .inr (by omega)⟩
  obtain ⟨hgp, hgr0, hgF⟩ := hgg
  have hfar : ∀ k, k < w'.heap.size → (∀ q, (Value.slice a l.length cap).ownBlock = some q → k ≠ q) → w2.heap[k]? = w'.heap[k]? := fun k hk hne => by
    rw [hgr.block k (by simp; omega) (fun e => hne k e.symm rfl), Below.heap_alloc _ _ _ hk]
  have hp2 : w2.heap[p]? = some (.cells (.slice a l.length cap :: rest).toArray T (0, 0)) := by rw [hfar p (by omega) (fun q hq => (Ne.symm (hblk q hq).2.1))]; exact HP.out
  have hr2 : w2.heap[w.heap.size]? = w'.heap[w.heap.size]? := hfar _ hgt (fun q hq => by have := (hblk q hq).2.2; omega)
  have cp2 : w2.cell? ⟨p, 0, none⟩ = some (.slice a l.length cap) := by rw [cell_of_row _ _ _ _ _ _ hp2]; simp
  have fp2 : w2.frozen? ⟨p, 0, none⟩ = false := frozen_of_row _ _ _ _ _ hp2
  have k0' : w2.cell? ⟨w.heap.size, 0, none⟩ = some (.int .i64 0) := by rw [World.cell?_of_block (a := ⟨w.heap.size, 0, none⟩) hr2]; exact k0
  have k1' : w2.cell? ⟨w.heap.size, 1, none⟩ = some (.int .i64 0) := by rw [World.cell?_of_block (a := ⟨w.heap.size, 1, none⟩) hr2]; exact k1
  have z0' : w2.frozen? ⟨w.heap.size, 0, none⟩ = false := by rw [World.frozen?_of_block (a := ⟨w.heap.size, 0, none⟩) hr2]; exact z0
  have z1' : w2.frozen? ⟨w.heap.size, 1, none⟩ = false := by rw [World.frozen?_of_block (a := ⟨w.heap.size, 1, none⟩) hr2]; exact z1
  have hsz2 : w'.heap.size < w2.heap.size := by have := hgr.size; simp at this; omega
  have HK2 : Hid (Kept F w w2) := Lib.hid ((Kept.ofBelow HB.out).trans ((Kept.alloc F w' _).trans (Kept.grown hgr (fun k hk => (hblk k hk).1)) (fun _ h => .inl h)) (fun _ h => .inl h))
  obtain ⟨g', cap'', e', _, _, c0, c1, hfz⟩ := ho2.open2 rfl (k := l.length) (by simp)
  simp only [Value.slice.injEq, Option.some.injEq, Addr.mk.injEq, and_true, true_and] at e'
  obtain ⟨rfl, rfl⟩ := e'
  rw [show elSlot.zero = slotZ from rfl, getD_append_last] at c0 c1
  have c0' : w2.cell? ⟨g, l.length * 2, none⟩ = some (.int .i64 0) := c0
  have c1' : w2.cell? ⟨g, l.length * 2 + 1, none⟩ = some (.bool false) := c1
  have f1 := hfz (l.length * 2 + 1)
  clear c0 c1 hfz
  have hKp : Kept (fun k => k = p) w2 (w2.setCell ⟨p, 0, none⟩ (.slice (some ⟨g, 0, none⟩) (l.length + 1) cap')) := Kept.setCell (F := fun k => k = p) _ (p := ⟨p, 0, none⟩) rfl _
  have HD := Lib.hid (slotsIn_flag (T := T) (rest := rest) (p := p) (g := g) (cap := cap') (c := true) (i := l.length) (F := fun k => F k ∨ k = g) (l := l ++ [(0, false)]) (w := w2.setCell ⟨p, 0, none⟩ (.slice (some ⟨g, 0, none⟩) (l.length + 1) cap'))
    (by rw [heap_setCell_same _ _ _ _ _ _ hp2]; simp) (.inl hF) (.inr rfl) hgp (fun k hk => by rcases hk with hk | rfl; · have := hlt k hk; simp; omega
                                                                                               · simpa using hg2)
    (ho2.kept hKp (fun k hk => by simp [Value.ownBlock] at hk; subst hk; exact hgp)) (by simp))
  have hpg : ¬ p = g := Ne.symm hgp
  have hgr1 : ¬ w.heap.size = g := Ne.symm hgr0
  have hpr : ¬ p = w.heap.size := by omega
  have hrp : ¬ w.heap.size = p := by omega
  have HKP := Lib.hid hKp
  have HBLK := Lib.hid hblk
  clear hKp hown hgr ho2 hp2 hfar hblk hr2 k0 k1 z0 z1 cp fp hat cp0
  go_wp2
  refine bodyPost_ret (v := .tuple #[.agg #[.int .i64 l.length, .int .i64 0], .int .i64 0]) (by simp [results, Try.results55, go_sem, k0', k1']) rfl ⟨HRES.out, fun k => F k ∨ k = g, ?_⟩
  obtain ⟨hs, hk⟩ := HD.out
  have eset : (l ++ [((0 : Int), false)]).set l.length ((0 : Int), true) = l ++ [((0 : Int), true)] := by simp
  rw [getD_append_last, eset] at hs
  have hk2 := kept_two w.heap.size
  have hmv : Moves w F (fun k => F k ∨ k = g) := fun k hk => by rcases hk with hk | rfl; · exact .inl hk
                                                                · exact hgF
  rw [HL.out]
  refine ⟨hs.kept (hk2 _ _ _) (fun k hk => ?_), ?_, hmv⟩
  · rcases hk with hk | rfl
    · have := HS.out.lt k hk; omega
    · exact hgr0
  · exact ((HK2.out.trans HKP.out (fun k hk => by rw [hk]; exact .inl hF)).next hmv hk).trans (hk2 _ _ _) (fun _ h => .inr (by omega))

theorem take_any (p : Nat) (F : Nat → Prop) (l : List (Int × Bool)) (w : World) (h : SlotsIn w p T rest F l) (ok : SlotOk l) :
    Calls Try.prog 55 #[.pointer (some ⟨p, 0, none⟩)] w (TakePost w p T rest F l) := by
  by_cases h1 : firstFree l < l.length
  · exact take_old p F l w h ok h1
  · by_cases h2 : l.length < 60
    · exact take_new p F l w h h1 h2
    · exact take_no p F l w h h1 h2
end Go.Proofs.Ytakoejopgdaknaa

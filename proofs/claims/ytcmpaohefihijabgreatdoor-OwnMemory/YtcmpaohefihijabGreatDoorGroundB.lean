/- Contracts and plain facts, several texts in one. -/
import Derived.StillTailTactics
import Derived.IntWalk
import Derived.Test.YtcmpaohefihijabGreatDoorGroundA
/- Slots in memory: the object of package slots; the contracts of New, isSlot, IndexFunc with Take's literal, Live, Free, Take. -/
namespace Go.Proofs.YtcmpaohefihijabGreatDoor
set_option maxRecDepth 8000
open Go.RowKit

def elSlot : El (Int × Bool) := { enc := fun x => [.int .i64 x.1, .bool x.2], size := 2, zero := slotZ, len := fun _ => rfl, pos := by decide, one := fun x u hu => by simp at hu; rcases hu with rfl | rfl <;> rfl }

/-- At the head of block p lie slots l, in the blocks F (behind them: rest). -/
def SlotsIn (w : World) (p : Nat) (T : TypeId) (rest : List Value) (F : Nat → Prop) (l : List (Int × Bool)) : Prop :=
  ∃ v, w.heap[p]? = some (.cells (v :: rest).toArray T (0, 0)) ∧ Owns elSlot w 142 v l ∧ F p ∧ (∀ k, v.ownBlock = some k → F k ∧ k ≠ p) ∧ (∀ k, F k → k < w.heap.size)
/-- Slots in a block of their own. -/
abbrev SlotsAt (w : World) (p : Nat) (F : Nat → Prop) (l : List (Int × Bool)) : Prop := SlotsIn w p 67 [] F l

variable {T : TypeId} {rest : List Value}
theorem SlotsIn.kept {w w' : World} {p : Nat} {F G : Nat → Prop} {l : List (Int × Bool)} (h : SlotsIn w p T rest F l) (hk : Kept G w w') (hf : ∀ k, F k → ¬ G k) : SlotsIn w' p T rest F l := by
  obtain ⟨v, hp, ho, hF, hv, hlt⟩ := h
  refine ⟨v, ?_, ho.kept hk (fun k e => hf k (hv k e).1), hF, hv, fun k hk' => Nat.lt_of_lt_of_le (hlt k hk') hk.size⟩
  rw [hk.block p (hlt p hF) (hf p hF)]; exact hp
theorem SlotsIn.later {w w' : World} {p : Nat} {F : Nat → Prop} {l : List (Int × Bool)} (h : SlotsIn w p T rest F l) (hb : Below w.heap.size w w') : SlotsIn w' p T rest F l :=
  h.kept (G := fun _ => False) (Kept.ofBelow hb) (fun _ _ f => f)
theorem SlotsIn.lt {w : World} {p : Nat} {F : Nat → Prop} {l : List (Int × Bool)} (h : SlotsIn w p T rest F l) : ∀ k, F k → k < w.heap.size := by
  obtain ⟨v, hp, ho, hF, hv, hlt⟩ := h; exact hlt

set_option maxHeartbeats 400000 in
theorem isSlot_any (v : Value) (l : List (Int × Bool)) (i : Int) (w : World) (h : Reads elSlot w v l) :
    Calls Tryz.prog 111 #[v, .int .i64 i] w fun e w' => e = .returned (.bool (inB i 0 (l.length - 1))) ∧ w = w' := by
  obtain ⟨a, cap, rfl, _, _, _⟩ := h
  go_enter Tryz.func111, Tryz.ntmps111
  go_wp2
  all_goals (go_ret; refine ⟨ret_bool (Bool.eq_iff_iff.2 ?_), rfl⟩; simp [inB]; try omega)

set_option maxHeartbeats 400000 in
theorem takeLit_any (x : Int × Bool) (w : World) :
    Calls Tryz.prog 91 #[.agg #[.int .i64 x.1, .bool x.2]] w fun e w' => e = .returned (.bool (freeB x)) ∧ Below w.heap.size w w' := by
  obtain ⟨g, b⟩ := x
  cases b
  all_goals
    go_enter Tryz.func91, Tryz.ntmps91
    go_wp2
    all_goals (go_ret; exact ⟨ret_bool (by simp [freeB, *]), nb_alloc (Below.refl _ _) _⟩)

/-- what IndexFunc answers -/
def ffI (l : List (Int × Bool)) : Int := if firstFree l < l.length then (firstFree l : Int) else -1

set_option maxHeartbeats 1000000 in
theorem indexFunc_any (v : Value) (l : List (Int × Bool)) (w : World) (h : Reads elSlot w v l) :
    Calls Tryz.prog 90 #[v, .func (.func 91) #[] #[]] w fun e w' => e = .returned (.int .i64 (ffI l)) ∧ Below w.heap.size w w' := by
  obtain ⟨hm, h⟩ := h.open
  unfold maxLen at hm
  generalize hn : l.length = n at *
  have HN := Lib.hid hn
  clear hn
  rcases h with ⟨a, cap, rfl, hz⟩ | ⟨b, off, cap, rfl, hb, hlc, hcm, hc⟩
  all_goals
    go_enter Tryz.func90, Tryz.ntmps90
    go_wp2
    go_loopw [8] (fun i wr => ∃ k : Nat, k ≤ n ∧ i = .int .i64 k ∧ Hid (∀ j, j < k → freeB (l.getD j slotZ) = false) ∧ Hid (Below w.heap.size w wr)) (fun i _ => n - (intOf i).toNat)
    case atStart => exact ⟨0, by omega, rfl, fun j hj => by omega, Below.refl _ _⟩
    case round =>
      obtain ⟨k, hk, rfl, hno, hB⟩ := hrel
      by_cases hlt : k < n
      · first
          | omega
          | (obtain ⟨c0, c1⟩ := cells2 rfl hc hlt
             clear hc
             have c0' : wr.cell? ⟨b, off + k * 2, none⟩ = some (.int .i64 (l.getD k slotZ).1) := by rw [hB.out.cell (p := ⟨b, _, none⟩) hb, c0]; rfl
             have c1' : wr.cell? ⟨b, off + k * 2 + 1, none⟩ = some (.bool (l.getD k slotZ).2) := by rw [hB.out.cell (p := ⟨b, _, none⟩) hb, c1]; rfl
             clear c0 c1
             have HF : Hid (freeB (l.getD k slotZ) = true → ffI l = k) := Lib.hid (fun hf => by
               have e := firstFree_eq (by rw [HN.out]; exact hlt) hno.out hf
               rw [ffI, e, if_pos (by rw [HN.out]; exact hlt)])
             generalize hg : l.getD k slotZ = x at *
             have HX := Lib.hid hg
             clear hg
             cases hf : freeB x
             · go_wp2_with fail

               refine (takeLit_any x _).mono ?_
               rintro e w' ⟨rfl, hb'⟩
               rw [hf]
               have HB := Lib.hid (nb_trans hB.out hb')
               clear hb' hB
               go_wp2
               go_roundw
               case rel => exact ⟨k + 1, by omega, by go_num, fun j hj => if e : j = k then by rw [e, HX.out]; exact hf else hno.out j (by omega), HB⟩
               case measure => simp [intOf]; omega
             · go_wp2_with fail
               refine (takeLit_any x _).mono ?_
               rintro e w' ⟨rfl, hb'⟩
               rw [hf]
               have HB := Lib.hid (nb_trans hB.out hb')
               clear hb' hB
               go_wp2
               go_ret
               exact ⟨ret_int (HF.out hf).symm, HB.out⟩)
      · obtain rfl : k = n := by omega
        go_wp2
        go_ret
        exact ⟨ret_int (by rw [ffI, firstFree_none (by rw [HN.out]; exact hno.out), if_neg (by omega)]), hB.out⟩
end Go.Proofs.YtcmpaohefihijabGreatDoor

/- The contracts of Live and Free of package slots. -/
namespace Go.Proofs.YtcmpaohefihijabGreatDoor
set_option maxRecDepth 8000
open Go.RowKit
variable {T : TypeId} {rest : List Value}

theorem Later.cellB {w : World} (x : Later w) {b o : Nat} {v : Value} (h : w.cell? ⟨b, o, none⟩ = some v) : x.w.cell? ⟨b, o, none⟩ = some v := x.cell h
theorem Calls.laterSame {P : Program} {f : FuncId} {args : Array Value} {w : World} {n : Later w} {v : Value}
    (h : Calls P f args n.w fun e w' => e = .returned v ∧ n.w = w') : Calls P f args n.w fun e w'' => e = .returned v ∧ ∃ m : Later w, w'' = m.w :=
  h.mono fun _ _ ⟨he, hb⟩ => ⟨he, n, hb.symm⟩

theorem isSlot_is {v : Value} {l : List (Int × Bool)} {i : Int} {r : Bool} {w : World} (h : Reads elSlot w v l) (hr : inB i 0 (l.length - 1) = r) :
    Calls Tryz.prog 111 #[v, .int .i64 i] w fun e w' => e = .returned (.bool r) ∧ w = w' := hr ▸ isSlot_any v l i w h

theorem liveB_in {l : List (Int × Bool)} {a b : Int} (h : inB a 0 (l.length - 1) = false) : liveB l a b = false := by rw [liveB, h]; rfl
theorem liveB_at {l : List (Int × Bool)} {b : Int} {i : Nat} (h : inB (i : Int) 0 (l.length - 1) = true) : liveB l i b = ((l.getD i slotZ).1 == b && (l.getD i slotZ).2) := by rw [liveB, h]; rfl

set_option maxHeartbeats 1000000 in
theorem live_any (p : Nat) (F : Nat → Prop) (l : List (Int × Bool)) (a b : Int) (w : World) (h : SlotsIn w p T rest F l) :
    Calls Tryz.prog 76 #[.pointer (some ⟨p, 0, none⟩), .agg #[.int .i64 a, .int .i64 b]] w fun e w' => e = .returned (.bool (liveB l a b)) ∧ Below w.heap.size w w' := by
  have hp0 : p < w.heap.size := by obtain ⟨v, hp, ho, hF, hv, hlt⟩ := h; exact hlt p hF
  obtain ⟨v, hp, ho, hF, hv, hlt⟩ := h.later (nb_alloc (Below.refl _ _) (.cells #[.int .i64 a, .int .i64 b] 34))
  have hR := Lib.hid ho.reads
  have cp : (w.alloc (.cells #[.int .i64 a, .int .i64 b] 34)).cell? ⟨p, 0, none⟩ = some v := by rw [cell_of_row _ _ _ _ _ _ hp]; simp
  have kp : ∀ x : Later (w.alloc (.cells #[.int .i64 a, .int .i64 b] 34)), x.w.cell? ⟨p, 0, none⟩ = some v := fun x => x.cell cp
  have k0 : ∀ x : Later (w.alloc (.cells #[.int .i64 a, .int .i64 b] 34)), x.w.cell? ⟨w.heap.size, 0, none⟩ = some (.int .i64 a) := fun x => x.cell (by simp)
  have k1 : ∀ x : Later (w.alloc (.cells #[.int .i64 a, .int .i64 b] 34)), x.w.cell? ⟨w.heap.size, 1, none⟩ = some (.int .i64 b) := fun x => x.cell (by simp)
  clear hp hF hv hlt
  cases hin : inB a 0 (l.length - 1)
  · have HR := Lib.hid (liveB_in (b := b) hin)
    clear cp
    go_enter Tryz.func76, Tryz.ntmps76
    go_wp2_with fail
    refine wp_region_later (by kernel_rfl) (by kernel_rfl) ?_
    repeat (go_big_quiet_step ((first | (go_at_call 111; exact Calls.laterSame (isSlot_is (hR.out.later (Later.below _)) hin)))))
    refine wpQuiet_nil ?_
    rintro _ ⟨nq, rfl⟩
    go_wp2
    go_ret
    exact ⟨ret_bool HR.out.symm, nb_trans (nb_alloc (Below.refl _ _) _) nq.below⟩
  · obtain ⟨i, rfl⟩ := Int.eq_ofNat_of_zero_le (inB_t hin).1
    have hil : i < l.length := by have := (inB_t hin).2; omega
    have HR := Lib.hid (liveB_at (b := b) hin)
    obtain ⟨hm, ⟨_, _, rfl, hz⟩ | ⟨g, off, cap, rfl, hb, hlc, hcm, hc⟩⟩ := hR.out.open
    · omega
    · obtain ⟨c0, c1⟩ := cells2 rfl hc hil
      clear hc cp
      have c0' : ∀ x : Later (w.alloc (.cells #[.int .i64 i, .int .i64 b] 34)), x.w.cell? ⟨g, off + i * 2, none⟩ = some (.int .i64 (l.getD i slotZ).1) := fun x => x.cell c0
      have c1' : ∀ x : Later (w.alloc (.cells #[.int .i64 i, .int .i64 b] 34)), x.w.cell? ⟨g, off + i * 2 + 1, none⟩ = some (.bool (l.getD i slotZ).2) := fun x => x.cell c1
      clear c0 c1
      generalize hn : l.length = n at *
      have HN := Lib.hid hn
      clear hn
      have hin' : inB (i : Int) 0 (l.length - 1) = true := by rw [HN.out]; exact hin
      have HI := Lib.hid hin'
      clear hin hin'
      unfold maxLen at hm
      generalize hg : l.getD i slotZ = x at *
      obtain ⟨x1, x2⟩ := x
      cases x2 <;> cases hx : (x1 == b)
      all_goals
        go_enter Tryz.func76, Tryz.ntmps76
        go_wp2_with fail
        refine wp_region_later (by kernel_rfl) (by kernel_rfl) ?_
        repeat (go_big_quiet_step ((first | (go_at_call 111; exact Calls.laterSame (isSlot_is (hR.out.later (Later.below _)) HI.out)))))

        refine wpQuiet_nil ?_
        rintro _ ⟨nq, rfl⟩
        go_wp2
        go_ret
        exact ⟨ret_bool (by rw [HR.out]; simp [hx]), nb_trans (nb_alloc (Below.refl _ _) _) nq.below⟩
end Go.Proofs.YtcmpaohefihijabGreatDoor

/- The contract of Free of package slots. -/
namespace Go.Proofs.YtcmpaohefihijabGreatDoor
set_option maxRecDepth 8000
open Go.RowKit
variable {T : TypeId} {rest : List Value}


/-- A slot is written as a whole. -/
theorem slotsIn_store {w : World} {p g cap i : Nat} {F : Nat → Prop} {l : List (Int × Bool)} {b : Int} {c : Bool}
    (hp : w.heap[p]? = some (.cells (.slice (some ⟨g, 0, none⟩) l.length cap :: rest).toArray T (0, 0))) (hF : F p) (hv : ∀ k, (Value.slice (some ⟨g, 0, none⟩) l.length cap).ownBlock = some k → F k ∧ k ≠ p) (hlt : ∀ k, F k → k < w.heap.size)
    (ho : Owns elSlot w 142 (.slice (some ⟨g, 0, none⟩) l.length cap) l) (hi : i < l.length) :
    SlotsIn ((w.setCell ⟨g, i * 2, none⟩ (.int .i64 b)).setCell ⟨g, i * 2 + 1, none⟩ (.bool c)) p T rest F (l.set i (b, c)) ∧ Kept F w ((w.setCell ⟨g, i * 2, none⟩ (.int .i64 b)).setCell ⟨g, i * 2 + 1, none⟩ (.bool c)) := by
  obtain ⟨hFg, hgp⟩ := hv g rfl
  have o1 := ho.stored i 0 (b, (l.getD i slotZ).2) (.int .i64 b) hi (by decide) rfl
  have o2 := o1.stored i 1 (b, c) (.bool c) (by simpa using hi) (by decide) (by rw [show elSlot.zero = slotZ from rfl, getD_set_eq _ _ _ _ hi]; rfl)
  rw [List.set_set] at o2
  refine ⟨⟨_, ?_, o2, hF, hv, fun k hk => by simpa using hlt k hk⟩, (Kept.setCell _ (p := ⟨g, i * 2, none⟩) hFg _).trans (Kept.setCell _ (p := ⟨g, i * 2 + 1, none⟩) hFg _) (fun _ h => .inl h)⟩
  rw [heap_setCell_other _ _ _ _ (Ne.symm hgp), heap_setCell_other _ _ _ _ (Ne.symm hgp)]
  exact hp

theorem freeL_dead {l : List (Int × Bool)} {a b : Int} (h : liveB l a b = false) : freeL l a b = l := by rw [freeL, h]; rfl
theorem freeE_dead {l : List (Int × Bool)} {a b : Int} (h : liveB l a b = false) : freeE l a b = 7 := by rw [freeE, h]; rfl
theorem freeL_live {l : List (Int × Bool)} {a b : Int} (h : liveB l a b = true) : freeL l a b = l.set a.toNat (b + 1, false) := by rw [freeL, h]; rfl
theorem freeE_live {l : List (Int × Bool)} {a b : Int} (h : liveB l a b = true) : freeE l a b = 0 := by rw [freeE, h]; rfl

set_option maxHeartbeats 1000000 in
theorem free_any (p : Nat) (F : Nat → Prop) (l : List (Int × Bool)) (a b : Int) (w : World) (h : SlotsIn w p T rest F l) (ok : SlotOk l) :
    Calls Tryz.prog 121 #[.pointer (some ⟨p, 0, none⟩), .agg #[.int .i64 a, .int .i64 b]] w fun e w' => e = .returned (.int .i64 (freeE l a b)) ∧ SlotsIn w' p T rest F (freeL l a b) ∧ Kept F w w' := by
  have HS := Lib.hid (h.later (nb_alloc (Below.refl _ _) (.cells #[.int .i64 a, .int .i64 b] 34)))
  have HS0 := Lib.hid h
  clear h
  cases hl : liveB l a b
  · have HE := Lib.hid (freeE_dead hl)
    have HL := Lib.hid (freeL_dead hl)
    go_enter Tryz.func121, Tryz.ntmps121
    go_wp2_with fail
    refine (live_any p F l a b _ HS.out).mono ?_
    rintro e w' ⟨rfl, hb'⟩
    rw [hl]
    have HB := Lib.hid (nb_trans (nb_alloc (Below.refl _ _) _) hb')
    clear hb'
    go_wp2
    go_ret
    exact ⟨ret_int HE.out.symm, by rw [HL.out]; exact HS0.out.later HB.out, Kept.ofBelow HB.out⟩
  · have HE := Lib.hid (freeE_live hl)
    have HL := Lib.hid (freeL_live hl)
    obtain ⟨h0, h1, h2⟩ := liveB_iff.1 hl
    obtain ⟨i, rfl⟩ := Int.eq_ofNat_of_zero_le h0
    have hil : i < l.length := by omega
    rw [Int.toNat_natCast] at HL h2
    have hg0 := ok.gen i hil
    rw [h2] at hg0
    obtain ⟨b0, b1⟩ := hg0
    simp only at b0 b1
    have H2 := Lib.hid h2
    have HO := Lib.hid ok
    clear h2 h0 h1 ok
    go_enter Tryz.func121, Tryz.ntmps121
    go_wp2_with fail
    refine (live_any p F l i b _ HS.out).mono ?_
    rintro e w' ⟨rfl, hb'⟩
    rw [hl]
    obtain ⟨v, hp, ho, hF, hv, hlt⟩ := HS.out.later hb'
    have k0 : w'.cell? ⟨w.heap.size, 0, none⟩ = some (.int .i64 i) := by rw [hb'.cell (p := ⟨w.heap.size, 0, none⟩) (by simp)]; simp
    have k1 : w'.cell? ⟨w.heap.size, 1, none⟩ = some (.int .i64 b) := by rw [hb'.cell (p := ⟨w.heap.size, 1, none⟩) (by simp)]; simp
    have HB := Lib.hid (nb_trans (nb_alloc (Below.refl _ _) _) hb')
    clear hb'
    have cp : w'.cell? ⟨p, 0, none⟩ = some v := by rw [cell_of_row _ _ _ _ _ _ hp]; simp
    obtain ⟨g, cap, rfl, hg, hm, c0, c1, hfz⟩ := ho.open2 rfl hil
    have c0' : w'.cell? ⟨g, i * 2, none⟩ = some (.int .i64 b) := by rw [c0, show elSlot.zero = slotZ from rfl, H2.out]; rfl
    have c1' : w'.cell? ⟨g, i * 2 + 1, none⟩ = some (.bool true) := by rw [c1, show elSlot.zero = slotZ from rfl, H2.out]; rfl
    have f0 := hfz (i * 2)
    have f1 := hfz (i * 2 + 1)
    clear hfz c0 c1
    have HP := Lib.hid hp
    have HOW := Lib.hid ho
    have HV := Lib.hid hv
    clear hp ho hv
    unfold maxLen at hm
    have hwr : IntKind.i64.wrap (b + 1) = b + 1 := IntWalk.i64_in _ (by omega)
    go_wp2_with fail
    go_still_tail 11, (by kernel_rfl)
    clear hwr
    change wpList _ _ _ _ _ w'.drew
    have HD := Lib.hid (slotsIn_store (g := g) (cap := cap) (b := b + 1) (c := false) (w := w'.drew) HP.out hF HV.out hlt HOW.out hil)
    go_wp2
    go_ret
    obtain ⟨hs, hk⟩ := HD.out
    exact ⟨ret_int HE.out.symm, by rw [HL.out]; exact hs, (Kept.ofBelow HB.out).trans ((Kept.drew F w').trans hk (fun _ h => .inl h)) (fun _ h => .inl h)⟩
end Go.Proofs.YtcmpaohefihijabGreatDoor

/- The contract of Take of package slots. -/
namespace Go.Proofs.YtcmpaohefihijabGreatDoor
set_option maxRecDepth 8000
open Go.RowKit
variable {T : TypeId} {rest : List Value}

theorem infoSlot : (Tryz.prog.info? 142).map (fun i => (i.zero, i.size, i.bytes)) = some (some (.agg #[.int .i64 0, .bool false]), 2, 16) := by kernel_rfl

theorem takeL_old {l : List (Int × Bool)} (h : firstFree l < l.length) : takeL l = l.set (firstFree l) ((l.getD (firstFree l) slotZ).1, true) := by rw [takeL, if_pos h]
theorem takeH_old {l : List (Int × Bool)} (h : firstFree l < l.length) : takeH l = ((firstFree l : Int), (l.getD (firstFree l) slotZ).1) := by rw [takeH, if_pos h]
theorem takeE_old {l : List (Int × Bool)} (h : firstFree l < l.length) : takeE l = 0 := by rw [takeE, if_pos h]
theorem takeL_new {l : List (Int × Bool)} (h : ¬ firstFree l < l.length) (h' : l.length < 60) : takeL l = l ++ [(0, true)] := by rw [takeL, if_neg h, if_pos h']
theorem takeH_new {l : List (Int × Bool)} (h : ¬ firstFree l < l.length) (h' : l.length < 60) : takeH l = ((l.length : Int), 0) := by rw [takeH, if_neg h, if_pos h']
theorem takeE_new {l : List (Int × Bool)} (h : ¬ firstFree l < l.length) (h' : l.length < 60) : takeE l = 0 := by rw [takeE, if_neg h, if_pos h']
theorem takeL_no {l : List (Int × Bool)} (h : ¬ firstFree l < l.length) (h' : ¬ l.length < 60) : takeL l = l := by rw [takeL, if_neg h, if_neg h']
theorem takeH_no {l : List (Int × Bool)} (h : ¬ firstFree l < l.length) (h' : ¬ l.length < 60) : takeH l = (0, 0) := by rw [takeH, if_neg h, if_neg h']
theorem takeE_no {l : List (Int × Bool)} (h : ¬ firstFree l < l.length) (h' : ¬ l.length < 60) : takeE l = 2 := by rw [takeE, if_neg h, if_neg h']

theorem ret_take {l : List (Int × Bool)} {a b e : Int} (h : takeH l = (a, b)) (h' : takeE l = e) : Ending.returned (.tuple #[.agg #[.int .i64 a, .int .i64 b], .int .i64 e]) = .returned (.tuple #[.agg #[.int .i64 (takeH l).1, .int .i64 (takeH l).2], .int .i64 (takeE l)]) := by rw [h, h']

/-- One flag of a slot is written. -/
theorem slotsIn_flag {w : World} {p g cap i : Nat} {F : Nat → Prop} {l : List (Int × Bool)} {c : Bool}
    (hp : w.heap[p]? = some (.cells (.slice (some ⟨g, 0, none⟩) l.length cap :: rest).toArray T (0, 0))) (hF : F p) (hFg : F g) (hgp : g ≠ p) (hlt : ∀ k, F k → k < w.heap.size)
    (ho : Owns elSlot w 142 (.slice (some ⟨g, 0, none⟩) l.length cap) l) (hi : i < l.length) :
    SlotsIn (w.setCell ⟨g, i * 2 + 1, none⟩ (.bool c)) p T rest F (l.set i ((l.getD i slotZ).1, c)) ∧ Kept F w (w.setCell ⟨g, i * 2 + 1, none⟩ (.bool c)) := by
  have o2 := ho.stored i 1 ((l.getD i slotZ).1, c) (.bool c) hi (by decide) rfl
  refine ⟨⟨_, ?_, o2, hF, fun k hk => ?_, fun k hk => by simpa using hlt k hk⟩, Kept.setCell _ (p := ⟨g, i * 2 + 1, none⟩) hFg _⟩
  · rw [heap_setCell_other _ _ _ _ (Ne.symm hgp)]
    exact hp
  · have : g = k := by simpa [Value.ownBlock] using hk
    subst this; exact ⟨hFg, hgp⟩

theorem kept_two (b : Nat) (x : World) (u u' : Value) : Kept (fun k => k = b) x ((x.setCell ⟨b, 0, none⟩ u).setCell ⟨b, 1, none⟩ u') :=
  (Kept.setCell (F := fun k => k = b) x (p := ⟨b, 0, none⟩) rfl u).trans (Kept.setCell (F := fun k => k = b) _ (p := ⟨b, 1, none⟩) rfl u') (fun _ h => .inl h)

def TakePost (w : World) (p : Nat) (T : TypeId) (rest : List Value) (F : Nat → Prop) (l : List (Int × Bool)) (e : Ending) (w' : World) : Prop :=
  e = .returned (.tuple #[.agg #[.int .i64 (takeH l).1, .int .i64 (takeH l).2], .int .i64 (takeE l)]) ∧ ∃ F', SlotsIn w' p T rest F' (takeL l) ∧ Kept F w w' ∧ Moves w F F'

set_option maxHeartbeats 2000000 in
theorem take_old (p : Nat) (F : Nat → Prop) (l : List (Int × Bool)) (w : World) (h : SlotsIn w p T rest F l) (ok : SlotOk l) (hff : firstFree l < l.length) :
    Calls Tryz.prog 55 #[.pointer (some ⟨p, 0, none⟩)] w (TakePost w p T rest F l) := by
  have HS := Lib.hid (h.later (nb_alloc (Below.refl _ _) (.cells #[.int .i64 0, .int .i64 0] 34)))
  have hpw := h.lt
  obtain ⟨v0, hp0, ho0, _, _, hlt0⟩ := HS.out
  have cp0 : (w.alloc (.cells #[.int .i64 0, .int .i64 0] 34)).cell? ⟨p, 0, none⟩ = some v0 := by rw [cell_of_row _ _ _ _ _ _ hp0]; simp
  have HR := Lib.hid ho0.reads
  clear hp0 ho0 hlt0 h
  have hlen := ok.len
  have HFF : Hid (ffI l = (firstFree l : Int)) := Lib.hid (by rw [ffI, if_pos hff])
  have HRES := Lib.hid (ret_take (takeH_old hff) (takeE_old hff))
  have HL := Lib.hid (takeL_old hff)
  clear ok
  generalize firstFree l = i at *
  go_enter Tryz.func55, Tryz.ntmps55
  go_wp2_with fail
  refine (indexFunc_any _ l _ HR.out).mono ?_
  rintro e w' ⟨rfl, hb'⟩
  rw [HFF.out]
  obtain ⟨v, hp, ho, hF, hv, hlt⟩ := HS.out.later hb'
  have k0 : w'.cell? ⟨w.heap.size, 0, none⟩ = some (.int .i64 0) := by rw [hb'.cell (p := ⟨w.heap.size, 0, none⟩) (by simp)]; simp
  have k1 : w'.cell? ⟨w.heap.size, 1, none⟩ = some (.int .i64 0) := by rw [hb'.cell (p := ⟨w.heap.size, 1, none⟩) (by simp)]; simp
  have z0 : w'.frozen? ⟨w.heap.size, 0, none⟩ = false := by rw [hb'.frozen (p := ⟨w.heap.size, 0, none⟩) (by simp)]; simp
  have z1 : w'.frozen? ⟨w.heap.size, 1, none⟩ = false := by rw [hb'.frozen (p := ⟨w.heap.size, 1, none⟩) (by simp)]; simp
  have HB := Lib.hid (nb_trans (nb_alloc (Below.refl _ _) _) hb')
  have hgt : w.heap.size < w'.heap.size := by have := hb'.size; simp at this; omega
  clear hb'
  have cp : w'.cell? ⟨p, 0, none⟩ = some v := by rw [cell_of_row _ _ _ _ _ _ hp]; simp
  obtain ⟨g, cap, rfl, hg, hm, c0, c1, hfz⟩ := ho.open2 rfl hff
  have c0' : w'.cell? ⟨g, i * 2, none⟩ = some (.int .i64 (l.getD i slotZ).1) := c0
  have c1' : w'.cell? ⟨g, i * 2 + 1, none⟩ = some (.bool (l.getD i slotZ).2) := c1
  have f1 := hfz (i * 2 + 1)
  clear hfz c0 c1
  obtain ⟨hFg, hgp⟩ := hv g rfl
  have hpg : ¬ p = g := Ne.symm hgp
  have hgw := hpw g hFg
  have hgw1 : ¬ g = w.heap.size := by omega
  have hgw2 : ¬ w.heap.size = g := by omega
  have HD := Lib.hid (slotsIn_flag (g := g) (cap := cap) (c := true) (w := w') hp hF hFg hgp hlt ho hff)
  clear hp ho hv
  generalize hy : l.getD i slotZ = y at *
  clear hy
  unfold maxLen at hm
  go_wp2
  refine bodyPost_ret (v := .tuple #[.agg #[.int .i64 i, .int .i64 y.1], .int .i64 0]) (by simp [results, Tryz.results55, go_sem, k0, k1]) rfl ⟨HRES.out, F, ?_⟩
  obtain ⟨hs, hk⟩ := HD.out
  have hbk : ∀ k, F k → ¬ k = w.heap.size := fun k hk => by have := hpw k hk; omega
  have hk2 := kept_two w.heap.size
  exact ⟨by rw [HL.out]; exact hs.kept (hk2 _ _ _) hbk, ((Kept.ofBelow HB.out).trans hk (fun _ h => .inl h)).trans (hk2 _ _ _) (fun _ h => .inr (by omega)), Moves.refl _ _⟩

theorem take_head {p : Nat} {F : Nat → Prop} {l : List (Int × Bool)} {w : World} (h : SlotsIn w p T rest F l) : ∃ v0, (w.alloc (.cells #[.int .i64 0, .int .i64 0] 34)).cell? ⟨p, 0, none⟩ = some v0 ∧ Reads elSlot (w.alloc (.cells #[.int .i64 0, .int .i64 0] 34)) v0 l := by
  obtain ⟨v0, hp0, ho0, _⟩ := h.later (nb_alloc (Below.refl _ _) (.cells #[.int .i64 0, .int .i64 0] 34))
  exact ⟨v0, by rw [cell_of_row _ _ _ _ _ _ hp0]; simp, ho0.reads⟩

set_option maxHeartbeats 2000000 in
theorem take_no (p : Nat) (F : Nat → Prop) (l : List (Int × Bool)) (w : World) (h : SlotsIn w p T rest F l) (hff : ¬ firstFree l < l.length) (hno : ¬ l.length < 60) :
    Calls Tryz.prog 55 #[.pointer (some ⟨p, 0, none⟩)] w (TakePost w p T rest F l) := by
  have HS := Lib.hid h
  have HS1 := Lib.hid (h.later (nb_alloc (Below.refl _ _) (.cells #[.int .i64 0, .int .i64 0] 34)))
  obtain ⟨v0, cp0, hr⟩ := take_head h
  have HR := Lib.hid hr
  have HFF : Hid (ffI l = -1) := Lib.hid (by rw [ffI, if_neg hff])
  have HRES := Lib.hid (ret_take (takeH_no hff hno) (takeE_no hff hno))
  have HL := Lib.hid (takeL_no hff hno)
  clear h hr hff
  go_enter Tryz.func55, Tryz.ntmps55
  go_wp2_with fail
  refine (indexFunc_any _ l _ HR.out).mono ?_
  rintro e w' ⟨rfl, hb'⟩
  rw [HFF.out]
  obtain ⟨v, hp, ho, _⟩ := HS1.out.later hb'
  have cp : w'.cell? ⟨p, 0, none⟩ = some v := by rw [cell_of_row _ _ _ _ _ _ hp]; simp
  obtain ⟨a, cap, rfl, _, _, _⟩ := ho.reads
  have k0 : w'.cell? ⟨w.heap.size, 0, none⟩ = some (.int .i64 0) := by rw [hb'.cell (p := ⟨w.heap.size, 0, none⟩) (by simp)]; simp
  have k1 : w'.cell? ⟨w.heap.size, 1, none⟩ = some (.int .i64 0) := by rw [hb'.cell (p := ⟨w.heap.size, 1, none⟩) (by simp)]; simp
  have z0 : w'.frozen? ⟨w.heap.size, 0, none⟩ = false := by rw [hb'.frozen (p := ⟨w.heap.size, 0, none⟩) (by simp)]; simp
  have z1 : w'.frozen? ⟨w.heap.size, 1, none⟩ = false := by rw [hb'.frozen (p := ⟨w.heap.size, 1, none⟩) (by simp)]; simp
  have HB := Lib.hid (nb_trans (nb_alloc (Below.refl _ _) _) hb')
  clear hb' hp ho
  go_wp2
  refine bodyPost_ret (v := .tuple #[.agg #[.int .i64 0, .int .i64 0], .int .i64 2]) (by simp [results, Tryz.results55, go_sem, k0, k1]) rfl ⟨HRES.out, F, ?_⟩
  have hk2 := kept_two w.heap.size
  exact ⟨by rw [HL.out]; exact (HS.out.later HB.out).kept (hk2 _ _ _) (fun k hk => by have := HS.out.lt k hk; omega), (Kept.ofBelow HB.out).trans (hk2 _ _ _) (fun _ h => .inr (by omega)), Moves.refl _ _⟩

set_option maxHeartbeats 2000000 in
theorem take_new (p : Nat) (F : Nat → Prop) (l : List (Int × Bool)) (w : World) (h : SlotsIn w p T rest F l) (hff : ¬ firstFree l < l.length) (hno : l.length < 60) :
    Calls Tryz.prog 55 #[.pointer (some ⟨p, 0, none⟩)] w (TakePost w p T rest F l) := by
  obtain ⟨i0, hi, hz0, hz1, hz2⟩ := info_parts infoSlot
  have HS := Lib.hid h
  have HS1 := Lib.hid (h.later (nb_alloc (Below.refl _ _) (.cells #[.int .i64 0, .int .i64 0] 34)))
  obtain ⟨v0, cp0, hr⟩ := take_head h
  have HR := Lib.hid hr
  have HFF : Hid (ffI l = -1) := Lib.hid (by rw [ffI, if_neg hff])
  have HRES := Lib.hid (ret_take (takeH_new hff hno) (takeE_new hff hno))
  have HL := Lib.hid (takeL_new hff hno)
  clear h hr hff
  go_enter Tryz.func55, Tryz.ntmps55
  go_wp2_with fail
  refine (indexFunc_any _ l _ HR.out).mono ?_
  rintro e w' ⟨rfl, hb'⟩
  rw [HFF.out]
  obtain ⟨v, hp, ho, hF, hv, hlt⟩ := HS1.out.later hb'
  have cp : w'.cell? ⟨p, 0, none⟩ = some v := by rw [cell_of_row _ _ _ _ _ _ hp]; simp
  have fp : w'.frozen? ⟨p, 0, none⟩ = false := frozen_of_row _ _ _ _ _ hp
  have k0 : w'.cell? ⟨w.heap.size, 0, none⟩ = some (.int .i64 0) := by rw [hb'.cell (p := ⟨w.heap.size, 0, none⟩) (by simp)]; simp
  have k1 : w'.cell? ⟨w.heap.size, 1, none⟩ = some (.int .i64 0) := by rw [hb'.cell (p := ⟨w.heap.size, 1, none⟩) (by simp)]; simp
  have z0 : w'.frozen? ⟨w.heap.size, 0, none⟩ = false := by rw [hb'.frozen (p := ⟨w.heap.size, 0, none⟩) (by simp)]; simp
  have z1 : w'.frozen? ⟨w.heap.size, 1, none⟩ = false := by rw [hb'.frozen (p := ⟨w.heap.size, 1, none⟩) (by simp)]; simp
  have HB := Lib.hid (nb_trans (nb_alloc (Below.refl _ _) _) hb')
  have hgt : w.heap.size < w'.heap.size := by have := hb'.size; simp at this; omega
  clear hb'
  have HO := Lib.hid ho
  have HV := Lib.hid hv
  have HP := Lib.hid hp
  obtain ⟨a, cap, rfl, _, _, _⟩ := ho.reads
  clear ho hv hp
  go_wp2_with (first | (at_builtin; refine wpList_append_lies _ rfl _ _ 65 rfl 0 142 i0 (.agg #[.int .i64 0, .bool false]) 2 16 Tryz.underlying65 hi hz0 hz1 hz2 rfl (by decide) _ _ _ rfl (World.ownsRow.alloc HO.out _) ⟨w'.heap.size, 0, none⟩ 1 1 [.int .i64 0, .bool false] rfl rfl ?c1 ?c2 (by decide) ?c3 ?c4 (Nat.zero_le _) _ rfl ?_))
  case c1 => exact World.news_of_block (heap_alloc_new w' _)
  case c2 => intro u hu; simp at hu; rcases hu with rfl | rfl <;> rfl
  case c3 => unfold maxLen; omega
  case c4 => omega
  intro g cap' w2 hown hgr hat hg2
  have ho2 : Owns elSlot w2 142 (.slice (some ⟨g, 0, none⟩) (l ++ [(0, false)]).length cap') (l ++ [(0, false)]) := by
    unfold Owns; rw [List.flatMap_append, List.length_append]; exact hown
  have hblk : ∀ k, (Value.slice a l.length cap).ownBlock = some k → F k ∧ k ≠ p ∧ k < w.heap.size := fun k hk => ⟨(HV.out k hk).1, (HV.out k hk).2, HS.out.lt k (HV.out k hk).1⟩
  have hpw : p < w.heap.size := HS.out.lt p hF
  have hgg : g ≠ p ∧ g ≠ w.heap.size ∧ (F g ∨ w.heap.size ≤ g) := by
    rcases hat with e | e
    · obtain ⟨h1, h2, h3⟩ := hblk g e; exact ⟨h2, by omega, .inl h1⟩
    · exact ⟨by omega, by omega, .inr (by omega)⟩
  obtain ⟨hgp, hgr0, hgF⟩ := hgg
  have hfar : ∀ k, k < w'.heap.size → (∀ q, (Value.slice a l.length cap).ownBlock = some q → k ≠ q) → w2.heap[k]? = w'.heap[k]? := fun k hk hne => by
    rw [hgr.block k (by simp; omega) (fun e => hne k e.symm rfl), Below.heap_alloc _ _ _ hk]
  have hp2 : w2.heap[p]? = some (.cells (.slice a l.length cap :: rest).toArray T (0, 0)) := by rw [hfar p (by omega) (fun q hq => (Ne.symm (hblk q hq).2.1))]; exact HP.out
  have hr2 : w2.heap[w.heap.size]? = w'.heap[w.heap.size]? := hfar _ hgt (fun q hq => by have := (hblk q hq).2.2; omega)
  have cp2 : w2.cell? ⟨p, 0, none⟩ = some (.slice a l.length cap) := by rw [cell_of_row _ _ _ _ _ _ hp2]; simp
  have fp2 : w2.frozen? ⟨p, 0, none⟩ = false := frozen_of_row _ _ _ _ _ hp2
  have k0' : w2.cell? ⟨w.heap.size, 0, none⟩ = some (.int .i64 0) := by rw [World.cell?_of_block (a := ⟨w.heap.size, 0, none⟩) hr2]; exact k0
  have k1' : w2.cell? ⟨w.heap.size, 1, none⟩ = some (.int .i64 0) := by rw [World.cell?_of_block (a := ⟨w.heap.size, 1, none⟩) hr2]; exact k1
  have z0' : w2.frozen? ⟨w.heap.size, 0, none⟩ = false := by rw [World.frozen?_of_block (a := ⟨w.heap.size, 0, none⟩) hr2]; exact z0
  have z1' : w2.frozen? ⟨w.heap.size, 1, none⟩ = false := by rw [World.frozen?_of_block (a := ⟨w.heap.size, 1, none⟩) hr2]; exact z1
  have hsz2 : w'.heap.size < w2.heap.size := by have := hgr.size; simp at this; omega
  have HK2 : Hid (Kept F w w2) := Lib.hid ((Kept.ofBelow HB.out).trans ((Kept.alloc F w' _).trans (Kept.grown hgr (fun k hk => (hblk k hk).1)) (fun _ h => .inl h)) (fun _ h => .inl h))
  obtain ⟨g', cap'', e', _, _, c0, c1, hfz⟩ := ho2.open2 rfl (k := l.length) (by simp)
  simp only [Value.slice.injEq, Option.some.injEq, Addr.mk.injEq, and_true, true_and] at e'
  obtain ⟨rfl, rfl⟩ := e'
  rw [show elSlot.zero = slotZ from rfl, getD_append_last] at c0 c1
  have c0' : w2.cell? ⟨g, l.length * 2, none⟩ = some (.int .i64 0) := c0
  have c1' : w2.cell? ⟨g, l.length * 2 + 1, none⟩ = some (.bool false) := c1
  have f1 := hfz (l.length * 2 + 1)
  clear c0 c1 hfz
  have hKp : Kept (fun k => k = p) w2 (w2.setCell ⟨p, 0, none⟩ (.slice (some ⟨g, 0, none⟩) (l.length + 1) cap')) := Kept.setCell (F := fun k => k = p) _ (p := ⟨p, 0, none⟩) rfl _
  have HD := Lib.hid (slotsIn_flag (T := T) (rest := rest) (p := p) (g := g) (cap := cap') (c := true) (i := l.length) (F := fun k => F k ∨ k = g) (l := l ++ [(0, false)]) (w := w2.setCell ⟨p, 0, none⟩ (.slice (some ⟨g, 0, none⟩) (l.length + 1) cap'))
    (by rw [heap_setCell_same _ _ _ _ _ _ hp2]; simp) (.inl hF) (.inr rfl) hgp (fun k hk => by rcases hk with hk | rfl; · have := hlt k hk; simp; omega
                                                                                               · simpa using hg2)
    (ho2.kept hKp (fun k hk => by simp [Value.ownBlock] at hk; subst hk; exact hgp)) (by simp))
  have hpg : ¬ p = g := Ne.symm hgp
  have hgr1 : ¬ w.heap.size = g := Ne.symm hgr0
  have hpr : ¬ p = w.heap.size := by omega
  have hrp : ¬ w.heap.size = p := by omega
  have HKP := Lib.hid hKp
  have HBLK := Lib.hid hblk
  clear hKp hown hgr ho2 hp2 hfar hblk hr2 k0 k1 z0 z1 cp fp hat cp0
  go_wp2
  refine bodyPost_ret (v := .tuple #[.agg #[.int .i64 l.length, .int .i64 0], .int .i64 0]) (by simp [results, Tryz.results55, go_sem, k0', k1']) rfl ⟨HRES.out, fun k => F k ∨ k = g, ?_⟩
  obtain ⟨hs, hk⟩ := HD.out
  have eset : (l ++ [((0 : Int), false)]).set l.length ((0 : Int), true) = l ++ [((0 : Int), true)] := by simp
  rw [getD_append_last, eset] at hs
  have hk2 := kept_two w.heap.size
  have hmv : Moves w F (fun k => F k ∨ k = g) := fun k hk => by rcases hk with hk | rfl; · exact .inl hk
                                                                · exact hgF
  rw [HL.out]
  refine ⟨hs.kept (hk2 _ _ _) (fun k hk => ?_), ?_, hmv⟩
  · rcases hk with hk | rfl
    · have := HS.out.lt k hk; omega
    · exact hgr0
  · exact ((HK2.out.trans HKP.out (fun k hk => by rw [hk]; exact .inl hF)).next hmv hk).trans (hk2 _ _ _) (fun _ h => .inr (by omega))

theorem take_any (p : Nat) (F : Nat → Prop) (l : List (Int × Bool)) (w : World) (h : SlotsIn w p T rest F l) (ok : SlotOk l) :
    Calls Tryz.prog 55 #[.pointer (some ⟨p, 0, none⟩)] w (TakePost w p T rest F l) := by
  by_cases h1 : firstFree l < l.length
  · exact take_old p F l w h ok h1
  · by_cases h2 : l.length < 60
    · exact take_new p F l w h h1 h2
    · exact take_no p F l w h h1 h2
end Go.Proofs.YtcmpaohefihijabGreatDoor

/- The contracts of All and Gens of package slots. -/
namespace Go.Proofs.YtcmpaohefihijabGreatDoor
set_option maxRecDepth 8000
open Go.RowKit
variable {T : TypeId} {rest : List Value}


/-- the generations of the first k, zeros behind -/
def gensTo (l : List (Int × Bool)) (k : Nat) : List Int := (gensL (l.take k)) ++ List.replicate (l.length - k) 0
theorem gensTo_len (l : List (Int × Bool)) (k : Nat) (h : k ≤ l.length) : (gensTo l k).length = l.length := by simp [gensTo, gensL]; omega
theorem gensTo_zero (l : List (Int × Bool)) : gensTo l 0 = List.replicate l.length 0 := by simp [gensTo, gensL]
theorem gensTo_end (l : List (Int × Bool)) : gensTo l l.length = gensL l := by simp [gensTo]
theorem gensTo_next (l : List (Int × Bool)) (k : Nat) (h : k < l.length) : (gensTo l k).set k (l.getD k slotZ).1 = gensTo l (k + 1) := by
  apply List.ext_getElem?
  intro j
  simp only [gensTo, gensL]
  by_cases e : k = j
  · subst e
    rw [List.getElem?_set_self (by simp; omega), List.getElem?_append_left (by simp; omega)]
    simp [List.getElem?_map, List.getD_eq_getElem?_getD, List.getElem?_eq_getElem h]
  · rw [List.getElem?_set_ne e]
    rcases Nat.lt_or_ge j k with hj | hj
    · rw [List.getElem?_append_left (by simp; omega), List.getElem?_append_left (by simp; omega)]
      simp [List.getElem?_map, hj, show j < k + 1 by omega]
    · rw [List.getElem?_append_right (by simp; omega), List.getElem?_append_right (by simp; omega)]
      simp only [List.length_map, List.length_take, List.getElem?_replicate]
      rw [Nat.min_eq_left (by omega), Nat.min_eq_left (by omega)]
      split <;> split <;> first | rfl | omega

set_option maxHeartbeats 2000000 in
theorem gens_any (p : Nat) (F : Nat → Prop) (l : List (Int × Bool)) (w : World) (h : SlotsIn w p T rest F l) (ok : SlotOk l) :
    Calls Tryz.prog 42 #[.pointer (some ⟨p, 0, none⟩)] w fun e w' => ∃ v, e = .returned v ∧ OwnsF elInt w' w.heap.size 3 v (gensL l) ∧ Below w.heap.size w w' := by
  obtain ⟨i0, hi, hz0, hz1, hz2⟩ := info_parts infoInt
  have hlen := ok.len
  obtain ⟨v, hp, ho, hF, hv, hlt⟩ := h
  have cp : w.cell? ⟨p, 0, none⟩ = some v := by rw [cell_of_row _ _ _ _ _ _ hp]; simp
  have hpl := hlt p hF
  obtain ⟨hm, hop⟩ := ho.reads.open
  clear ok hp ho hv hlt hF
  have HEND := Lib.hid (gensTo_end l)
  have HZ := Lib.hid (gensTo_zero l)
  have HLEN := Lib.hid (gensTo_len l)
  have HNX := Lib.hid (gensTo_next l)
  generalize hn : l.length = n at *
  clear hn
  rcases hop with ⟨a, cap, rfl, hz⟩ | ⟨b, off, cap, rfl, hb, hlc, hcm, hc⟩
  all_goals
    go_enter Tryz.func42, Tryz.ntmps42
    go_wp2_with (first | (at_make; refine wpList_make_full _ rfl _ _ 27 rfl w.heap.size 3 i0 (.int .i64 0) 1 Tryz.underlying27 hi hz0 hz1 .i64 .i64 _ _ n rfl rfl rfl rfl ?c1 ?c2 ?c3 ?_))
    case c1 => rw [hz2]; omega
    case c2 => unfold maxLen; omega
    case c3 => exact Nat.le_refl _
    intro w1 hown hgr
    have hb1 : Below w.heap.size w w1 := (Below.refl _ _).grown hgr (Nat.le_refl _) (fun k hk => by cases hk)
    clear hgr
    have cp1 : w1.cell? ⟨p, 0, none⟩ = w.cell? ⟨p, 0, none⟩ := hb1.cell (p := ⟨p, 0, none⟩) hpl
    rw [cp] at cp1
    have HO : Hid (OwnsF elInt w1 w.heap.size 3 (.slice (some ⟨w.heap.size, 0, none⟩) n n) (gensTo l 0)) := Lib.hid (by
      unfold OwnsF; rw [HZ.out, List.length_replicate, flatMap_int, List.map_replicate, ← toList_madeCells_one, ← Nat.mul_one n]
      rw [Nat.mul_one]; exact hown)
    have HB1 := Lib.hid hb1
    clear hown hb1
    go_wp2
    go_loopw [17] (fun i wr => ∃ k : Nat, k ≤ n ∧ i = .int .i64 k ∧ Hid (OwnsF elInt wr w.heap.size 3 (.slice (some ⟨w.heap.size, 0, none⟩) n n) (gensTo l k)) ∧ Hid (Below w.heap.size w wr)) (fun i _ => n - (intOf i).toNat)
    case atStart => exact ⟨0, by omega, rfl, HO.out, HB1.out⟩
    case round =>
      obtain ⟨k, hk, rfl, hO, hB⟩ := hrel
      by_cases hltk : k < n
      · first
          | omega
          | (obtain ⟨c0, c1⟩ := cells2 rfl hc hltk
             clear hc
             have c0' : wr.cell? ⟨b, off + k * 2, none⟩ = some (.int .i64 (l.getD k slotZ).1) := by rw [hB.out.cell (p := ⟨b, _, none⟩) hb, c0]; rfl
             have c1' : wr.cell? ⟨b, off + k * 2 + 1, none⟩ = some (.bool (l.getD k slotZ).2) := by rw [hB.out.cell (p := ⟨b, _, none⟩) hb, c1]; rfl
             clear c0 c1
             have hln := HLEN.out k hk
             obtain ⟨hcg, hfg, hwr⟩ := hO.out.open1 rfl (k := k) (by omega)
             have HNXK := Lib.hid (HNX.out k hltk)
             have HST := Lib.hid (fun (W : World) (hW : OwnsF elInt W w.heap.size 3 (.slice (some ⟨w.heap.size, 0, none⟩) n n) (gensTo l k)) (z : Int) => hW.stored1 rfl k z (.int .i64 z) (by omega) rfl)
             have HLN := Lib.hid hln
             clear hln
             have hbw : b < wr.heap.size := Nat.lt_of_lt_of_le hb hB.out.size
             generalize l.getD k slotZ = x at *
             obtain ⟨x1, x2⟩ := x
             go_wp2
             go_roundw
             case rel => exact ⟨k + 1, by omega, by go_num, by rw [← HNXK.out]; exact (HST.out _ hO.out x1).later (nb_alloc (Below.refl _ _) _), nb_alloc (hB.out.setCell (p := ⟨w.heap.size, _, none⟩) (Nat.le_refl _) _) _⟩
             case measure => simp [intOf]; omega)
      · obtain rfl : k = n := by omega
        go_wp2
        go_ret
        exact ⟨_, rfl, by rw [← HEND.out]; exact hO.out, hB.out⟩
end Go.Proofs.YtcmpaohefihijabGreatDoor

/- The contract of Free of package slots. -/
import Derived.Test.YtakoejopgdaknaaSlotLive
import Derived.StillTailTactics
import Derived.IntWalk
namespace Go.Proofs.Ytakoejopgdaknaa
set_option maxRecDepth 8000
open Go.RowKit
variable {T : TypeId} {rest : List Value}


/-- A slot is written as a whole. -/
theorem slotsIn_store {w : World} {p g cap i : Nat} {F : Nat → Prop} {l : List (Int × Bool)} {b : Int} {c : Bool}
    (hp : w.heap[p]? = some (.cells (.slice (some ⟨g, 0, none⟩) l.length cap :: rest).toArray T (0, 0))) (hF : F p) (hv : ∀ k, (Value.slice (some ⟨g, 0, none⟩) l.length cap).ownBlock = some k → F k ∧ k ≠ p) (hlt : ∀ k, F k → k < w.heap.size)
    (ho : Owns elSlot w 111 (.slice (some ⟨g, 0, none⟩) l.length cap) l) (hi : i < l.length) :
    SlotsIn ((w.setCell ⟨g, i * 2, none⟩ (.int .i64 b)).setCell ⟨g, i * 2 + 1, none⟩ (.bool c)) p T rest F (l.set i (b, c)) ∧ Kept F w ((w.setCell ⟨g, i * 2, none⟩ (.int .i64 b)).setCell ⟨g, i * 2 + 1, none⟩ (.bool c)) := by
  obtain ⟨hFg, hgp⟩ := hv g rfl
  have o1 := ho.stored i 0 (b, (l.getD i slotZ).2) (.int .i64 b) hi (by decide) rfl
  have o2 := o1.stored i 1 (b, c) (.bool c) (by simpa using hi) (by decide) (by rw [show elSlot.zero = slotZ from rfl, getD_set_eq _ _ _ _ hi]; rfl)
  rw [List.set_set] at o2
  refine ⟨⟨_, ?_, o2, hF, hv, fun k hk => by simpa using hlt k hk⟩, (Kept.setCell _ (p := ⟨g, i * 2, none⟩) hFg _).trans (Kept.setCell _ (p := ⟨g, i * 2 + 1, none⟩) hFg _) (fun _ h => .inl h)⟩
  rw [heap_setCell_other _ _ _ _ (Ne.symm hgp), heap_setCell_other _ _ _ _ (Ne.symm hgp)]
  exact hp

theorem freeL_dead {l : List (Int × Bool)} {a b : Int} (h : liveB l a b = false) : freeL l a b = l := by rw [freeL, h]; rfl
theorem freeE_dead {l : List (Int × Bool)} {a b : Int} (h : liveB l a b = false) : freeE l a b = 7 := by rw [freeE, h]; rfl
theorem freeL_live {l : List (Int × Bool)} {a b : Int} (h : liveB l a b = true) : freeL l a b = l.set a.toNat (b + 1, false) := by rw [freeL, h]; rfl
theorem freeE_live {l : List (Int × Bool)} {a b : Int} (h : liveB l a b = true) : freeE l a b = 0 := by rw [freeE, h]; rfl

set_option maxHeartbeats 1000000 in
theorem free_any (p : Nat) (F : Nat → Prop) (l : List (Int × Bool)) (a b : Int) (w : World) (h : SlotsIn w p T rest F l) (ok : SlotOk l) :
    Calls Try.prog 40 #[.pointer (some ⟨p, 0, none⟩), .agg #[.int .i64 a, .int .i64 b]] w fun e w' => e = .returned (.int .i64 (freeE l a b)) ∧ SlotsIn w' p T rest F (freeL l a b) ∧ Kept F w w' := by
  have HS := Lib.hid (h.later (nb_alloc (Below.refl _ _) (.cells #[.int .i64 a, .int .i64 b] 38)))
  have HS0 := Lib.hid h
  clear h
  cases hl : liveB l a b
  · have HE := Lib.hid (freeE_dead hl)
    have HL := Lib.hid (freeL_dead hl)
    go_enter Try.func40, Try.ntmps40
    go_wp2_with fail
    refine (live_any p F l a b _ HS.out).mono ?_
    rintro e w' ⟨rfl, hb'⟩
    rw [hl]
    have HB := Lib.hid (nb_trans (nb_alloc (Below.refl _ _) _) hb')
    clear hb'
    go_wp2
    go_ret
    exact ⟨ret_int HE.out.symm, by rw [HL.out]; exact HS0.out.later HB.out, Kept.ofBelow HB.out⟩
  · have HE := Lib.hid (freeE_live hl)
    have HL := Lib.hid (freeL_live hl)
    obtain ⟨h0, h1, h2⟩ := liveB_iff.1 hl
    obtain ⟨i, rfl⟩ := Int.eq_ofNat_of_zero_le h0
    have hil : i < l.length := by omega
    rw [Int.toNat_natCast] at HL h2
    have hg0 := ok.gen i hil
    rw [h2] at hg0
    obtain ⟨b0, b1⟩ := hg0
    simp only at b0 b1
    have H2 := Lib.hid h2
    have HO := Lib.hid ok
    clear h2 h0 h1 ok
    go_enter Try.func40, Try.ntmps40
    go_wp2_with fail
    refine (live_any p F l i b _ HS.out).mono ?_
    rintro e w' ⟨rfl, hb'⟩
    rw [hl]
    obtain ⟨v, hp, ho, hF, hv, hlt⟩ := HS.out.later hb'
    have k0 : w'.cell? ⟨w.heap.size, 0, none⟩ = some (.int .i64 i) := by rw [hb'.cell (p := ⟨w.heap.size, 0, none⟩) (by simp)]; simp
    have k1 : w'.cell? ⟨w.heap.size, 1, none⟩ = some (.int .i64 b) := by rw [hb'.cell (p := ⟨w.heap.size, 1, none⟩) (by simp)]; simp
    have HB := Lib.hid (nb_trans (nb_alloc (Below.refl _ _) _) hb')
    clear hb'
    have cp : w'.cell? ⟨p, 0, none⟩ = some v := by rw [cell_of_row _ _ _ _ _ _ hp]; simp
    obtain ⟨g, cap, rfl, hg, hm, c0, c1, hfz⟩ := ho.open2 rfl hil
    have c0' : w'.cell? ⟨g, i * 2, none⟩ = some (.int .i64 b) := by rw [c0, show elSlot.zero = slotZ from rfl, H2.out]; rfl
    have c1' : w'.cell? ⟨g, i * 2 + 1, none⟩ = some (.bool true) := by rw [c1, show elSlot.zero = slotZ from rfl, H2.out]; rfl
    have f0 := hfz (i * 2)
    have f1 := hfz (i * 2 + 1)
    clear hfz c0 c1
    have HP := Lib.hid hp
    have HOW := Lib.hid ho
    have HV := Lib.hid hv
    clear hp ho hv
    unfold maxLen at hm
    have hwr : IntKind.i64.wrap (b + 1) = b + 1 := IntWalk.i64_in _ (by omega)
    go_wp2_with fail
    go_still_tail 11, (by kernel_rfl)
    clear hwr
    change wpList _ _ _ _ _ w'.drew
    have HD := Lib.hid (slotsIn_store (g := g) (cap := cap) (b := b + 1) (c := false) (w := w'.drew) HP.out hF HV.out hlt HOW.out hil)
    go_wp2
    go_ret
    obtain ⟨hs, hk⟩ := HD.out
    exact ⟨ret_int HE.out.symm, by rw [HL.out]; exact hs, (Kept.ofBelow HB.out).trans ((Kept.drew F w').trans hk (fun _ h => .inl h)) (fun _ h => .inl h)⟩
end Go.Proofs.Ytakoejopgdaknaa

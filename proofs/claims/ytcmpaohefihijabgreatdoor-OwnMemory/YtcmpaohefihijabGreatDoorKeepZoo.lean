/- done of the keeping laws. -/
import Derived.Test.YtcmpaohefihijabGreatDoorPZooDo
import Derived.Test.YtcmpaohefihijabGreatDoorKeepSame
namespace Go.Proofs.YtcmpaohefihijabGreatDoor
set_option maxRecDepth 8000
set_option maxRecDepth 8000
open Go.RowKit


def DonePost (w : World) (zs : List Opm) (e : Ending) (w' : World) : Prop := ∃ p F, e = .returned (.pointer (some ⟨p, 0, none⟩)) ∧ PzAt w' p F (doneZ zs) ∧ (∀ b, F b → w.heap.size ≤ b) ∧ Below w.heap.size w w'
set_option maxHeartbeats 4000000 in
theorem done_any (v : Value) (zs : List Opm) (w : World) (hr : Reads elOp w v zs) (hz : ∀ x ∈ zs, OpOk x) : Calls Tryz.prog 6 #[v] w (DonePost w zs) := by
  obtain ⟨oa, oc, rfl, hlc, hm, hcc⟩ := hr
  unfold maxLen at hm
  obtain ⟨n, hn⟩ : ∃ n, zs.length = n := ⟨_, rfl⟩
  have HN := Lib.hid hn
  have HC := Lib.hid hcc
  have HOS := Lib.hid hz
  rw [hn] at hlc HC ⊢
  clear hn hcc hz
  go_enter Tryz.func6, Tryz.ntmps6
  go_wp2_with fail
  refine (zooNew_any _).mono ?_
  rintro e w1 ⟨rfl, hw1⟩
  have HI0 : Hid (PzAt w1 w.heap.size (fun b => b = w.heap.size) zNil ∧ Below w.heap.size w w1) := Lib.hid (by rw [← hw1]; exact ⟨PzAt.new w, nb_alloc (Below.refl _ _) _⟩)
  clear hw1
  obtain ⟨p, hp⟩ : ∃ p, w.heap.size = p := ⟨_, rfl⟩
  rw [hp] at HI0 ⊢
  have HP := Lib.hid hp
  clear hp
  go_wp2
  go_loopw [11] (fun i wr => ∃ (t : Nat) (F : Nat → Prop), t ≤ n ∧ i = .int .i64 t ∧ Hid (PzAt wr p F (doneZ (zs.take t))) ∧ Hid (∀ b, F b → w.heap.size ≤ b) ∧ Hid (Below w.heap.size w wr)) (fun i _ => n - (intOf i).toNat)
  case atStart => exact ⟨0, _, by omega, rfl, Lib.hid HI0.out.1, Lib.hid (fun b e => by have := HP.out; omega), Lib.hid (by have := HI0.out.2; rw [← HP.out] at this; exact this)⟩
  case round =>
    obtain ⟨t, F, htn, rfl, hZ, hF, hB⟩ := hrel
    by_cases hlt : t < n
    · obtain ⟨bb, off, rfl, hbb, hck⟩ := HC.out t hlt
      obtain ⟨o, ho⟩ : ∃ o, zs.getD t opZ = o := ⟨_, rfl⟩
      have htl : t < zs.length := by rw [HN.out]; exact hlt
      have hcr : ∀ jj, jj < 16 → wr.cell? ⟨bb, off + t * 16 + jj, none⟩ = (elOp.enc o)[jj]? := fun jj hjj => by rw [hB.out.cell (p := ⟨bb, _, none⟩) hbb, ← ho]; exact hck jj hjj
      obtain ⟨c0, c1, c2, c3, c4, c5, c6, c7, c8, c9, c10, c11, c12, c13, c14, c15⟩ := opRow (O := off + t * 16) (o := o) hcr
      have HTK : Hid (doneZ (zs.take (t + 1)) = doZ (doneZ (zs.take t)) o) := Lib.hid (by rw [take_snocD zs t opZ htl, ho, doneZ_snoc])
      have HOP : Hid (OpOk o) := Lib.hid (HOS.out o (by rw [← ho]; exact memD htl))
      have hbw : bb < wr.heap.size := Nat.lt_of_lt_of_le hbb hB.out.size
      have HA : Hid (Below wr.heap.size wr (wr.alloc (.cells #[.int .i64 o.d, .int .i64 o.m, .int .i64 (o.f 0), .int .i64 (o.f 1), .int .i64 (o.f 2), .int .i64 (o.f 3), .int .i64 (o.f 4), .int .i64 (o.f 5), .int .i64 (o.f 6), .int .i64 (o.f 7), .int .i64 o.a, .int .i64 o.b, .int .i64 o.ta, .int .i64 o.tb, .int .i64 o.k, .int .i64 o.n] 53))) := Lib.hid (nb_alloc (Below.refl _ _) _)
      clear hcr hck ho htl
      go_wp2_with fail
      generalize wr.alloc (.cells #[.int .i64 o.d, .int .i64 o.m, .int .i64 (o.f 0), .int .i64 (o.f 1), .int .i64 (o.f 2), .int .i64 (o.f 3), .int .i64 (o.f 4), .int .i64 (o.f 5), .int .i64 (o.f 6), .int .i64 (o.f 7), .int .i64 o.a, .int .i64 o.b, .int .i64 o.ta, .int .i64 o.tb, .int .i64 o.k, .int .i64 o.n] 53) = A at *
      clear c0 c1 c2 c3 c4 c5 c6 c7 c8 c9 c10 c11 c12 c13 c14 c15
      refine (zooDo_any p F (doneZ (zs.take t)) o _ (hZ.out.later HA.out) (ZOk.done _) HOP.out).mono ?_
      rintro e w5 hp
      have hp2 := hp.from HA.out
      clear hp
      obtain ⟨rfl, F5, hz5, hk5, hm5⟩ := hp2
      have HNX : Hid (PzAt w5 p F5 (doneZ (zs.take (t + 1))) ∧ (∀ b, F5 b → w.heap.size ≤ b) ∧ Below w.heap.size w w5) := Lib.hid ⟨by rw [HTK.out]; exact hz5, hm5.above hB.out.size hF.out, hB.out.trans (hk5.below hB.out.size hF.out)⟩
      clear hz5 hk5 hm5
      go_wp2
      go_roundw
      case rel => exact ⟨t + 1, F5, by omega, by go_num, Lib.hid HNX.out.1, Lib.hid HNX.out.2.1, Lib.hid HNX.out.2.2⟩
      case measure => simp [intOf]; omega
    · obtain rfl : n = t := by omega
      have HE : Hid (DonePost w zs (.returned (.pointer (some ⟨p, 0, none⟩))) wr) := Lib.hid ⟨p, F, rfl, by have := hZ.out; rwa [List.take_of_length_le (by rw [HN.out]; exact Nat.le_refl _)] at this, hF.out, hB.out⟩
      go_wp2
      go_ret
      exact HE.out
end Go.Proofs.YtcmpaohefihijabGreatDoor

/- A set is told by its components, in whatever order they come: the statement MaskBack. No condition. -/
import Derived.Test.YtfjlhiolfflnnaaOpen
import Derived.Test.YtfjlhiolfflnnaaKeepMasked
namespace Go.Proofs.Ytfjlhiolfflnnaa
open Go.ChangeShapes Go.WideShapes Go.ChangeAt Go.RowKit
set_option linter.unusedVariables false
namespace maskBack

theorem of_kinds (m : Int) (h0 : 0 ≤ m) (h1 : m ≤ 255) : ofR (kinds m) = (m, 0) := of_fin256 (p := fun m => ofR (kinds m) = (m, 0)) (by decide +kernel) m h0 h1
theorem ofR_zero (l : List Int) (h : (ofR l).2 ≠ 0) : (ofR l).1 = 0 := by
  unfold ofR at *
  split at h
  · split at h
    · exact absurd rfl h
    · rename_i ha hn; rw [if_pos ha, if_neg hn]
  · rename_i ha; rw [if_neg ha]
theorem ofR_all (l : List Int) (h : (ofR l).2 = 0) : l.all isK = true ∧ l.Nodup ∧ (ofR l).1 = setOf l := by
  unfold ofR at *
  split at h
  · rename_i ha
    split at h
    · rename_i hn; exact ⟨ha, hn, by rw [if_pos ha, if_pos hn]⟩
    · cases h
  · cases h
theorem length_le : ∀ (a b : List Int), a.Nodup → (∀ x ∈ a, x ∈ b) → a.length ≤ b.length
  | [], _, _, _ => by simp
  | x :: a, b, hn, hs => by
    have hx : x ∈ b := hs x (by simp)
    have hn' := List.nodup_cons.1 hn
    have := length_le a (b.erase x) hn'.2 (fun y hy => (List.mem_erase_of_ne (show y ≠ x from fun e => hn'.1 (by rw [← e]; exact hy))).2 (hs y (by simp [hy])))
    rw [List.length_erase_of_mem hx] at this
    have : 0 < b.length := List.length_pos_of_mem hx
    simp; omega
theorem mem_kinds_of {l : List Int} (h : (ofR l).2 = 0) (x : Int) : x ∈ kinds (ofR l).1 ↔ x ∈ l := by
  obtain ⟨ha, hn, e⟩ := ofR_all l h
  have hk : ∀ z ∈ l, 0 ≤ z ∧ z ≤ 7 := fun z hz => isK_iff.1 (List.all_eq_true.1 ha z hz)
  rw [e, kinds, mem_kindsTo]
  constructor
  · rintro ⟨j, hj, rfl, hb⟩
    rw [(setOf_facts l hk).2.2 j (by omega)] at hb
    exact of_decide_eq_true hb
  · intro hx
    obtain ⟨h0, h7⟩ := hk x hx
    refine ⟨x.toNat, by omega, by omega, ?_⟩
    rw [tb_setOf hk h0 h7, decide_eq_true hx]
theorem cnt_of {l : List Int} (h : (ofR l).2 = 0) : cnt (ofR l).1 = l.length := by
  have hn := (ofR_all l h).2.1
  have h1 := length_le (kinds (ofR l).1) l (nodup_kindsTo _ 8) (fun x hx => (mem_kinds_of h x).1 hx)
  have h2 := length_le l (kinds (ofR l).1) hn (fun x hx => (mem_kinds_of h x).2 hx)
  unfold cnt; omega
end maskBack
open maskBack

set_option maxHeartbeats 2000000 in
theorem maskBack_walk (a0 : Int) (i0 : I64 a0) (u1 : Value) (z1 : List Int)  (w : World) (i1 : Ints w u1 z1) :
    Calls Try.prog 8 #[.int .i64 a0, u1] w fun e w' => e = .returned (.bool true) ∧ Below w.heap.size w w' := by
  clear i0
  have HI := Lib.hid i1
  clear i1
  obtain ⟨ad, cap, rfl, hrest⟩ := HI.out
  clear hrest
  go_enter Try.func8, Try.ntmps8
  go_wp2_with fail
  refine (keepMasked_any _).mono ?_
  rintro e w1 ⟨rfl, hb1⟩
  have HB1 := Lib.hid hb1
  clear hb1
  go_wp2_with fail
  refine (rest_any _ _ _ (by omega) (by omega)).mono ?_
  rintro e w' ⟨rfl, rfl⟩
  have m0 : 0 ≤ a0 % 256 := by omega
  have m1 : a0 % 256 ≤ 255 := by omega
  generalize a0 % 256 = m at *
  have HK := Lib.hid (of_kinds m m0 m1)
  go_wp2_with fail
  refine (list_any _ _).mono ?_
  rintro e w2 ⟨v2, rfl, ho2, hb2⟩
  have HI2 := Lib.hid (Ints.owns ho2)
  have HB2 := Lib.hid hb2
  clear ho2 hb2
  go_wp2_with fail
  refine (of_any _ _ _ HI2.out).mono ?_
  rintro e w' ⟨rfl, rfl⟩
  rw [HK.out]
  have hmm : (m != m) = false := by simp
  go_wp2_with fail
  refine (count_any _ _).mono ?_
  rintro e w' ⟨rfl, rfl⟩
  rw [show cnt m = ((kinds m).length : Int) from rfl]
  have hkk : (((kinds m).length : Int) != ((kinds m).length : Int)) = false := by simp
  go_wp2_with fail
  refine (list_any _ _).mono ?_
  rintro e w3 ⟨v3, rfl, ho3, hb3⟩
  have HI3 := Lib.hid (Ints.owns ho3)
  have HB3 := Lib.hid hb3
  clear ho3 hb3
  obtain ⟨ad3, cap3, rfl, hrest⟩ := HI3.out
  clear hrest
  go_wp2_with fail
  have HIL := Lib.hid (((HI.out.later HB1.out).later HB2.out).later HB3.out)
  have HBL := Lib.hid (nb_trans (nb_trans HB1.out HB2.out) HB3.out)
  refine (of_any _ _ _ HIL.out).mono ?_
  rintro e w' ⟨rfl, rfl⟩
  cases hf : ((ofR z1).2 != 0)
  · have HF : Hid ((ofR z1).2 = 0) := Lib.hid (by simpa using hf)
    have HM := Lib.hid (mem_kinds_of HF.out)
    have HC := Lib.hid (cnt_of HF.out)
    generalize (ofR z1).1 = y at *
    generalize (ofR z1).2 = f at *
    go_wp2_with fail
    refine (list_any _ _).mono ?_
    rintro e w4 ⟨v4, rfl, ho4, hb4⟩
    have HI4 := Lib.hid (Ints.owns ho4)
    have HB4 := Lib.hid hb4
    have HIE := Lib.hid (HIL.out.later hb4)
    clear ho4 hb4
    obtain ⟨hm4, h4⟩ := HI4.out.open
    unfold maxLen at hm4
    generalize hn : (kinds y).length = n at *
    have HN := Lib.hid hn
    clear hn
    rcases h4 with ⟨a4, cap4, rfl, hz⟩ | ⟨b4, off4, cap4, rfl, hb4, hlc, hcm, hc⟩
    all_goals
      go_wp2
      go_loop [48] (fun i => ∃ k : Nat, k ≤ n ∧ i = .int .i64 k) (fun i => n - (intOf i).toNat)
      case atStart => exact ⟨0, by omega, rfl⟩
      case round =>
        obtain ⟨k, hk, rfl⟩ := hrel
        by_cases hlt : k < n
        · first
            | omega
            | (have hck := hc k hlt
               clear hc
               have HX : Hid (decide ((kinds y).getD k 0 ∈ z1) = true) := Lib.hid (decide_eq_true ((HM.out _).1 (getD_mem (by rw [HN.out]; exact hlt))))
               generalize (kinds y).getD k 0 = x at *
               go_wp2_with fail
               refine (hasInt_any _ _ _ _ HIE.out).mono ?_
               rintro e w' ⟨rfl, rfl⟩
               rw [HX.out]
               go_wp2
               go_round
               case rel => exact ⟨k + 1, by omega, by go_num⟩
               case measure => simp [intOf]; omega)
        · obtain rfl : k = n := by omega
          go_wp2_with fail
          refine (count_any _ _).mono ?_
          rintro e w' ⟨rfl, rfl⟩
          rw [HC.out]
          have hzz : ((z1.length : Int) == (z1.length : Int)) = true := by simp
          go_wp2
          go_ret
          exact ⟨rfl, nb_trans HBL.out HB4.out⟩
  · have HF : Hid ((ofR z1).2 ≠ 0) := Lib.hid (by simpa using hf)
    have HZ := Lib.hid (ofR_zero z1 HF.out)
    rw [HZ.out]
    go_wp2
    go_ret
    exact ⟨rfl, HBL.out⟩

namespace maskBack
theorem own : ownKnob Try.prog.godebug = none := by kernel_rfl
theorem laidOut : laidOutB Try.prog = true := by kernel_rfl

set_option maxRecDepth 100000 in
theorem lifted (os : Os) (started : os.Started) (H : Type) (enc : TypeId × Value → H) :
    ReturnsInHanded {} Try.checked os 8 .any (Rows.maskBackSpec.pre6 enc Try.prog Try.f8 Rows.maskBackRow.domain false) (Rows.maskBackSpec.post enc Try.prog Try.f8 false true false false) := by
  refine returnsInHanded_of_change (C := Try.checked) own started (by kernel_rfl) Try.func8
    (ChangeSpec.witness6 (enc := enc) (C := Try.checked) false ⟨#[], #[.int .i64 0, .slice none 0 0], []⟩ 8 (by kernel_rfl) (by kernel_rfl) (by kernel_rfl) (by kernel_rfl)) ?_
  intro W base args ds gs before hval0 hW hcnd _
  have hval : ∀ (j : Nat) t v, Try.f8.params[j]? = some t → args[j]? = some v → Value.okWide Try.prog W .any base t v := hval0
  have hW' := hW
  obtain ⟨p, q, hA0, hV, rfl, hfz, hnd⟩ := hW
  have hA : DataW.TrodAll enc Try.prog W 0 (fun _ => true) true Try.f8.params.toList args.toList ds p := hA0
  rw [Try.params8] at hA hval
  obtain ⟨v0, vs0, d0, ds0, p0, q0, hargs, rfl, rfl, h0, r0⟩ := trodAll_cons hA
  obtain ⟨v1, vs1, d1, ds1, p1, q1, rfl, rfl, rfl, h1, r1⟩ := trodAll_cons r0
  obtain ⟨rfl, rfl, rfl⟩ := trodAll_nil r1
  obtain rfl : args = #[v0, v1] := by cases args; simp_all
  obtain ⟨rfl, rfl⟩ := trodVars_none hV
  have k0' := h0
  have lt0 : ∀ x ∈ p0, x.block < W.heap.size := by obtain ⟨m, hm⟩ := h0; exact DataW.trod_lt m _ _ _ hm
  have k1' := h1
  have lt1 : ∀ x ∈ p1, x.block < W.heap.size := by obtain ⟨m, hm⟩ := h1; exact DataW.trod_lt m _ _ _ hm
  obtain ⟨a0, rfl, i0⟩ : ∃ a : Int, v0 = .int .i64 a ∧ I64 a := by
    obtain ⟨a, rfl, _, _, wa⟩ := open_int Try.underlying3 (hval 0 3 v0 rfl rfl) h0
    exact ⟨a, rfl, I64_of wa⟩
  obtain ⟨z1, i1⟩ : ∃ zs, Ints W v1 zs := by
    obtain ⟨a0, len0, cap0, rfl⟩ := okWide_slice Try.underlying22 (hval 1 22 v1 rfl rfl)
    exact Ints_of Try.underlying22 Try.underlying3 (by kernel_rfl) h1
  clear hA0 hval0
  refine (maskBack_walk a0 i0 v1 z1 W i1).mono fun e W' ⟨he, bel⟩ => ?_
  subst he
  exact ⟨_, rfl, _, _, _, [], _, [], hW', trodAll_mk1 (shut_bool Try.underlying4 _), (trodAll_cons_mk (Below.trod laidOut (by kernel_rfl) (of_decide_eq_true (by kernel_rfl)) k0' bel lt0) (trodAll_cons_mk (Below.trod laidOut (by kernel_rfl) (of_decide_eq_true (by kernel_rfl)) k1' bel lt1) trodAll_mk0)), rfl, bel.frame _, fun h => by cases h⟩
end maskBack

theorem maskBack_proved : Rows.MaskBackSaid :=
  OpenClaim.holds_of_wide 8 Try.f8 rfl rfl rfl rfl rfl rfl rfl ⟨rfl, rfl, rfl, rfl, rfl⟩ rfl rfl rfl rfl rfl (by kernel_rfl) Try.func8 (by kernel_rfl)
    (of_decide_eq_true (by kernel_rfl)) (by unfold Func.isWrapper; first | (rw [if_pos (by decide +kernel)]; kernel_rfl) | (rw [if_neg (by decide +kernel)]; exact ⟨rfl, rfl⟩))
    (fun os started H enc _ => maskBack.lifted os started H enc)

end Go.Proofs.Ytfjlhiolfflnnaa

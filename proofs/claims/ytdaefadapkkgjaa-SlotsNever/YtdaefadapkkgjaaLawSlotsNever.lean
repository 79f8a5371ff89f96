/- No handle is returned twice, and a freed handle is never live again: the statement SlotsNever. No condition. -/
import Derived.Test.YtdaefadapkkgjaaOpen
import Derived.Test.YtdaefadapkkgjaaNeverModel
import Derived.Test.YtdaefadapkkgjaaKeepSlotted
import Derived.Test.YtdaefadapkkgjaaMapsOwn
import Derived.Test.YtdaefadapkkgjaaOwn1
import Derived.Test.YtdaefadapkkgjaaLater
namespace Go.Proofs.Ytdaefadapkkgjaa
open Go.ChangeShapes Go.WideShapes Go.ChangeAt Go.RowKit
set_option linter.unusedVariables false

theorem zeroBool' (w : World) : (zeroValue 4).run Try.prog w = .ok (.bool false) w := by kernel_rfl
def tru : Int × Int → Value := fun _ => .bool true

theorem tru_upd (h : Int × Int) : (fun x => if x = h then Value.bool true else tru x) = tru := by funext x; unfold tru; split <;> rfl

/-- What the law keeps: slots, the map of all that was taken, the map of all that was freed. -/
structure Nev (w0 w : World) (p E R k : Nat) (F : Nat → Prop) (l : List (Int × Bool)) (ks fs : List (Int × Int)) : Prop where
  o : Own1 w0 w p F l
  e : MapIs kHand w E k ks tru
  r : MapIs kHand w R k fs tru
  fe : ¬ F E
  fr : ¬ F R
  er : E ≠ R
  eb : w0.heap.size ≤ E
  rb : w0.heap.size ≤ R
  ni : NI l ks fs
  gen : genLe k l

theorem MapIs.mono {α : Type} {k : TypeId} {K : KeyEnc α k} {w : World} {b n n' : Nat} {ks : List α} {f : α → Value} (h : MapIs K w b n ks f) (hn : n ≤ n') : MapIs K w b n' ks f := by
  obtain ⟨D, ho, r⟩ := h
  exact ⟨D, ho.mono hn, r⟩
theorem Nev.later {w0 w w' : World} {p E R k : Nat} {F : Nat → Prop} {l : List (Int × Bool)} {ks fs : List (Int × Int)} (h : Nev w0 w p E R k F l ks fs) (hb : Below w.heap.size w w') : Nev w0 w' p E R k F l ks fs :=
  ⟨h.o.later hb, h.e.later hb, h.r.later hb, h.fe, h.fr, h.er, h.eb, h.rb, h.ni, h.gen⟩
theorem Nev.kok {w0 w : World} {p E R k : Nat} {F : Nat → Prop} {l : List (Int × Bool)} {ks fs : List (Int × Int)} (h : Nev w0 w p E R k F l ks fs) {a b : Int} (hl : liveB l a b = true) : kHand.ok (a, b) := by
  obtain ⟨h0, h1, h2⟩ := liveB_iff.1 hl
  have := h.o.ok.len
  have := h.o.ok.gen a.toNat (by omega)
  rw [h2] at this
  simp only at this
  exact ⟨⟨by omega, by omega⟩, ⟨by omega, by omega⟩⟩

theorem Own1.kept {w0 w w' : World} {p : Nat} {F G : Nat → Prop} {l : List (Int × Bool)} (h : Own1 w0 w p F l) (hk : Kept G w w') (hap : ∀ k, F k → ¬ G k) (hG : ∀ k, G k → w0.heap.size ≤ k) : Own1 w0 w' p F l :=
  ⟨h.s.kept hk hap, h.fb, h.ok, h.below.trans (hk.below h.below.size hG)⟩
theorem Nev.start {w w0 : World} (hb : Below w.heap.size w w0) : Nev w (((w0.alloc (.cells #[.slice none 0 0] 53)).alloc (.map #[] 0)).alloc (.map #[] 0)) w0.heap.size (w0.heap.size + 1) (w0.heap.size + 1 + 1) 0 (fun k => k = w0.heap.size) [] [] [] := by
  have h1 := MapIs.new kHand (w0.alloc (.cells #[.slice none 0 0] 53)) tru
  have h2 := MapIs.new kHand ((w0.alloc (.cells #[.slice none 0 0] 53)).alloc (.map #[] 0)) tru
  rw [show (w0.alloc (.cells #[.slice none 0 0] 53)).heap.size = w0.heap.size + 1 by simp] at h1
  rw [show ((w0.alloc (.cells #[.slice none 0 0] 53)).alloc (.map #[] 0)).heap.size = w0.heap.size + 1 + 1 by simp] at h2
  have hs := hb.size
  exact ⟨⟨((SlotsAt.new w0).later (nb_alloc (Below.refl _ _) _)).later (nb_alloc (Below.refl _ _) _), (fun k hk => by omega), SlotOk.nil, nb_alloc (nb_alloc (nb_alloc hb _) _) _⟩, h1.later (nb_alloc (Below.refl _ _) _), h2, (by omega), (by omega), (by omega), (by omega), (by omega), NI.nil, genLe.nil 0⟩
/-- a store into the map of all that was taken -/
theorem Nev.taken {w0 w w' : World} {p E R k : Nat} {F F' : Nat → Prop} {l l' : List (Int × Bool)} {ks fs : List (Int × Int)} {w1 : World} {h : Int × Int} (hn : Nev w0 w p E R k F l ks fs) (ho : Own1 w0 w1 p F' l') (hk : Kept F w w1) (hm : Moves w F F') (ni : NI l' (ks ++ [h]) fs) (hg : genLe (k + 1) l')
    (he : MapIs kHand w' E (k + 1) (ks ++ [h]) tru) (hgr : w1.grownBy w' (some E)) : Nev w0 w' p E R (k + 1) F' l' (ks ++ [h]) fs := by
  have hkE : Kept (fun q => q = E) w1 w' := Kept.grown hgr (fun q e => by cases e; rfl)
  have fe : ¬ F' E := fun hf => (hm E hf).elim hn.fe (fun e => by have := hn.e.lt; omega)
  have fr : ¬ F' R := fun hf => (hm R hf).elim hn.fr (fun e => by have := hn.r.lt; omega)
  exact ⟨ho.kept hkE (fun q hf e => fe (e ▸ hf)) (fun q e => e ▸ hn.eb), he, ((hn.r.kept hk hn.fr).kept hkE (Ne.symm hn.er)).mono (Nat.le_succ k), fe, fr, hn.er, hn.eb, hn.rb, ni, hg⟩
/-- a store into the map of all that was freed -/
theorem Nev.freed {w0 w w' : World} {p E R k : Nat} {F : Nat → Prop} {l l' : List (Int × Bool)} {ks fs : List (Int × Int)} {w1 : World} {h : Int × Int} (hn : Nev w0 w p E R k F l ks fs) (ho : Own1 w0 w1 p F l') (hk : Kept F w w1) (ni : NI l' ks (fs ++ [h])) (hg : genLe (k + 1) l')
    (he : MapIs kHand w' R (k + 1) (fs ++ [h]) tru) (hgr : w1.grownBy w' (some R)) : Nev w0 w' p E R (k + 1) F l' ks (fs ++ [h]) := by
  have hkE : Kept (fun q => q = R) w1 w' := Kept.grown hgr (fun q e => by cases e; rfl)
  exact ⟨ho.kept hkE (fun q hf e => hn.fr (e ▸ hf)) (fun q e => e ▸ hn.rb), ((hn.e.kept hk hn.fe).kept hkE hn.er).mono (Nat.le_succ k), he, hn.fe, hn.fr, hn.er, hn.eb, hn.rb, ni, hg⟩

theorem live_is {p : Nat} {F : Nat → Prop} {l : List (Int × Bool)} {a b : Int} {w : World} {r : Bool} (h : SlotsAt w p F l) (hr : liveB l a b = r) :
    Calls Try.prog 18 #[.pointer (some ⟨p, 0, none⟩), .agg #[.int .i64 a, .int .i64 b]] w fun e w' => e = .returned (.bool r) ∧ Below w.heap.size w w' := hr ▸ live_any p F l a b w h
theorem grown_of_below {w w' : World} (h : Below w.heap.size w w') : w.grownBy w' none := ⟨h.os, h.tape, h.output, h.size, fun k hk _ => h.block k hk⟩
theorem MapIs.size_le {k : TypeId} {α : Type} {K : KeyEnc α k} {w : World} {b n : Nat} {ks : List α} {f : α → Value} (h : MapIs K w b n ks f) : ks.length ≤ n := by
  obtain ⟨D, ho, _, _, _, _, hs⟩ := h
  rw [← hs]; exact ho.size_le
theorem MapIs.lens {k t e : TypeId} {α : Type} {K : KeyEnc α k} {w : World} {b n : Nat} {ks : List α} {f : α → Value} (h : MapIs K w b n ks f) (ht : Try.prog.underlying t = some (.map k e)) (ty : TypeId) : (Builtin.len_ #[t] ty #[.map (some b)]).run Try.prog w = .ok (.int .i64 (ks.length : Int)) w := by
  obtain ⟨D, ho, _, _, _, _, hs⟩ := h
  rw [ho.len ht ty, hs]

set_option maxRecDepth 100000 in
set_option maxHeartbeats 16000000 in
theorem slotsNever_walk (u0 : Value) (z0 : List Int)  (w : World) (i0 : Ints w u0 z0) :
    Calls Try.prog 5 #[u0] w fun e w' => e = .returned (.bool true) ∧ Below w.heap.size w w' := by
  obtain ⟨hm0, hop0⟩ := i0.open
  unfold maxLen at hm0
  generalize hn0 : z0.length = n0 at *
  clear hn0 i0
  have hmk : ∀ x : World, (Instr.makeMap 47 none).run Try.prog x = .ok (.map (some x.heap.size)) (x.alloc (.map #[] 0)) := run_makeMap 47
  rcases hop0 with ⟨a0, cap0, rfl, hz0⟩ | ⟨b0, off0, cap0, rfl, hb0, hlc0, hcm0, hc0⟩
  · go_enter Try.func5, Try.ntmps5
    go_wp2_with fail
    refine (slotted_any _).mono ?_
    rintro e w0 ⟨rfl, hb0'⟩
    have HB0 := Lib.hid hb0'
    clear hb0'
    go_wp2_with (first | (go_at_call 8; refine (slotsNew_any _).mono ?_; rintro e w' ⟨rfl, rfl⟩))
    have HST := Lib.hid (Nev.start HB0.out)
    clear hmk

    go_loopw [27] (fun i wr => ∃ k : Nat, k ≤ 0 ∧ i = .int .i64 k ∧ ∃ F l ks fs, Hid (Nev w wr w0.heap.size (w0.heap.size + 1) (w0.heap.size + 1 + 1) k F l ks fs)) (fun i _ => 0 - (intOf i).toNat)
    case atStart => exact ⟨0, by omega, rfl, _, [], [], [], HST⟩
    case round =>
      obtain ⟨k, hk, rfl, F, l, ks, fs, hT⟩ := hrel
      clear HST
      generalize w0.heap.size + 1 + 1 = R at *
      generalize w0.heap.size + 1 = E at *
      generalize w0.heap.size = p at *

      obtain rfl : k = 0 := by omega

      generalize wr = wz at *
      have hlen : (allL l).length ≤ 60 := Nat.le_trans (allL_len l) hT.out.o.ok.len
      obtain ⟨D, hoD, hndD, hokD, hkD, hatD, hsD⟩ := hT.out.e
      have HD := Lib.hid hoD
      have HKD := Lib.hid hkD
      have HOK := Lib.hid hokD
      clear hoD hndD hokD hkD hatD hsD
      go_wp2_with (first | (at_range; refine wpList_range_own _ rfl _ 47 rfl 31 4 kHand.law Try.underlying47 heldR E 0 D rfl HD.out ?_))
      intro wi hrg hgi hsi
      have HRG := Lib.hid hrg
      have HBI : Hid (Below wz.heap.size wz wi) := Lib.hid ((Below.refl _ _).grown hgi (Nat.le_refl _) (fun q hq => by cases hq))
      clear hrg hgi hsi
      go_wp2
      go_loopw [88] (fun _ wx => ∃ left cnt, Hid (wx.ranges Try.prog 31 heldR E wz.heap.size 0 D left cnt) ∧ Hid (∀ kl, left kl = true → Maps.has D kl = true) ∧ Hid (Below wz.heap.size wz wx)) (fun _ wx => wx.rangeLeft E wz.heap.size)
      case atStart => exact ⟨_, _, HRG, fun _ h => h, HBI⟩
      case round =>
        obtain ⟨left, cnt, hrg, hlf, hB⟩ := hrel
        clear HRG HBI
        go_wp2_with (first | (at_next; refine wpList_next_ranges _ rfl _ rfl 31 kHand.law heldR id id (fun key kl _ => ⟨key, rfl⟩) (fun v y _ => ⟨v, rfl⟩) E wz.heap.size 0 D left cnt rfl hrg.out ?_ ?_))
        case refine_1 =>
          intro hc0 hl0
          have HT1 := Lib.hid (hT.out.later hB.out)
          clear hc0 hl0 hrg hlf
          go_wp2_with fail
          refine (all_any p F l _ HT1.out.o.s HT1.out.o.ok).mono ?_
          rintro e w9 ⟨v9, rfl, ho9, hb9⟩
          have HT2 := Lib.hid (HT1.out.later hb9)
          obtain ⟨a9, cap9, rfl, -⟩ := ho9.reads
          have hle := fun ty => HT2.out.e.lens Try.underlying47 ty
          have hlr := fun ty => HT2.out.r.lens Try.underlying47 ty
          have hfin : (((allL l).length : Int) == (ks.length : Int) - (fs.length : Int)) = true := by rw [beq_iff_eq]; have := HT2.out.ni.cnt; omega
          have hks := HT2.out.e.size_le
          have hfs := HT2.out.r.size_le
          clear ho9 hb9
          go_wp2
          go_ret
          exact ⟨rfl, HT2.out.o.below⟩
        case refine_2 =>
          intro x cv kl ya yb w' cnt' hkey hlk hv hat hrg' hlt' hgr hsz hen
          obtain ⟨⟨ha, hb⟩, hmem, hkl⟩ := HKD.out kl (hlf.out kl hlk)
          have hx : x = .agg #[.int .i64 ha, .int .i64 hb] := kHand.law.inj hkey (by rw [hkl]; exact kHand.key (ha, hb) (HOK.out _ hmem))
          subst hx
          have HB' : Hid (Below wz.heap.size wz w') := Lib.hid (hB.out.grown hgr hB.out.size (fun q hq => by cases hq; exact Nat.le_refl _))
          have HT1 := Lib.hid (hT.out.later HB'.out)
          have HRG' := Lib.hid hrg'
          have HLF' : Hid (∀ z, (left z && !z.sameKey kl) = true → Maps.has D z = true) := Lib.hid (fun z hz => hlf.out z (by simp at hz; exact hz.1))
          have HLT := Lib.hid hlt'
          obtain ⟨bb, hb1, hb2⟩ : ∃ bb : Bool, liveB l ha hb = !bb ∧ (((ha, hb) ∈ fs ∧ bb = true) ∨ ((ha, hb) ∉ fs ∧ bb = false)) := by
            have hd := HT1.out.ni.dead (ha, hb) hmem
            by_cases hf : (ha, hb) ∈ fs
            · exact ⟨true, hd.1 hf, .inl ⟨hf, rfl⟩⟩
            · refine ⟨false, ?_, .inr ⟨hf, rfl⟩⟩
              cases hl : liveB l ha hb
              · exact absurd (hd.2 hl) hf
              · rfl
          have HLOOK : Hid (∀ x : Later (w'.alloc (.cells #[.int .i64 ha, .int .i64 hb] 31)), (Instr.lookup 47 (.map (some R)) (.agg #[.int .i64 ha, .int .i64 hb]) false).run Try.prog x.w = .ok (.bool bb) x.w) := Lib.hid (fun x => by
            have := ((HT1.out.later (nb_alloc (Below.refl _ _) (.cells #[.int .i64 ha, .int .i64 hb] 31))).later x.below).r.look Try.underlying47 (zeroBool' _) (ha, hb) (HOK.out _ hmem)
            rcases hb2 with ⟨hf, rfl⟩ | ⟨hf, rfl⟩
            · rw [if_pos hf] at this; exact this
            · rw [if_neg hf] at this; exact this)
          have HLV := Lib.hid hb1
          have kk0 : ∀ x : Later (w'.alloc (.cells #[.int .i64 ha, .int .i64 hb] 31)), x.w.cell? ⟨w'.heap.size, 0, none⟩ = some (.int .i64 ha) := fun x => x.cell (by simp)
          have kk1 : ∀ x : Later (w'.alloc (.cells #[.int .i64 ha, .int .i64 hb] 31)), x.w.cell? ⟨w'.heap.size, 1, none⟩ = some (.int .i64 hb) := fun x => x.cell (by simp)
          have klk := HLOOK.out
          clear hkey hlk hv hat hrg' hlt' hgr hsz hb1 hb2 hkl hmem HLOOK
          cases bb
          all_goals
            go_wp2_with fail
            refine wp_region_later (by kernel_rfl) (by kernel_rfl) ?_
            repeat (go_big_quiet_step ((first | (go_at_call 18; exact Calls.later (live_is ((HT1.out.later (nb_alloc (Below.refl _ _) _)).later (Later.below _)).o.s HLV.out)))))
            refine wpQuiet_nil ?_
            rintro _ ⟨nq, rfl⟩
            have HNQ := Lib.hid (nb_trans (nb_alloc (Below.refl _ _) _) nq.below)
            have HRN := Lib.hid (HRG'.out.kept (grown_of_below HNQ.out) (by simp) (by simp))
            go_wp2
            go_roundw
            case rel => exact ⟨_, _, HRN, HLF', nb_trans HB'.out HNQ.out⟩
            case measure => rw [HRN.out.left_eq, hrg.out.left_eq]; exact HLT.out

  · go_enter Try.func5, Try.ntmps5
    go_wp2_with fail
    refine (slotted_any _).mono ?_
    rintro e w0 ⟨rfl, hb0'⟩
    have HB0 := Lib.hid hb0'
    clear hb0'
    rcases Nat.lt_or_ge 1000 n0 with h1000 | h1000
    all_goals go_wp2_with (first | (go_at_call 8; refine (slotsNew_any _).mono ?_; rintro e w' ⟨rfl, rfl⟩))
    all_goals first
      | (guard_hyp h1000 : 1000 < n0
         have hmn : (1000 : Nat) ≤ n0 := by omega
         have hm1 : (1000 : Nat) < 1001 := by omega
         have hc : ∀ k, k < (1000 : Nat) → w.cell? ⟨b0, off0 + k, none⟩ = some (.int .i64 (z0.getD k 0)) := fun k hk => hc0 k (by omega)
         rw [show (1000 : Int) = ((1000 : Nat) : Int) from rfl]
         clear hc0 h1000
         generalize (1000 : Nat) = m at *)
      | (have hmn : n0 ≤ n0 := Nat.le_refl _
         have hm1 : n0 < 1001 := by omega
         have hc := hc0
         clear hc0 h1000
         generalize n0 = m at *)
    all_goals
      have HST := Lib.hid (Nev.start HB0.out)
      clear hmk

      go_loopw [27] (fun i wr => ∃ k : Nat, k ≤ m ∧ i = .int .i64 k ∧ ∃ F l ks fs, Hid (Nev w wr w0.heap.size (w0.heap.size + 1) (w0.heap.size + 1 + 1) k F l ks fs)) (fun i _ => m - (intOf i).toNat)
      case atStart => exact ⟨0, by omega, rfl, _, [], [], [], HST⟩
      case round =>
        obtain ⟨k, hk, rfl, F, l, ks, fs, hT⟩ := hrel
        clear HST
        generalize w0.heap.size + 1 + 1 = R at *
        generalize w0.heap.size + 1 = E at *
        generalize w0.heap.size = p at *
        by_cases hlt : k < m
        · have c0 : wr.cell? ⟨b0, off0 + k, none⟩ = some (.int .i64 (z0.getD k 0)) := by rw [hT.out.o.below.cell (p := ⟨b0, _, none⟩) hb0]; exact hc k hlt
          clear hc
          generalize z0.getD k 0 = y at *
          go_wp2_with fail
          refine (all_any p F l _ hT.out.o.s hT.out.o.ok).mono ?_
          rintro e w1 ⟨v1, rfl, ho1, hb1⟩
          have HT1 := Lib.hid (hT.out.later hb1)
          have HO1 := Lib.hid ho1.reads
          clear ho1 hb1 hT
          have hlen : (allL l).length ≤ 60 := Nat.le_trans (allL_len l) HT1.out.o.ok.len
          obtain ⟨hml, hop1⟩ := HO1.out.open
          have HFULL : Hid (takeE l ≠ 0 → takeE l = 2 ∧ 60 ≤ (allL l).length) := Lib.hid (fun he => take_full HT1.out.gen (by omega) he)
          have HMEM : Hid (∀ r, r < (allL l).length → (allL l).getD r (0, 0) ∈ allL l) := Lib.hid (fun r hr => memD hr)
          generalize hnl : (allL l).length = c at *
          clear hnl
          obtain ⟨a1, cap1, rfl, hadr⟩ : ∃ a1 cap1, v1 = .slice a1 c cap1 ∧ ∀ j, j < c → ∃ b off, a1 = some ⟨b, off, none⟩ ∧ b < w1.heap.size ∧ w1.cell? ⟨b, off + j * 2, none⟩ = some (.int .i64 ((allL l).getD j (0, 0)).1) ∧ w1.cell? ⟨b, off + j * 2 + 1, none⟩ = some (.int .i64 ((allL l).getD j (0, 0)).2) := by
            rcases hop1 with ⟨a1, cap1, rfl, hz1'⟩ | ⟨b1, off1, cap1, rfl, hb1, hlc1, hcm1, hc1⟩
            · exact ⟨_, _, rfl, fun j hj => by omega⟩
            · exact ⟨_, _, rfl, fun j hj => ⟨b1, off1, rfl, hb1, (cells2 rfl hc1 hj).1, (cells2 rfl hc1 hj).2⟩⟩
          have HADR := Lib.hid hadr
          clear hop1 hadr HO1
          unfold maxLen at hml
          have hcase : (y.tmod 2 == 0) = true ∨ ((y.tmod 2 == 0) = false ∧ ((c : Int) == 0) = true) ∨ ((y.tmod 2 == 0) = false ∧ ((c : Int) == 0) = false) := by
            cases (y.tmod 2 == 0) <;> cases ((c : Int) == 0) <;> simp
          rcases hcase with hev | ⟨hev, hcz⟩ | ⟨hev, hcz⟩
          case inr.inr =>
            have hcpos : 0 < c := by
              rcases Nat.eq_zero_or_pos c with e | e
              · subst e; simp at hcz
              · exact e
            have hr0 := Int.emod_nonneg y (show (c : Int) ≠ 0 by omega)
            have hr1 := Int.emod_lt_of_pos y (show 0 < (c : Int) by omega)
            obtain ⟨r, hr⟩ := Int.eq_ofNat_of_zero_le hr0
            rw [hr] at hr1
            have hrc : r < c := by omega
            obtain ⟨b1, off1, rfl, hb1, d0, d1⟩ := HADR.out r hrc
            have hmem := HMEM.out r hrc
            have HR := Lib.hid hr
            clear hr hr0 hr1
            generalize (allL l).getD r (0, 0) = h at *
            obtain ⟨ha, hb⟩ := h
            obtain ⟨ni', hnf, hfe, hfe2⟩ := HT1.out.ni.free hmem
            have HNI := Lib.hid ni'
            have HNF := Lib.hid hnf
            have HFE := Lib.hid hfe
            have HFE2 := Lib.hid hfe2
            have HLV := Lib.hid (mem_allL.1 hmem)
            have HKOK := Lib.hid (HT1.out.kok HLV.out)
            have HGEN := Lib.hid (HT1.out.gen.free ha hb)
            clear ni' hnf hfe hfe2 hmem
            go_wp2_with fail
            refine (rest_any y c _ (by omega) (by omega)).mono ?_
            rintro e w2 ⟨rfl, rfl⟩
            rw [HR.out]
            have HT2 := Lib.hid (HT1.out.later (nb_alloc (Below.refl _ _) (.cells #[.int .i64 ha, .int .i64 hb] 31)))
            have HNF1 : Hid (¬ F w1.heap.size) := Lib.hid (fun hf => by have := HT1.out.o.s.lt _ hf; omega)
            go_wp2_with fail
            refine (free_any p F l ha hb _ HT2.out.o.s HT2.out.o.ok).mono ?_
            rintro e w2 ⟨rfl, hs2, hk2⟩
            rw [HFE.out]
            have k0 : w2.cell? ⟨w1.heap.size, 0, none⟩ = some (.int .i64 ha) := hk2.cellS (p := ⟨w1.heap.size, 0, none⟩) (by simp) HNF1.out
            have k1 : w2.cell? ⟨w1.heap.size, 1, none⟩ = some (.int .i64 hb) := hk2.cellS (p := ⟨w1.heap.size, 1, none⟩) (by simp) HNF1.out
            have HO2 := Lib.hid (HT2.out.o.moved hs2 hk2 (Moves.refl _ _) (HT2.out.o.ok.free ha hb))
            have HK2 := Lib.hid hk2
            clear hs2 hk2
            go_wp2_with fail
            refine (free_any p F (freeL l ha hb) ha hb _ HO2.out.s HO2.out.ok).mono ?_
            rintro e w3 ⟨rfl, hs3, hk3⟩
            rw [HFE2.out]
            have k0' : w3.cell? ⟨w1.heap.size, 0, none⟩ = some (.int .i64 ha) := hk3.cellS (p := ⟨w1.heap.size, 0, none⟩) k0 HNF1.out
            have k1' : w3.cell? ⟨w1.heap.size, 1, none⟩ = some (.int .i64 hb) := hk3.cellS (p := ⟨w1.heap.size, 1, none⟩) k1 HNF1.out
            have HO3 : Hid (Own1 w w3 p F (freeL l ha hb)) := Lib.hid (by
              have hd : liveB (freeL l ha hb) ha hb = false := by
                cases hh : liveB (freeL l ha hb) ha hb
                · rfl
                · have := HFE2.out; rw [freeE_live hh] at this; cases this
              rw [freeL_dead hd] at hs3
              exact HO2.out.moved hs3 hk3 (Moves.refl _ _) HO2.out.ok)
            have HK3 : Hid (Kept F (w1.alloc (.cells #[.int .i64 ha, .int .i64 hb] 31)) w3) := Lib.hid (HK2.out.trans hk3 (fun _ h => .inl h))
            clear hs3 hk3 k0 k1
            obtain ⟨D, hoD, hnd, hok, hkD, hatD, hsD⟩ := HT2.out.r.kept HK3.out HT2.out.fr
            have HD := Lib.hid hoD
            have HR1 := Lib.hid hnd
            have HR2 := Lib.hid hok
            have HR3 := Lib.hid hkD
            have HR4 := Lib.hid hatD
            have HR5 := Lib.hid hsD
            clear hoD hnd hok hkD hatD hsD
            go_wp2_with (first | (at_mapUpdate; refine wpList_mapUpdate_own _ rfl _ _ _ 47 rfl 31 4 kHand.law Try.underlying47 heldR R k D rfl HD.out (by unfold maxLen; omega) _ _ (kHand.lit (ha, hb)) rfl rfl (kHand.key (ha, hb) HKOK.out) (.held (.bool true)) [] rfl ?_))
            intro w4 hown4 hgr4
            have HT4 : Hid (Nev w w4 p E R (k + 1) F (freeL l ha hb) ks (fs ++ [(ha, hb)])) := Lib.hid (HT2.out.freed HO3.out HK3.out HNI.out HGEN.out (by
              have := MapIs.put (K := kHand) HD.out HR1.out HR2.out HR3.out HR4.out HR5.out (ha, hb) HKOK.out (.bool true) hown4
              rw [if_neg HNF.out] at this
              rw [tru_upd] at this; exact this) hgr4)
            clear hown4 hgr4
            go_wp2
            go_roundw
            case rel => exact ⟨k + 1, by omega, by go_num, F, _, _, _, HT4⟩
            case measure => simp [intOf]; omega
          all_goals
            go_wp2_with fail
            refine (take_any p F l _ HT1.out.o.s HT1.out.o.ok).mono ?_
            rintro e w2 ⟨rfl, F2, hs2, hk2, hm2⟩
            have HO2 := Lib.hid (HT1.out.o.moved hs2 hk2 hm2 HT1.out.o.ok.take)
            have HK2 := Lib.hid hk2
            have HM2 := Lib.hid hm2
            have HG2 := Lib.hid (HT1.out.gen.take.mono (Nat.le_succ k))
            clear hs2 hk2 hm2
            by_cases he : takeE l = 0
            · obtain ⟨ni', hnk, hlv⟩ := HT1.out.ni.take HT1.out.o.ok he
              have HNI := Lib.hid ni'
              have HNK := Lib.hid hnk
              have HLV := Lib.hid hlv
              have HKOK : Hid (kHand.ok (takeH l)) := Lib.hid (by
                obtain ⟨h0, h1, h2⟩ := liveB_iff.1 hlv
                have := HO2.out.ok.len
                have := HO2.out.ok.gen (takeH l).1.toNat (by omega)
                rw [h2] at this
                simp only at this
                exact ⟨⟨by omega, by omega⟩, ⟨by omega, by omega⟩⟩)
              rw [he]
              clear he ni' hnk hlv HFULL
              generalize takeH l = h at *
              obtain ⟨ha, hb⟩ := h
              have HKA : Hid (Kept F w1 (w2.alloc (.cells #[.int .i64 ha, .int .i64 hb] 31))) := Lib.hid (HK2.out.trans (Kept.alloc F _ _) (fun _ h => .inl h))
              have hlk : (Instr.lookup 47 (.map (some E)) (.agg #[.int .i64 ha, .int .i64 hb]) false).run Try.prog (w2.alloc (.cells #[.int .i64 ha, .int .i64 hb] 31)) = .ok (.bool false) (w2.alloc (.cells #[.int .i64 ha, .int .i64 hb] 31)) := by
                have := (HT1.out.e.kept HKA.out HT1.out.fe).look Try.underlying47 (zeroBool' _) (ha, hb) HKOK.out
                rw [if_neg HNK.out] at this
                exact this
              go_wp2_with fail
              refine (live_any p F2 (takeL l) ha hb _ (HO2.out.later (nb_alloc (Below.refl _ _) _)).s).mono ?_
              rintro e w3 ⟨rfl, hb3⟩
              rw [HLV.out]
              have k0' : w3.cell? ⟨w2.heap.size, 0, none⟩ = some (.int .i64 ha) := by rw [hb3.cell (p := ⟨w2.heap.size, 0, none⟩) (by simp)]; simp
              have k1' : w3.cell? ⟨w2.heap.size, 1, none⟩ = some (.int .i64 hb) := by rw [hb3.cell (p := ⟨w2.heap.size, 1, none⟩) (by simp)]; simp
              have HO3 := Lib.hid ((HO2.out.later (nb_alloc (Below.refl _ _) _)).later hb3)
              have HK3 : Hid (Kept F w1 w3) := Lib.hid (HKA.out.trans (Kept.ofBelow (F := F) hb3) (fun _ h => .inl h))
              clear hb3 hlk
              obtain ⟨D, hoD, hnd, hok, hkD, hatD, hsD⟩ := HT1.out.e.kept HK3.out HT1.out.fe
              have HD := Lib.hid hoD
              have HR1 := Lib.hid hnd
              have HR2 := Lib.hid hok
              have HR3 := Lib.hid hkD
              have HR4 := Lib.hid hatD
              have HR5 := Lib.hid hsD
              clear hoD hnd hok hkD hatD hsD
              go_wp2_with (first | (at_mapUpdate; refine wpList_mapUpdate_own _ rfl _ _ _ 47 rfl 31 4 kHand.law Try.underlying47 heldR E k D rfl HD.out (by unfold maxLen; omega) _ _ (kHand.lit (ha, hb)) rfl rfl (kHand.key (ha, hb) HKOK.out) (.held (.bool true)) [] rfl ?_))
              intro w4 hown4 hgr4
              have HT4 : Hid (Nev w w4 p E R (k + 1) F2 (takeL l) (ks ++ [(ha, hb)]) fs) := Lib.hid (HT1.out.taken HO3.out HK3.out HM2.out HNI.out HG2.out (by
                have := MapIs.put (K := kHand) HD.out HR1.out HR2.out HR3.out HR4.out HR5.out (ha, hb) HKOK.out (.bool true) hown4
                rw [if_neg HNK.out] at this
                rw [tru_upd] at this; exact this) hgr4)
              clear hown4 hgr4
              go_wp2
              go_roundw
              case rel => exact ⟨k + 1, by omega, by go_num, F2, _, _, _, HT4⟩
              case measure => simp [intOf]; omega
            · obtain ⟨he2, h60⟩ := HFULL.out he
              have HNO := Lib.hid (take_none he)
              rw [he2]
              rw [HNO.out] at HO2 HG2
              have hc60 : decide ((c : Int) < 60) = false := by rw [decide_eq_false_iff_not]; omega
              have HT4 : Hid (Nev w (w2.alloc (.cells #[.int .i64 (takeH l).1, .int .i64 (takeH l).2] 31)) p E R (k + 1) F2 l ks fs) := Lib.hid (Nev.later (w := w2) ⟨HO2.out, (HT1.out.e.kept HK2.out HT1.out.fe).mono (Nat.le_succ k), (HT1.out.r.kept HK2.out HT1.out.fr).mono (Nat.le_succ k), (fun hf => (HM2.out E hf).elim HT1.out.fe (fun e => by have := HT1.out.e.lt; omega)), (fun hf => (HM2.out R hf).elim HT1.out.fr (fun e => by have := HT1.out.r.lt; omega)), HT1.out.er, HT1.out.eb, HT1.out.rb, HT1.out.ni, HG2.out⟩ (nb_alloc (Below.refl _ _) _))
              clear he he2
              go_wp2
              go_roundw
              case rel => exact ⟨k + 1, by omega, by go_num, F2, _, _, _, HT4⟩
              case measure => simp [intOf]; omega
        · obtain rfl : k = m := by omega

          generalize wr = wz at *
          have hlen : (allL l).length ≤ 60 := Nat.le_trans (allL_len l) hT.out.o.ok.len
          obtain ⟨D, hoD, hndD, hokD, hkD, hatD, hsD⟩ := hT.out.e
          have HD := Lib.hid hoD
          have HKD := Lib.hid hkD
          have HOK := Lib.hid hokD
          clear hoD hndD hokD hkD hatD hsD
          go_wp2_with (first | (at_range; refine wpList_range_own _ rfl _ 47 rfl 31 4 kHand.law Try.underlying47 heldR E k D rfl HD.out ?_))
          intro wi hrg hgi hsi
          have HRG := Lib.hid hrg
          have HBI : Hid (Below wz.heap.size wz wi) := Lib.hid ((Below.refl _ _).grown hgi (Nat.le_refl _) (fun q hq => by cases hq))
          clear hrg hgi hsi
          go_wp2
          go_loopw [88] (fun _ wx => ∃ left cnt, Hid (wx.ranges Try.prog 31 heldR E wz.heap.size k D left cnt) ∧ Hid (∀ kl, left kl = true → Maps.has D kl = true) ∧ Hid (Below wz.heap.size wz wx)) (fun _ wx => wx.rangeLeft E wz.heap.size)
          case atStart => exact ⟨_, _, HRG, fun _ h => h, HBI⟩
          case round =>
            obtain ⟨left, cnt, hrg, hlf, hB⟩ := hrel
            clear HRG HBI
            go_wp2_with (first | (at_next; refine wpList_next_ranges _ rfl _ rfl 31 kHand.law heldR id id (fun key kl _ => ⟨key, rfl⟩) (fun v y _ => ⟨v, rfl⟩) E wz.heap.size k D left cnt rfl hrg.out ?_ ?_))
            case refine_1 =>
              intro hc0 hl0
              have HT1 := Lib.hid (hT.out.later hB.out)
              clear hc0 hl0 hrg hlf
              go_wp2_with fail
              refine (all_any p F l _ HT1.out.o.s HT1.out.o.ok).mono ?_
              rintro e w9 ⟨v9, rfl, ho9, hb9⟩
              have HT2 := Lib.hid (HT1.out.later hb9)
              obtain ⟨a9, cap9, rfl, -⟩ := ho9.reads
              have hle := fun ty => HT2.out.e.lens Try.underlying47 ty
              have hlr := fun ty => HT2.out.r.lens Try.underlying47 ty
              have hfin : (((allL l).length : Int) == (ks.length : Int) - (fs.length : Int)) = true := by rw [beq_iff_eq]; have := HT2.out.ni.cnt; omega
              have hks := HT2.out.e.size_le
              have hfs := HT2.out.r.size_le
              clear ho9 hb9
              go_wp2
              go_ret
              exact ⟨rfl, HT2.out.o.below⟩
            case refine_2 =>
              intro x cv kl ya yb w' cnt' hkey hlk hv hat hrg' hlt' hgr hsz hen
              obtain ⟨⟨ha, hb⟩, hmem, hkl⟩ := HKD.out kl (hlf.out kl hlk)
              have hx : x = .agg #[.int .i64 ha, .int .i64 hb] := kHand.law.inj hkey (by rw [hkl]; exact kHand.key (ha, hb) (HOK.out _ hmem))
              subst hx
              have HB' : Hid (Below wz.heap.size wz w') := Lib.hid (hB.out.grown hgr hB.out.size (fun q hq => by cases hq; exact Nat.le_refl _))
              have HT1 := Lib.hid (hT.out.later HB'.out)
              have HRG' := Lib.hid hrg'
              have HLF' : Hid (∀ z, (left z && !z.sameKey kl) = true → Maps.has D z = true) := Lib.hid (fun z hz => hlf.out z (by simp at hz; exact hz.1))
              have HLT := Lib.hid hlt'
              obtain ⟨bb, hb1, hb2⟩ : ∃ bb : Bool, liveB l ha hb = !bb ∧ (((ha, hb) ∈ fs ∧ bb = true) ∨ ((ha, hb) ∉ fs ∧ bb = false)) := by
                have hd := HT1.out.ni.dead (ha, hb) hmem
                by_cases hf : (ha, hb) ∈ fs
                · exact ⟨true, hd.1 hf, .inl ⟨hf, rfl⟩⟩
                · refine ⟨false, ?_, .inr ⟨hf, rfl⟩⟩
                  cases hl : liveB l ha hb
                  · exact absurd (hd.2 hl) hf
                  · rfl
              have HLOOK : Hid (∀ x : Later (w'.alloc (.cells #[.int .i64 ha, .int .i64 hb] 31)), (Instr.lookup 47 (.map (some R)) (.agg #[.int .i64 ha, .int .i64 hb]) false).run Try.prog x.w = .ok (.bool bb) x.w) := Lib.hid (fun x => by
                have := ((HT1.out.later (nb_alloc (Below.refl _ _) (.cells #[.int .i64 ha, .int .i64 hb] 31))).later x.below).r.look Try.underlying47 (zeroBool' _) (ha, hb) (HOK.out _ hmem)
                rcases hb2 with ⟨hf, rfl⟩ | ⟨hf, rfl⟩
                · rw [if_pos hf] at this; exact this
                · rw [if_neg hf] at this; exact this)
              have HLV := Lib.hid hb1
              have kk0 : ∀ x : Later (w'.alloc (.cells #[.int .i64 ha, .int .i64 hb] 31)), x.w.cell? ⟨w'.heap.size, 0, none⟩ = some (.int .i64 ha) := fun x => x.cell (by simp)
              have kk1 : ∀ x : Later (w'.alloc (.cells #[.int .i64 ha, .int .i64 hb] 31)), x.w.cell? ⟨w'.heap.size, 1, none⟩ = some (.int .i64 hb) := fun x => x.cell (by simp)
              have klk := HLOOK.out
              clear hkey hlk hv hat hrg' hlt' hgr hsz hb1 hb2 hkl hmem HLOOK
              cases bb
              all_goals
                go_wp2_with fail
                refine wp_region_later (by kernel_rfl) (by kernel_rfl) ?_
                repeat (go_big_quiet_step ((first | (go_at_call 18; exact Calls.later (live_is ((HT1.out.later (nb_alloc (Below.refl _ _) _)).later (Later.below _)).o.s HLV.out)))))
                refine wpQuiet_nil ?_
                rintro _ ⟨nq, rfl⟩
                have HNQ := Lib.hid (nb_trans (nb_alloc (Below.refl _ _) _) nq.below)
                have HRN := Lib.hid (HRG'.out.kept (grown_of_below HNQ.out) (by simp) (by simp))
                go_wp2
                go_roundw
                case rel => exact ⟨_, _, HRN, HLF', nb_trans HB'.out HNQ.out⟩
                case measure => rw [HRN.out.left_eq, hrg.out.left_eq]; exact HLT.out



namespace slotsNever
theorem own : ownKnob Try.prog.godebug = none := by kernel_rfl
theorem laidOut : laidOutB Try.prog = true := by kernel_rfl

set_option maxRecDepth 100000 in
theorem lifted (os : Os) (started : os.Started) (H : Type) (enc : TypeId × Value → H) :
    ReturnsInHanded {} Try.checked os 5 .any (Rows.slotsNeverSpec.pre6 enc Try.prog Try.f5 Rows.slotsNeverRow.domain false) (Rows.slotsNeverSpec.post enc Try.prog Try.f5 false true false false) := by
  refine returnsInHanded_of_change (C := Try.checked) own started (by kernel_rfl) Try.func5
    (ChangeSpec.witness6 (enc := enc) (C := Try.checked) false ⟨#[], #[.slice none 0 0], []⟩ 8 (by kernel_rfl) (by kernel_rfl) (by kernel_rfl) (by kernel_rfl)) ?_
  intro W base args ds gs before hval0 hW hcnd _
  have hval : ∀ (j : Nat) t v, Try.f5.params[j]? = some t → args[j]? = some v → Value.okWide Try.prog W .any base t v := hval0
  have hW' := hW
  obtain ⟨p, q, hA0, hV, rfl, hfz, hnd⟩ := hW
  have hA : DataW.TrodAll enc Try.prog W 0 (fun _ => true) true Try.f5.params.toList args.toList ds p := hA0
  rw [Try.params5] at hA hval
  obtain ⟨v0, vs0, d0, ds0, p0, q0, hargs, rfl, rfl, h0, r0⟩ := trodAll_cons hA
  obtain ⟨rfl, rfl, rfl⟩ := trodAll_nil r0
  obtain rfl : args = #[v0] := by cases args; simp_all
  obtain ⟨rfl, rfl⟩ := trodVars_none hV
  have k0' := h0
  have lt0 : ∀ x ∈ p0, x.block < W.heap.size := by obtain ⟨m, hm⟩ := h0; exact DataW.trod_lt m _ _ _ hm
  obtain ⟨z0, i0⟩ : ∃ zs, Ints W v0 zs := by
    obtain ⟨a0, len0, cap0, rfl⟩ := okWide_slice Try.underlying27 (hval 0 27 v0 rfl rfl)
    exact Ints_of Try.underlying27 Try.underlying3 (by kernel_rfl) h0
  clear hA0 hval0
  refine (slotsNever_walk v0 z0 W i0).mono fun e W' ⟨he, bel⟩ => ?_
  subst he
  exact ⟨_, rfl, _, _, _, [], _, [], hW', trodAll_mk1 (shut_bool Try.underlying4 _), (trodAll_cons_mk (Below.trod laidOut (by kernel_rfl) (of_decide_eq_true (by kernel_rfl)) k0' bel lt0) trodAll_mk0), rfl, bel.frame _, fun h => by cases h⟩
end slotsNever

theorem slotsNever_proved : Rows.SlotsNeverSaid :=
  OpenClaim.holds_of_wide 5 Try.f5 rfl rfl rfl rfl rfl rfl rfl ⟨rfl, rfl, rfl, rfl, rfl⟩ rfl rfl rfl rfl rfl (by kernel_rfl) Try.func5 (by kernel_rfl)
    (of_decide_eq_true (by kernel_rfl)) (by unfold Func.isWrapper; first | (rw [if_pos (by decide +kernel)]; kernel_rfl) | (rw [if_neg (by decide +kernel)]; exact ⟨rfl, rfl⟩))
    (fun os started H enc _ => slotsNever.lifted os started H enc)

end Go.Proofs.Ytdaefadapkkgjaa

/- The contract of Under of package family. -/
import Derived.Test.YtlclceiebnnpgaaFamKids
import Derived.Deep.RegionLaw
import Derived.Laws.OwnMore
namespace Go.Proofs.Ytlclceiebnnpgaa
set_option maxRecDepth 8000
open Go.RowKit

theorem cloneHd_new (w : World) (B : Nat) (h : B ≤ w.heap.size) : (w.alloc (.cells #[] 38)).ownsRow B 38 2 (.slice (some ⟨w.heap.size, 0, none⟩) 0 0) 0 [] :=
  ⟨rfl, .inr ⟨w.heap.size, 0, #[], rfl, h, heap_alloc_new w _, Nat.le_refl _, by unfold maxLen; omega, rfl, rfl⟩⟩
set_option maxHeartbeats 1000000 in
theorem cloneHd_any (v : Value) (xs : List (Int × Int)) (w : World) (h : OwnsF elHand w 0 38 v xs) (hl : xs.length * 16 ≤ 140737488355328) :
    Calls Try.prog 34 #[v] w fun e w' => ∃ v', e = .returned v' ∧ OwnsF elHand w' w.heap.size 38 v' xs ∧ Below w.heap.size w w' := by
  obtain ⟨i0, hi, hz0, hz1, hz2⟩ := info_parts infoHand
  have HR := Lib.hid h.reads
  rcases h.owns.form with ⟨rfl, rfl⟩ | ⟨g, cap, cur, rfl, hh, hg, hn, hcap, hsz⟩
  · have heq : ∀ x : World, (binOp .eql 51 (.slice none 0 0) (.slice none 0 0)).run Try.prog x = .ok (.bool true) x := fun x => Lib.run_eql_slice_nil x 51 _ none 0 0 0 0 Try.underlying51
    go_enter Try.func34, Try.ntmps34
    go_wp2
    go_ret
    exact ⟨_, rfl, OwnsF.nil _ _ _ _, Below.refl _ _⟩
  · have HH := Lib.hid h
    have HC : Hid (∀ X, Below w.heap.size w X → ∀ j u, (xs.flatMap elHand.enc)[j]? = some u → X.cell? ((⟨g, 0, none⟩ : Addr).add j) = some u) := Lib.hid (fun X hX j u hu => by
      rw [addr_add', Nat.zero_add, hX.cell (p := ⟨g, j, none⟩) hg, World.ownsRow.cellAt h.owns j (by have := (List.getElem?_eq_some_iff.1 hu).1; rwa [length_enc] at this)]
      exact hu)
    have HL := Lib.hid hl
    have HL2 : Hid (xs.length ≤ maxLen) := Lib.hid (Nat.le_trans hn hcap)
    have heq : ∀ x : World, (binOp .eql 51 (.slice (some ⟨g, 0, none⟩) xs.length cap) (.slice none 0 0)).run Try.prog x = .ok (.bool false) x := fun x => Lib.run_eql_slice_nil x 51 _ (some ⟨g, 0, none⟩) xs.length cap 0 0 Try.underlying51
    clear h hh
    go_enter Try.func34, Try.ntmps34
    go_wp2_with (first | (at_builtin; refine wpList_append_own _ rfl _ _ 51 rfl w.heap.size 38 i0 (.agg #[.int .i64 0, .int .i64 0]) 2 16 Try.underlying51 hi hz0 hz1 hz2 rfl (by decide) _ 0 [] rfl (cloneHd_new w w.heap.size (Nat.le_refl _)) ⟨g, 0, none⟩ xs.length cap (xs.flatMap elHand.enc) rfl (length_enc elHand xs) (HC.out _ (nb_alloc (Below.refl _ _) _)) (by intro u hu; obtain ⟨x, _, hx⟩ := List.mem_flatMap.1 hu; exact elHand.one x u hx) (by rw [Nat.zero_add]; exact HL2.out) (by rw [Nat.zero_add]; exact HL.out) (by simp) ?_))
    intro v' w2 hown hgr _
    have HB2 : Hid (Below w.heap.size w w2) := Lib.hid ((nb_alloc (Below.refl _ _) _).grown hgr (by simp) (fun j hj => by simp [Value.ownBlock] at hj; omega))
    have HO2 : Hid (OwnsF elHand w2 w.heap.size 38 v' xs) := Lib.hid (hown)
    clear hown hgr
    go_wp2
    go_ret
    exact ⟨_, rfl, HO2.out, HB2.out⟩


theorem OwnsF.cutTo' {α : Type} {E : El α} {w : World} {B : Nat} {T : TypeId} {g n cap t : Nat} {xs : List α} (h : OwnsF E w B T (.slice (some ⟨g, 0, none⟩) n cap) xs) (ht : t ≤ xs.length) : OwnsF E w B T (.slice (some ⟨g, 0, none⟩) t cap) (xs.take t) := by
  have hft : ∀ (xs : List α) (t : Nat), (xs.take t).flatMap E.enc = (xs.flatMap E.enc).take (t * E.size) := fun xs => by
    induction xs with
    | nil => intro t; simp
    | cons x xs ih =>
      intro t
      cases t with
      | zero => simp
      | succ t => rw [List.take_succ_cons, List.flatMap_cons, List.flatMap_cons, ih t, List.take_append, E.len, show (t + 1) * E.size - E.size = t * E.size by rw [Nat.add_mul]; omega, List.take_of_length_le (l := E.enc x) (by rw [E.len, Nat.add_mul]; omega)]
  have hlen : (xs.take t).length = t := by rw [List.length_take]; omega
  rcases h.2 with ⟨e, _⟩ | ⟨g', cap', cur, e, hb, hh, hn, hc, hsz, htk⟩
  · cases e
  · simp only [Value.slice.injEq, Option.some.injEq, Addr.mk.injEq, and_true] at e
    obtain ⟨rfl, rfl, rfl⟩ := e
    refine ⟨?_, .inr ⟨g, cap, cur, by rw [hlen], hb, hh, by rw [hlen]; omega, hc, hsz, ?_⟩⟩
    · rw [length_enc, hlen]
    · rw [hlen, hft, ← htk, List.take_take, Nat.min_eq_left (Nat.mul_le_mul_right _ ht)]
theorem nil_or_snoc {α : Type} (l : List α) : l = [] ∨ ∃ s x, l = s ++ [x] := by
  rcases List.eq_nil_or_concat l with h | ⟨s, x, h⟩
  · exact .inl h
  · exact .inr ⟨s, x, by rw [h, List.concat_eq_append]⟩
def lenV : Value → Nat
  | .slice _ n _ => n
  | _ => 0
theorem stack_step {bs : List Bd} {d : Hd → Nat} {M : Nat} (ha : AcyBy bs d M) {out s : List Hd} {nx h : Hd} (e : out ++ (s ++ [nx]).reverse.flatMap (fun c => c :: under bs M c) = under bs M h) :
    (out ++ [nx]) ++ (s ++ (kids bs nx).reverse).reverse.flatMap (fun c => c :: under bs M c) = under bs M h := by
  rw [← e, List.reverse_append, List.reverse_reverse, List.flatMap_append, List.reverse_append]
  simp only [List.reverse_cons, List.reverse_nil, List.nil_append, List.flatMap_cons, List.append_assoc, List.cons_append]
  rw [ha.under_eq nx]
theorem flat_len (g : Hd → List Hd) : ∀ s : List Hd, s.length ≤ (s.flatMap (fun c => c :: g c)).length
  | [] => by simp
  | x :: s => by rw [List.flatMap_cons, List.length_append, List.length_cons, List.length_cons]; have := flat_len g s; omega

set_option maxHeartbeats 4000000 in
theorem famUnder_any (p : Nat) (F : Nat → Prop) (bs : List Bd) (d : Hd → Nat) (M : Nat) (a b : Int) (w : World) (h : FamAt w p F bs) (ok : FOk bs) (ha : AcyBy bs d M) (hab : okH (a, b)) (hn : bs.length * 32 ≤ 140737488355328) :
    Calls Try.prog 18 #[.pointer (some ⟨p, 0, none⟩), .agg #[.int .i64 a, .int .i64 b]] w (HandsPost w (under bs M (a, b))) := by
  obtain ⟨i0, hi, hz0, hz1, hz2⟩ := info_parts infoHand
  have hX : Below w.heap.size w (w.alloc (.cells #[.int .i64 a, .int .i64 b] 38)) := nb_alloc (Below.refl _ _) _
  have HX := Lib.hid hX
  have HXB : Hid ((w.alloc (.cells #[.int .i64 a, .int .i64 b] 38)).heap[w.heap.size]? = some (.cells #[.int .i64 a, .int .i64 b] 38)) := Lib.hid (heap_alloc_new _ _)
  have HW := Lib.hid (h.later hX)
  have HOK := Lib.hid ok
  have HAC := Lib.hid ha
  have HN := Lib.hid hn
  have HUL := Lib.hid (ha.under_len ok.sorted (a, b))
  have HUE := Lib.hid (ha.under_eq (a, b))
  obtain ⟨U, hU⟩ : ∃ U, under bs M (a, b) = U := ⟨_, rfl⟩
  rw [hU] at HUL HUE
  have HUO : Hid (∀ x ∈ U, okH x) := Lib.hid (fun x hx => by
    rw [← hU] at hx
    cases ha.in_under.1 hx with
    | base hb => exact (ok.ok _ hb).1
    | step hb _ => exact (ok.ok _ hb).1)
  have HU := Lib.hid hU
  clear h ok ha hX
  rw [hU]
  clear hU
  go_enter Try.func18, Try.ntmps18
  go_wp2_with fail
  generalize (w.alloc (.cells #[.int .i64 a, .int .i64 b] 38)) = X at *
  refine (famKids_any p F bs _ HW.out HOK.out HN.out).mono ?_
  rintro e w2 ⟨mb, B, rfl, hmb, hmB, hB2, ⟨ks, f, hch⟩, hb2⟩
  have hxl := (Array.getElem?_eq_some_iff.1 HXB.out).1
  have hx2 : w2.heap[w.heap.size]? = some (.cells #[.int .i64 a, .int .i64 b] 38) := by rw [hb2.block _ hxl]; exact HXB.out
  have hx2l := (Array.getElem?_eq_some_iff.1 hx2).1
  have k0 : w2.cell? ⟨w.heap.size, 0, none⟩ = some (.int .i64 a) := by rw [cell_of_row _ _ _ _ _ _ hx2]; rfl
  have k1 : w2.cell? ⟨w.heap.size, 1, none⟩ = some (.int .i64 b) := by rw [cell_of_row _ _ _ _ _ _ hx2]; rfl
  obtain ⟨v1, hlk, ho1, -⟩ := hch.lookR (a, b) hab
  rw [lstB_rev] at ho1
  have hlk2 := hlk w2 rfl
  have HO1 := Lib.hid ho1
  have HCH := Lib.hid hch
  have HB2 := Lib.hid (nb_trans HX.out hb2)
  have HMB : Hid (mb < w2.heap.size) := Lib.hid (by omega)
  have HKU : Hid ((kids bs (a, b)).reverse.length ≤ U.length) := Lib.hid (by rw [HUE.out, List.length_reverse]; exact flat_len _ _)
  clear hlk hch ho1 hb2 hx2
  dsimp only at hlk2
  go_wp2_with fail
  refine (cloneHd_any v1 _ _ (HO1.out.weaken (Nat.zero_le _)) (by have := HKU.out; have := HUL.out; have := HN.out; omega)).mono ?_
  rintro e w3 ⟨vs, rfl, hos, hb3⟩
  have HOS := Lib.hid hos
  have HB3 := Lib.hid hb3
  clear hos hb3 hlk2 k0 k1
  go_wp2
  go_loopw [6, 7] (fun v6 v7 wr => ∃ (stk out : List Hd), Hid (OwnsF elHand wr w2.heap.size 38 v6 stk) ∧ Hid (OwnsF elHand wr w2.heap.size 38 v7 out) ∧ Hid (∀ k, v6.ownBlock = some k → v7.ownBlock ≠ some k) ∧ Hid (out ++ stk.reverse.flatMap (fun c => c :: under bs M c) = U) ∧ Hid (Below w2.heap.size w2 wr)) (fun _ v7 _ => U.length - lenV v7)
  case atStart => exact ⟨_, [], HOS, OwnsF.nil _ _ _ _, Lib.hid (fun k _ => by simp [Value.ownBlock]), Lib.hid (by rw [List.nil_append, List.reverse_reverse]; exact HUE.out.symm), HB3⟩
  case round =>
    obtain ⟨stk, out, hS, hO, hap, heq, hB⟩ := hrel
    rcases nil_or_snoc stk with rfl | ⟨s, nx, rfl⟩
    · have HE : Hid (out = U) := Lib.hid (by have := heq.out; simpa using this)
      rw [HE.out] at hO
      obtain ⟨a6, c6, rfl, -⟩ := hS.out.reads
      simp only [List.length_nil]
      go_wp2
      go_ret
      exact ⟨_, rfl, hO.out.weaken (by have := HB2.out.size; omega), nb_trans HB2.out hB.out⟩
    · have HNX := Lib.hid (stack_step HAC.out (by rw [HU.out]; exact heq.out))
      rw [HU.out] at HNX
      have hlen := congrArg List.length heq.out
      have hfl := flat_len (under bs M) (s ++ [nx]).reverse
      have hlen2 := congrArg List.length HNX.out
      have hfl2 := flat_len (under bs M) (s ++ (kids bs nx).reverse).reverse
      simp only [List.length_append, List.length_reverse, List.length_cons, List.length_nil] at hlen hfl hlen2 hfl2
      have hul := HUL.out
      have hnn := HN.out
      have hL1 : out.length + s.length + 1 ≤ U.length := by omega
      have hL2 : out.length + 1 + s.length + (kids bs nx).reverse.length ≤ U.length := by rw [List.length_reverse]; omega
      clear hlen hfl hlen2 hfl2
      have hnxU : nx ∈ U := by rw [← HNX.out]; simp
      obtain ⟨n1, n2⟩ := nx
      obtain ⟨g, cap, rfl, hgw, hml, c0, c1, -⟩ := hS.out.owns.open2 rfl (k := s.length) (by simp)
      have eg : (s ++ [(n1, n2)]).getD s.length elHand.zero = (n1, n2) := by rw [List.getD_eq_getElem?_getD, List.getElem?_append_right (Nat.le_refl _)]; simp
      rw [eg] at c0 c1
      replace c0 : wr.cell? ⟨g, s.length * 2, none⟩ = some (.int .i64 n1) := c0
      replace c1 : wr.cell? ⟨g, s.length * 2 + 1, none⟩ = some (.int .i64 n2) := c1
      have hSc := hS.out.cutTo' (t := s.length) (by simp)
      rw [List.take_left' rfl] at hSc
      obtain ⟨v2, hlk, ho2, hv2⟩ := HCH.out.lookR (n1, n2) (HUO.out _ hnxU)
      rw [lstB_rev] at ho2 hv2
      obtain ⟨ol, hol⟩ : ∃ ol, out.length = ol := ⟨_, rfl⟩
      obtain ⟨a7, c7, e7, -⟩ := hO.out.reads
      obtain ⟨m, hm⟩ : ∃ m, s.length = m := ⟨_, rfl⟩
      obtain ⟨cs, hcs⟩ : ∃ cs, (kids bs (n1, n2)).reverse = cs := ⟨_, rfl⟩
      rw [hm] at hL1 hL2 c0 c1 hSc
      rw [hcs] at ho2 hv2 HNX hL2
      have es : (s ++ [(n1, n2)]).length = m + 1 := by rw [List.length_append, hm]; rfl
      rw [es] at hml ⊢
      have HSC : Hid (OwnsF elHand wr w2.heap.size 38 (.slice (some ⟨g, 0, none⟩) m cap) s) := Lib.hid hSc
      have HG : Hid (w2.heap.size ≤ g) := Lib.hid (hS.out.ge rfl)
      have HLK := Lib.hid hlk
      have HO2 := Lib.hid ho2
      have HV2 := Lib.hid hv2
      have HMS := Lib.hid hm
      have HOL := Lib.hid hol
      rw [hol] at hL1 hL2
      have HXN : Hid ((wr.alloc (.cells #[.int .i64 n1, .int .i64 n2] 38)).heap[wr.heap.size]? = some (.cells #[.int .i64 n1, .int .i64 n2] 38)) := Lib.hid (heap_alloc_new _ _)
      have HBN : Hid (Below wr.heap.size wr (wr.alloc (.cells #[.int .i64 n1, .int .i64 n2] 38))) := Lib.hid (nb_alloc (Below.refl _ _) _)
      subst e7
      rw [hol] at hO hap ⊢
      unfold maxLen at hml
      clear hSc hlk ho2 hv2 eg hcs es hol hm hS
      have HOA : Hid (OwnsF elHand ((wr.alloc (.cells #[.int .i64 n1, .int .i64 n2] 38)).alloc (.cells #[.int .i64 n1, .int .i64 n2] 38)) w2.heap.size 38 (.slice a7 ol c7) out) := Lib.hid (hO.out.later (nb_alloc (nb_alloc (Below.refl _ _) _) _))
      have HOAR := Lib.hid (show World.ownsRow _ w2.heap.size 38 2 (.slice a7 ol c7) ol (out.flatMap elHand.enc) from by have := HOA.out; unfold OwnsF at this; rw [HOL.out] at this; exact this)
      have HBA : Hid (Below wr.heap.size wr ((wr.alloc (.cells #[.int .i64 n1, .int .i64 n2] 38)).alloc (.cells #[.int .i64 n1, .int .i64 n2] 38))) := Lib.hid (nb_alloc (nb_alloc (Below.refl _ _) _) _)
      have HSA : Hid (((wr.alloc (.cells #[.int .i64 n1, .int .i64 n2] 38)).alloc (.cells #[.int .i64 n1, .int .i64 n2] 38)).heap.size = wr.heap.size + 2) := Lib.hid (by simp)
      have hbsz := hB.out.size
      have HNA : Hid (((wr.alloc (.cells #[.int .i64 n1, .int .i64 n2] 38)).alloc (.cells #[.int .i64 n1, .int .i64 n2] 38)).heap[wr.heap.size + 1]? = some (.cells #[.int .i64 n1, .int .i64 n2] 38)) := Lib.hid (heap_alloc2_new _ _ _)
      have HNO : Hid (((wr.alloc (.cells #[.int .i64 n1, .int .i64 n2] 38)).alloc (.cells #[.int .i64 n1, .int .i64 n2] 38)).heap[wr.heap.size]? = some (.cells #[.int .i64 n1, .int .i64 n2] 38)) := Lib.hid (heap_alloc2_old _ _ _)
      go_wp2_with (first | (at_builtin; refine wpList_append_lies _ rfl _ _ 51 rfl w2.heap.size 38 i0 _ 2 16 Try.underlying51 hi hz0 hz1 hz2 rfl (by decide) _ ol (out.flatMap elHand.enc) rfl HOAR.out ⟨wr.heap.size + 1, 0, none⟩ 1 1 [.int .i64 n1, .int .i64 n2] rfl rfl (World.news_of_block HNA.out) (elHand.one (n1, n2)) (by decide) ?d3 ?d4 ?d5 (wr.heap.size + 2) ?d6 ?_))
      case d3 => unfold maxLen; omega
      case d4 => omega
      case d5 => omega
      intro g7 cap7 w5 hown hgr hat hg7
      have HGO : Hid (OwnsF elHand w5 w2.heap.size 38 (.slice (some ⟨g7, 0, none⟩) (ol + 1) cap7) (out ++ [(n1, n2)])) := Lib.hid (by
        have := OwnsF.snoc (E := elHand) (xs := out) (x := (n1, n2)) (by rw [HOL.out]; exact hown)
        exact this)
      have hk5 : Kept (fun k => (Value.slice a7 ol c7).ownBlock = some k) wr w5 := (Kept.ofBelow HBA.out).trans (Kept.grown hgr (fun k e => e)) (fun _ e => .inl e)
      have hg7g : g7 ≠ g := by
        rcases hat with e | e
        · intro q; exact hap.out g rfl (by rw [e, q])
        · omega
      have HS5 : Hid (OwnsF elHand w5 w2.heap.size 38 (.slice (some ⟨g, 0, none⟩) m cap) s) := Lib.hid (HSC.out.kept hk5 (fun k e e2 => hap.out k e e2))
      have HB5 : Hid (Below w2.heap.size w2 w5) := Lib.hid (hB.out.trans (hk5.below hbsz (fun k e => hO.out.ge e)))
      have hx5 : w5.heap[wr.heap.size]? = some (.cells #[.int .i64 n1, .int .i64 n2] 38) := by rw [hgr.block _ (by rw [HSA.out]; omega) (fun e => by have := hO.out.lt e.symm; omega)]; exact HNO.out
      have hx5l := (Array.getElem?_eq_some_iff.1 hx5).1
      have hlk5 := HLK.out w5.drew (HB5.out.block mb HMB.out)
      have kk0 : w5.cell? ⟨wr.heap.size, 0, none⟩ = some (.int .i64 n1) := by rw [cell_of_row _ _ _ _ _ _ hx5]; rfl
      have kk1 : w5.cell? ⟨wr.heap.size, 1, none⟩ = some (.int .i64 n2) := by rw [cell_of_row _ _ _ _ _ _ hx5]; rfl
      clear hown hgr hat hk5 hx5 c0 c1
      have hmc : m ≤ cap := by
        obtain ⟨_, _, e9, h9, -⟩ := HSC.out.reads
        simp only [Value.slice.injEq] at e9
        omega
      go_wp2_with fail
      go_still_tail 6, (by kernel_rfl)
      change wpList _ _ _ _ _ w5.drew
      clear hlk5 kk0 kk1
      have HSD := Lib.hid (show World.ownsRow w5.drew w2.heap.size 38 2 (.slice (some ⟨g, 0, none⟩) m cap) m (s.flatMap elHand.enc) from by have := HS5.out; unfold OwnsF at this; rw [HMS.out] at this; exact this)
      rcases HV2.out with ⟨rfl, hc0⟩ | hc0
      · have hap0 := fun ty => run_append_owned_none (P := Try.prog) (w := w5.drew) w2.heap.size 51 ty 38 i0 2 Try.underlying51 hi _ m _ HSD.out
        have HNX0 : Hid (out ++ [(n1, n2)] ++ s.reverse.flatMap (fun c => c :: under bs M c) = U) := Lib.hid (by have := HNX.out; rw [hc0, List.append_nil] at this; exact this)
        have HEND : Hid (OwnsF elHand w5.drew w2.heap.size 38 (.slice (some ⟨g, 0, none⟩) m cap) s ∧ OwnsF elHand w5.drew w2.heap.size 38 (.slice (some ⟨g7, 0, none⟩) (ol + 1) cap7) (out ++ [(n1, n2)]) ∧ Below w2.heap.size w2 w5.drew) := Lib.hid ⟨HS5.out, HGO.out, HB5.out.drew⟩
        go_wp2
        go_roundw
        case rel => exact ⟨s, out ++ [(n1, n2)], Lib.hid HEND.out.1, Lib.hid HEND.out.2.1, Lib.hid (fun k e => by simp [Value.ownBlock] at e ⊢; omega), HNX0, Lib.hid HEND.out.2.2⟩
        case measure => simp [lenV]; omega
      · rcases HO2.out.owns.form with ⟨-, e0⟩ | ⟨g2, cap2, cur2, rfl, hh2, hg2, hn2, hcap2, hsz2⟩
        · exact absurd e0 hc0
        · have hcp : 0 < cs.length := List.length_pos_iff.2 hc0
          have HC2 : Hid (∀ j u, (cs.flatMap elHand.enc)[j]? = some u → w5.drew.cell? ((⟨g2, 0, none⟩ : Addr).add j) = some u) := Lib.hid (fun j u hu => by
            rw [addr_add', Nat.zero_add, HB5.out.drew.cell (p := ⟨g2, j, none⟩) hg2, World.ownsRow.cellAt HO2.out.owns j (by have := (List.getElem?_eq_some_iff.1 hu).1; rwa [length_enc] at this)]
            exact hu)
          clear hh2 hsz2
          go_wp2_with (first | (at_builtin; refine wpList_append_lies _ rfl _ _ 51 rfl w2.heap.size 38 i0 _ 2 16 Try.underlying51 hi hz0 hz1 hz2 rfl (by decide) _ m (s.flatMap elHand.enc) rfl HSD.out ⟨g2, 0, none⟩ cs.length cap2 (cs.flatMap elHand.enc) rfl (length_enc elHand cs) HC2.out (by intro u hu; obtain ⟨x, _, hx⟩ := List.mem_flatMap.1 hu; exact elHand.one x u hx) hcp ?d3 ?d4 ?d5 w5.heap.size rfl ?_))
          case d3 => unfold maxLen; omega
          case d4 => omega
          case d5 => exact HB5.out.size
          intro g6 cap6 w6 hown hgr hat hg6
          have hk6 : Kept (fun k => k = g) w5 w6 := (Kept.drew (fun k => k = g) w5).trans (Kept.grown hgr (fun k e => by simp [Value.ownBlock] at e; omega)) (fun _ e => .inl e)
          have hg67 : g6 ≠ g7 := by
            rcases hat with e | e
            · simp [Value.ownBlock] at e; omega
            · omega
          have HEND : Hid (OwnsF elHand w6 w2.heap.size 38 (.slice (some ⟨g6, 0, none⟩) (m + cs.length) cap6) (s ++ cs) ∧ OwnsF elHand w6 w2.heap.size 38 (.slice (some ⟨g7, 0, none⟩) (ol + 1) cap7) (out ++ [(n1, n2)]) ∧ Below w2.heap.size w2 w6) := Lib.hid ⟨by
            unfold OwnsF; rw [List.flatMap_append, List.length_append, HMS.out]; exact hown, HGO.out.kept hk6 (fun k e => by simp [Value.ownBlock] at e; omega), HB5.out.trans (hk6.below HB5.out.size (fun k e => by rw [e]; exact HG.out))⟩
          clear hown hgr hat hk6
          go_wp2
          go_roundw
          case rel => exact ⟨s ++ cs, out ++ [(n1, n2)], Lib.hid HEND.out.1, Lib.hid HEND.out.2.1, Lib.hid (fun k e => by simp [Value.ownBlock] at e ⊢; omega), HNX, Lib.hid HEND.out.2.2⟩
          case measure => simp [lenV]; omega
end Go.Proofs.Ytlclceiebnnpgaa

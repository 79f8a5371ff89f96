/- The contracts of Children and Gone of package family. -/
import Derived.Test.YtlclceiebnnpgaaFamSelect
namespace Go.Proofs.Ytlclceiebnnpgaa
set_option maxRecDepth 8000
open Go.RowKit

theorem made_enc' {α : Type} (E : El α) (z : Array Value) (hz : z.toList = E.enc E.zero) (n : Nat) : (madeCells z (n * E.size)).toList = (List.replicate n E.zero).flatMap E.enc := by
  have hs : z.size = E.size := by rw [← Array.length_toList, hz, E.len]
  apply List.ext_getElem?
  intro j
  by_cases hj : j < n * E.size
  · have hd : j / E.size < n := Nat.div_lt_of_lt_mul (by rwa [Nat.mul_comm])
    have hm := Nat.mod_lt j E.pos
    have he := enc_at E (List.replicate n E.zero) (j / E.size) (j % E.size) (by simpa using hd) hm
    rw [Nat.mul_comm, Nat.div_add_mod] at he
    have e0 : (List.replicate n E.zero).getD (j / E.size) E.zero = E.zero := by simp [List.getD_eq_getElem?_getD, hd]
    have hm' : j % z.size < z.size := by rw [hs]; exact hm
    have e1 : (madeCells z (n * E.size)).toList[j]? = some (z[j % z.size]!) := by simp [madeCells, hj]
    rw [he, e0, ← hz, e1, ← hs, getElem!_pos z _ hm', Array.getElem?_toList, Array.getElem?_eq_getElem hm']
  · rw [List.getElem?_eq_none (by simp [madeCells]; omega), List.getElem?_eq_none (by rw [length_enc]; simp; omega)]

def lsC (ys : List Bd) (k : Nat) : List Hd := (ys.take k).map (·.1) ++ List.replicate (ys.length - k) (0, 0)
theorem lsC_len {ys : List Bd} {k : Nat} (h : k ≤ ys.length) : (lsC ys k).length = ys.length := by simp [lsC]; omega
theorem lsC_zero (ys : List Bd) : lsC ys 0 = List.replicate ys.length (0, 0) := by simp [lsC]
theorem lsC_end (ys : List Bd) : lsC ys ys.length = ys.map (·.1) := by simp [lsC]
theorem lsC_next {ys : List Bd} {k : Nat} (h : k < ys.length) : (lsC ys k).set k (ys.getD k bdZ).1 = lsC ys (k + 1) := by
  unfold lsC
  have hl : ((ys.take k).map (·.1)).length = k := by simp; omega
  rw [List.set_append_right _ _ (by omega), hl, Nat.sub_self, show ys.length - k = (ys.length - (k + 1)) + 1 by omega, List.replicate_succ, List.set_cons_zero, List.take_add_one, List.getElem?_eq_getElem h, List.getD_eq_getElem?_getD, List.getElem?_eq_getElem h, List.map_append, List.append_assoc]
  rfl
theorem OwnsF.storedHd {w : World} {B : Nat} {T : TypeId} {g n cap : Nat} {xs : List Hd} (h : OwnsF elHand w B T (.slice (some ⟨g, 0, none⟩) n cap) xs) (k : Nat) (x : Hd) (hk : k < xs.length) :
    OwnsF elHand ((w.setCell ⟨g, k * 2, none⟩ (.int .i64 x.1)).setCell ⟨g, k * 2 + 1, none⟩ (.int .i64 x.2)) B T (.slice (some ⟨g, 0, none⟩) n cap) (xs.set k x) := by
  have h1 := h.stored k 0 (x.1, (xs.getD k elHand.zero).2) (.int .i64 x.1) hk (by decide) rfl
  have h2 := h1.stored k 1 x (.int .i64 x.2) (by simpa using hk) (by decide) (by rw [getD_set_eq _ _ _ _ hk]; rfl)
  rw [List.set_set] at h2
  exact h2

def HandsPost (w : World) (xs : List Hd) (e : Ending) (w' : World) : Prop := ∃ v, e = .returned v ∧ OwnsF elHand w' w.heap.size 38 v xs ∧ Below w.heap.size w w'

set_option maxHeartbeats 4000000 in
theorem famChildren_any (p : Nat) (F : Nat → Prop) (bs : List Bd) (a b : Int) (w : World) (h : FamAt w p F bs) (hs : SortedB bs) (hn : bs.length * 32 ≤ 140737488355328) :
    Calls Try.prog 16 #[.pointer (some ⟨p, 0, none⟩), .agg #[.int .i64 a, .int .i64 b]] w (HandsPost w (kids bs (a, b))) := by
  obtain ⟨i0, hi, hz0, hz1, hz2⟩ := info_parts infoHand
  have hX : Below w.heap.size w (w.alloc (.cells #[.int .i64 a, .int .i64 b] 38)) := nb_alloc (Below.refl _ _) _
  have HX := Lib.hid hX
  have HXB : Hid ((w.alloc (.cells #[.int .i64 a, .int .i64 b] 38)).heap[w.heap.size]? = some (.cells #[.int .i64 a, .int .i64 b] 38)) := Lib.hid (heap_alloc_new _ _)
  have HW := Lib.hid (h.later hX)
  have HS := Lib.hid hs
  have HN := Lib.hid hn
  obtain ⟨ys, hys⟩ : ∃ ys, bs.filter (fun x => decide (x.2 = (a, b))) = ys := ⟨_, rfl⟩
  have HK : Hid (kids bs (a, b) = ys.map (·.1)) := Lib.hid (by rw [← hys]; rfl)
  have HYL : Hid (ys.length ≤ bs.length) := Lib.hid (by rw [← hys]; exact List.length_filter_le _ _)
  have HYS := Lib.hid hys
  clear h hs hn hX hys
  go_enter Try.func16, Try.ntmps16
  go_wp2_with fail
  generalize (w.alloc (.cells #[.int .i64 a, .int .i64 b] 38)) = X at *
  refine (selChildren_any p F bs w.heap.size a b _ HW.out HS.out HN.out HXB.out).mono ?_
  rintro e w2 ⟨v, rfl, ho, hb⟩
  rw [HYS.out] at ho
  have HO := Lib.hid ho.reads
  have HB2 := Lib.hid (nb_trans HX.out hb)
  obtain ⟨hm, hop⟩ := ho.reads.open
  clear ho hb
  unfold maxLen at hm
  obtain ⟨n, hyn⟩ : ∃ n, ys.length = n := ⟨_, rfl⟩
  have HYN := Lib.hid hyn
  rw [hyn] at hm hop
  have hnb : n * 16 ≤ 140737488355328 := by have := HYL.out; have := HN.out; omega
  clear hyn
  rcases hop with ⟨ad, cap, rfl, hz⟩ | ⟨bl, off, cap, rfl, hbl, hlc, hcm, hc⟩
  all_goals
    go_wp2_with (first | (at_make; refine wpList_make_full _ rfl _ _ 51 rfl w2.heap.size 38 i0 (.agg #[.int .i64 0, .int .i64 0]) 2 Try.underlying51 hi hz0 hz1 .i64 .i64 _ _ n rfl rfl rfl rfl ?c1 ?c2 ?c3 ?_))
    case c1 => rw [hz2]; omega
    case c2 => unfold maxLen; omega
    case c3 => exact Nat.le_refl _
    intro w3 hown hgr
    have hb3 : Below w2.heap.size w2 w3 := (Below.refl _ _).grown hgr (Nat.le_refl _) (fun k hk => by cases hk)
    clear hgr
    have HO3 : Hid (OwnsF elHand w3 w2.heap.size 38 (.slice (some ⟨w2.heap.size, 0, none⟩) n n) (lsC ys 0)) := Lib.hid (by
      unfold OwnsF; rw [lsC_zero, HYN.out, List.length_replicate, show ((0, 0) : Hd) = elHand.zero from rfl, ← made_enc' elHand #[.int .i64 0, .int .i64 0] rfl n]; exact hown)
    have HB3 := Lib.hid hb3
    clear hown hb3
    go_wp2
    go_loopw [17] (fun i wr => ∃ k : Nat, k ≤ n ∧ i = .int .i64 k ∧ Hid (OwnsF elHand wr w2.heap.size 38 (.slice (some ⟨w2.heap.size, 0, none⟩) n n) (lsC ys k)) ∧ Hid (Below w2.heap.size w2 wr)) (fun i _ => n - (intOf i).toNat)
    case atStart => exact ⟨0, by omega, rfl, HO3, HB3⟩
    case round =>
      obtain ⟨k, hk, rfl, hO, hB⟩ := hrel
      by_cases hltk : k < n
      · first
          | omega
          | (have hcr : ∀ jj, jj < 4 → wr.cell? ⟨bl, off + k * 4 + jj, none⟩ = (elBond.enc (ys.getD k bdZ))[jj]? := fun jj hjj => by rw [hB.out.cell (p := ⟨bl, _, none⟩) hbl]; exact hc k hltk jj hjj
             have hln : (lsC ys k).length = n := by rw [lsC_len (by rw [HYN.out]; exact hk), HYN.out]
             have HNX := Lib.hid (lsC_next (ys := ys) (k := k) (by rw [HYN.out]; exact hltk))
             have hbw : bl < wr.heap.size := Nat.lt_of_lt_of_le hbl hB.out.size
             obtain ⟨y, hy⟩ : ∃ y, ys.getD k bdZ = y := ⟨_, rfl⟩
             rw [hy] at hcr HNX
             obtain ⟨⟨y1, y2⟩, y3, y4⟩ := y
             have c0 : wr.cell? ⟨bl, off + k * 4, none⟩ = some (.int .i64 y1) := hcr 0 (by decide)
             have c1 : wr.cell? ⟨bl, off + k * 4 + 1, none⟩ = some (.int .i64 y2) := hcr 1 (by decide)
             have c2 : wr.cell? ⟨bl, off + k * 4 + 2, none⟩ = some (.int .i64 y3) := hcr 2 (by decide)
             have c3 : wr.cell? ⟨bl, off + k * 4 + 3, none⟩ = some (.int .i64 y4) := hcr 3 (by decide)
             obtain ⟨g', cap', eg, hgw, -, x0, x1, hfz⟩ := hO.out.owns.open2 rfl (k := k) (by omega)
             simp only [Value.slice.injEq, Option.some.injEq, Addr.mk.injEq, and_true] at eg
             obtain ⟨rfl, -, -⟩ := eg
             have HST : Hid (OwnsF elHand ((((wr.setCell ⟨w2.heap.size, k * 2, none⟩ (.int .i64 y1)).setCell ⟨w2.heap.size, k * 2 + 1, none⟩ (.int .i64 y2)))) w2.heap.size 38 (.slice (some ⟨w2.heap.size, 0, none⟩) n n) (lsC ys (k + 1))) := Lib.hid (by rw [← HNX.out]; exact hO.out.storedHd k (y1, y2) (by omega))
             have x0' : wr.cell? ⟨w2.heap.size, k * 2, none⟩ = some (.int .i64 ((lsC ys k).getD k elHand.zero).1) := x0
             have x1' : wr.cell? ⟨w2.heap.size, k * 2 + 1, none⟩ = some (.int .i64 ((lsC ys k).getD k elHand.zero).2) := x1
             have f0 := hfz (k * 2)
             have f1 := hfz (k * 2 + 1)
             clear hcr hc hy hln hfz x0 x1
             generalize ((lsC ys k).getD k elHand.zero).1 = z0 at *
             generalize ((lsC ys k).getD k elHand.zero).2 = z1 at *
             go_wp2
             go_roundw
             case rel => exact ⟨k + 1, by omega, by go_num, Lib.hid (HST.out.later (nb_alloc (Below.refl _ _) _)), Lib.hid (nb_alloc (nbf_set (nbf_set hB.out _ _ _ (Nat.le_refl _)) _ _ _ (Nat.le_refl _)) _)⟩
             case measure => simp [intOf]; omega)
      · obtain rfl : k = n := by omega
        have HE : Hid (lsC ys k = ys.map (·.1)) := Lib.hid (by rw [← HYN.out, lsC_end])
        rw [HE.out, ← HK.out] at hO
        go_wp2
        go_ret
        exact ⟨_, rfl, hO.out.weaken HB2.out.size, nb_trans HB2.out hB.out⟩

theorem mem_foldRm {b : Bd} : ∀ {zs : List Bd} {bs : List Bd}, b ∈ zs.foldl (fun s x => rmB s x.1) bs ↔ b ∈ bs ∧ ∀ x ∈ zs, b.1 ≠ x.1
  | [], bs => by simp
  | z :: zs, bs => by
    rw [List.foldl_cons, mem_foldRm, mem_rmB]
    simp only [List.forall_mem_cons]
    exact and_assoc
theorem foldRm_sorted : ∀ {zs : List Bd} {bs : List Bd}, SortedB bs → SortedB (zs.foldl (fun s x => rmB s x.1) bs)
  | [], _, h => h
  | z :: zs, bs, h => foldRm_sorted (zs := zs) (bs := rmB bs z.1) (h.filter _)
theorem foldRm_gone {bs : List Bd} (hs : SortedB bs) (h : Hd) : (bs.filter (fun x => decide (x.1 = h) || decide (x.2 = h))).foldl (fun s x => rmB s x.1) bs = goneB bs h := by
  refine SortedB.ext (foldRm_sorted hs) (hs.filter _) (fun b => ?_)
  show _ ↔ b ∈ goneB bs h
  rw [mem_foldRm, mem_goneB]
  constructor
  · rintro ⟨h1, h2⟩
    refine ⟨h1, fun e => h2 b (List.mem_filter.2 ⟨h1, by simp [e]⟩) rfl, fun e => h2 b (List.mem_filter.2 ⟨h1, by simp [e]⟩) rfl⟩
  · rintro ⟨h1, h2, h3⟩
    refine ⟨h1, fun x hx e => ?_⟩
    obtain ⟨hx1, hx2⟩ := List.mem_filter.1 hx
    have hxb : x = b := Prod.ext e.symm (hs.fn (c := x.1) hx1 (by rw [← e]; exact h1))
    rw [hxb] at hx2
    simp [h2, h3] at hx2
theorem foldRm_snoc (zs : List Bd) (z : Bd) (bs : List Bd) : (zs ++ [z]).foldl (fun s x => rmB s x.1) bs = rmB (zs.foldl (fun s x => rmB s x.1) bs) z.1 := by rw [List.foldl_append]; rfl
theorem FamIs.del {V w3 : World} {p mb n : Nat} {F : Nat → Prop} {ks : List Hd} {f : Hd → Value} {bs : List Bd} (h : FamIs V p F (.map (some mb)) bs) (hB : MapB ks f bs) (hF : F mb) (hne : mb ≠ p) (x : Hd)
    (hmap3 : MapIs kHand w3 mb n (ks.filter (fun y => !decide (y = x))) f) (hk3 : Kept (fun q => q = mb) V w3) : FamIs w3 p F (.map (some mb)) (rmB bs x) := by
  refine ⟨by rw [hk3.block p h.plt (fun e => hne e.symm)]; exact h.block, .inr ⟨mb, _, f, rfl, hmap3.tight, ⟨fun y hy => ?_, fun y z hyz => ?_⟩, hF, hne⟩, h.at_, fun i hi => Nat.lt_of_lt_of_le (h.lt i hi) hk3.size⟩
  · obtain ⟨h1, h2⟩ := List.mem_filter.1 hy
    obtain ⟨z, hz⟩ := hB.some_ y h1
    exact ⟨z, mem_rmB.2 ⟨hz, by simpa using h2⟩⟩
  · obtain ⟨h1, h2⟩ := mem_rmB.1 hyz
    obtain ⟨e1, e2⟩ := hB.val y z h1
    exact ⟨List.mem_filter.2 ⟨e1, by simpa using h2⟩, e2⟩

set_option maxHeartbeats 4000000 in
theorem famGone_any (p : Nat) (F : Nat → Prop) (bs : List Bd) (a b : Int) (w : World) (h : FamAt w p F bs) (ok : FOk bs) (hn : bs.length * 32 ≤ 140737488355328) :
    Calls Try.prog 27 #[.pointer (some ⟨p, 0, none⟩), .agg #[.int .i64 a, .int .i64 b]] w fun e w' => e = .returned (.tuple #[]) ∧ FamAt w' p F (goneB bs (a, b)) ∧ Kept F w w' := by
  have hX : Below w.heap.size w (w.alloc (.cells #[.int .i64 a, .int .i64 b] 38)) := nb_alloc (Below.refl _ _) _
  have HX := Lib.hid hX
  have HXB : Hid ((w.alloc (.cells #[.int .i64 a, .int .i64 b] 38)).heap[w.heap.size]? = some (.cells #[.int .i64 a, .int .i64 b] 38)) := Lib.hid (heap_alloc_new _ _)
  have HW := Lib.hid (h.later hX)
  have HLT := Lib.hid h.lt
  have HOK := Lib.hid ok
  have HN := Lib.hid hn
  obtain ⟨ys, hys⟩ : ∃ ys, bs.filter (fun x => decide (x.1 = (a, b)) || decide (x.2 = (a, b))) = ys := ⟨_, rfl⟩
  have HK : Hid (ys.foldl (fun s x => rmB s x.1) bs = goneB bs (a, b)) := Lib.hid (by rw [← hys]; exact foldRm_gone ok.sorted _)
  have HYB : Hid (∀ y ∈ ys, y ∈ bs) := Lib.hid (by rw [← hys]; exact fun y hy => (List.mem_filter.1 hy).1)
  have HYN : Hid ((ys.map (·.1)).Nodup) := Lib.hid (by rw [← hys]; exact (ok.sorted.filter _).keys)
  have HYS := Lib.hid hys
  clear h ok hn hX hys
  go_enter Try.func27, Try.ntmps27
  go_wp2_with fail
  generalize (w.alloc (.cells #[.int .i64 a, .int .i64 b] 38)) = X at *
  refine (selGone_any p F bs w.heap.size a b _ HW.out HOK.out.sorted HN.out HXB.out).mono ?_
  rintro e w2 ⟨v, rfl, ho, hb⟩
  rw [HYS.out] at ho
  have HGE : Hid (∀ k, v.ownBlock = some k → w.heap.size ≤ k) := Lib.hid (fun k e => Nat.le_trans HX.out.size (ho.ge e))
  have HB2 := Lib.hid (nb_trans HX.out hb)
  have HW2 := Lib.hid (HW.out.later hb)
  obtain ⟨hm, hop⟩ := ho.reads.open
  clear ho hb
  unfold maxLen at hm
  obtain ⟨n, hyn⟩ : ∃ n, ys.length = n := ⟨_, rfl⟩
  have HYL := Lib.hid hyn
  rw [hyn] at hm hop
  clear hyn
  rcases hop with ⟨ad, cap, rfl, hz⟩ | ⟨bl, off, cap, rfl, hbl, hlc, hcm, hc⟩
  all_goals
    go_wp2
    go_loopw [10] (fun i wr => ∃ k : Nat, k ≤ n ∧ i = .int .i64 k ∧ Hid (FamAt wr p F ((ys.take k).foldl (fun s x => rmB s x.1) bs)) ∧ Hid (Kept F w2 wr)) (fun i _ => n - (intOf i).toNat)
    case atStart => exact ⟨0, by omega, rfl, HW2, Lib.hid (Kept.refl _ _)⟩
    case round =>
      obtain ⟨k, hk, rfl, hF, hKp⟩ := hrel
      by_cases hltk : k < n
      · first
          | omega
          | (have hnF : ¬ F bl := fun e => by have := HLT.out bl e; have := HGE.out bl rfl; omega
             have hcr : ∀ jj, jj < 4 → wr.cell? ⟨bl, off + k * 4 + jj, none⟩ = (elBond.enc (ys.getD k bdZ))[jj]? := fun jj hjj => by rw [hKp.out.cell (p := ⟨bl, _, none⟩) hbl hnF]; exact hc k hltk jj hjj
             have hkl : k < ys.length := by rw [HYL.out]; exact hltk
             have HTK : Hid (ys.take (k + 1) = ys.take k ++ [ys.getD k bdZ]) := Lib.hid (by rw [List.take_add_one, List.getElem?_eq_getElem hkl, List.getD_eq_getElem?_getD, List.getElem?_eq_getElem hkl]; rfl)
             have HYM : Hid (ys.getD k bdZ ∈ ys) := Lib.hid (memD hkl)
             have hbw : bl < wr.heap.size := Nat.lt_of_lt_of_le hbl hKp.out.size
             have HNT : Hid (ys.getD k bdZ ∈ (ys.take k).foldl (fun s x => rmB s x.1) bs) := Lib.hid (mem_foldRm.2 ⟨HYB.out _ HYM.out, fun x hx e => by
               have hnd := HYN.out
               rw [← List.take_append_drop k ys, List.map_append, List.nodup_append] at hnd
               refine hnd.2.2 _ (List.mem_map.2 ⟨x, hx, rfl⟩) _ (List.mem_map.2 ⟨ys.getD k bdZ, ?_, rfl⟩) e.symm
               rw [List.drop_eq_getElem_cons hkl, List.getD_eq_getElem?_getD, List.getElem?_eq_getElem hkl, Option.getD_some]
               exact List.mem_cons_self⟩)
             obtain ⟨y, hy⟩ : ∃ y, ys.getD k bdZ = y := ⟨_, rfl⟩
             rw [hy] at hcr HTK HYM HNT
             obtain ⟨⟨y1, y2⟩, y3, y4⟩ := y
             obtain ⟨cs, hcs⟩ : ∃ cs, (ys.take k).foldl (fun s x => rmB s x.1) bs = cs := ⟨_, rfl⟩
             have HCS : Hid ((ys.take (k + 1)).foldl (fun s x => rmB s x.1) bs = rmB cs (y1, y2)) := Lib.hid (by rw [HTK.out, foldRm_snoc, hcs])
             rw [hcs] at hF HNT
             have HYO : Hid (okH (y1, y2)) := Lib.hid (HOK.out.ok _ (HYB.out _ HYM.out)).1
             have c0 : wr.cell? ⟨bl, off + k * 4, none⟩ = some (.int .i64 y1) := hcr 0 (by decide)
             have c1 : wr.cell? ⟨bl, off + k * 4 + 1, none⟩ = some (.int .i64 y2) := hcr 1 (by decide)
             have c2 : wr.cell? ⟨bl, off + k * 4 + 2, none⟩ = some (.int .i64 y3) := hcr 2 (by decide)
             have c3 : wr.cell? ⟨bl, off + k * 4 + 3, none⟩ = some (.int .i64 y4) := hcr 3 (by decide)
             obtain ⟨vm, hfi⟩ := hF.out
             obtain ⟨mb, ks, f, rfl, hm9, hB9, hF9, hne9⟩ : ∃ b ks f, vm = .map (some b) ∧ MapIs kHand wr b ks.length ks f ∧ MapB ks f cs ∧ F b ∧ b ≠ p := by
               rcases hfi.map with ⟨_, e⟩ | hh
               · have := HNT.out; rw [e] at this; simp at this
               · exact hh
             have hfa := hfi.later (nb_alloc (Below.refl _ _) (.cells #[.int .i64 y1, .int .i64 y2, .int .i64 y3, .int .i64 y4] 44))
             have hba : (wr.alloc (.cells #[.int .i64 y1, .int .i64 y2, .int .i64 y3, .int .i64 y4] 44)).heap[wr.heap.size]? = some (.cells #[.int .i64 y1, .int .i64 y2, .int .i64 y3, .int .i64 y4] 44) := heap_alloc_new _ _
             have HFA := Lib.hid hfa
             have HKA : Hid (Kept F w2 (wr.alloc (.cells #[.int .i64 y1, .int .i64 y2, .int .i64 y3, .int .i64 y4] 44))) := Lib.hid (hKp.out.trans (Kept.alloc F _ _) (fun _ h => .inl h))
             have HMA : Hid (MapIs kHand (wr.alloc (.cells #[.int .i64 y1, .int .i64 y2, .int .i64 y3, .int .i64 y4] 44)).drew mb ks.length ks f) := Lib.hid (hm9.later (nb_alloc (Below.refl _ _) _).drew)
             have HB9 := Lib.hid hB9
             have HF9 := Lib.hid hF9
             have HNE9 := Lib.hid hne9
             have HBA := Lib.hid hba
             clear hcr hc hy hcs hfi hm9 hB9 hF9 hne9 hfa hba
             go_wp2_with fail
             generalize wr.alloc (.cells #[.int .i64 y1, .int .i64 y2, .int .i64 y3, .int .i64 y4] 44) = A at *
             clear c0 c1 c2 c3
             have ca := HFA.out.cell
             have hpa := HFA.out.plt
             have hal := (Array.getElem?_eq_some_iff.1 HBA.out).1
             have k0 : A.cell? ⟨wr.heap.size, 0, none⟩ = some (.int .i64 y1) := by rw [cell_of_row _ _ _ _ _ _ HBA.out]; rfl
             have k1 : A.cell? ⟨wr.heap.size, 1, none⟩ = some (.int .i64 y2) := by rw [cell_of_row _ _ _ _ _ _ HBA.out]; rfl
             go_still_tail 6, (by kernel_rfl)
             change wpList _ _ _ _ _ A.drew
             clear k0 k1 ca
             go_wp2_with (first | (at_delete; refine wpList_del_is (K := kHand) _ rfl _ _ 61 rfl 38 Try.underlying61 rfl HMA.out (y1, y2) HYO.out rfl ?_))
             intro w5 hmap5 hk5
             have hk5' : Kept (fun q => q = mb) A w5 := (Kept.drew (fun q => q = mb) A).trans hk5 (fun _ h => .inl h)
             have HF5 : Hid (FamAt w5 p F (rmB cs (y1, y2))) := Lib.hid ⟨_, HFA.out.del HB9.out HF9.out HNE9.out (y1, y2) hmap5 hk5'⟩
             have HK5 : Hid (Kept F w2 w5) := Lib.hid (HKA.out.trans hk5' (fun i e => .inl (by rw [e]; exact HF9.out)))
             clear hmap5 hk5 hk5'
             go_wp2
             go_roundw
             case rel => exact ⟨k + 1, by omega, by go_num, by rw [HCS.out]; exact HF5, HK5⟩
             case measure => simp [intOf]; omega)
      · obtain rfl : k = n := by omega
        have HALL : Hid ((ys.take k).foldl (fun s x => rmB s x.1) bs = goneB bs (a, b)) := Lib.hid (by rw [List.take_of_length_le (by rw [HYL.out]; exact Nat.le_refl _)]; exact HK.out)
        rw [HALL.out] at hF
        go_wp2
        go_end0
        exact ⟨rfl, hF.out, (Kept.ofBelow HB2.out).trans hKp.out (fun _ h => .inl h)⟩
end Go.Proofs.Ytlclceiebnnpgaa

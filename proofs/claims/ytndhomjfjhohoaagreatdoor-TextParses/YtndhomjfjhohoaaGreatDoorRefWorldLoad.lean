
/- The contract of the reference's WorldLoad. -/
import Derived.Test.YtndhomjfjhohoaaGreatDoorRefLoad
import Derived.Test.YtndhomjfjhohoaaGreatDoorGroundG
import Derived.Test.YtndhomjfjhohoaaGreatDoorGroundD
import Derived.Test.YtndhomjfjhohoaaGreatDoorGroundA
import Derived.BigQuiet
import Derived.Deep.RegionLaw
namespace Go.Proofs.YtndhomjfjhohoaaGreatDoor
set_option maxRecDepth 8000
open Go.RowKit

/-- A row is appended to the zoo's rows. -/
theorem ZooIs.growL {w w' : World} {q : Nat} {G : Nat → Prop} {c : Nat → Int} {l : List (Int × Bool)} {rows rows' : List Rw} {vL vB v' : Value} (h : ZooIs w q G c l rows vL vB) (hk : Kept (fun b => b = q ∨ vL.ownBlock = some b) w w') (hq : ∀ vg vl, w.heap[q]? = some (.cells #[vg, vl, vL, vB] 81 (0, 0)) → w'.heap[q]? = some (.cells #[vg, vl, v', vB] 81 (0, 0)))
    (ho : Owns elRow w' 54 v' rows') (hv : ∀ k, v'.ownBlock = some k → vL.ownBlock = some k ∨ w.heap.size ≤ k) :
    ∃ F', ZooAt w' q F' l rows' vB ∧ Kept G w w' ∧ Moves w G F' := by
  have hl : ∀ b, growF G w w' b → b < w'.heap.size := fun b hb => by
    rcases hb with hb | hb
    · exact Nat.lt_of_lt_of_le (h.lt b hb) hk.size
    · exact hb.2
  have hG := h.at_
  obtain ⟨vg, vl, hq0, h1, h2, hGq, hvg, hvl, hlt⟩ := h.slots
  have hold : ∀ b, (G b ∧ c b = 0) → growF G w w' b ∧ growC c w 1 b = 0 := fun b hb => ⟨.inl hb.1, (growC_old (h.lt b hb.1)).trans hb.2⟩
  have hnL : ∀ b, (G b ∧ c b = 0) → vL.ownBlock ≠ some b := fun b hb e => by have := (h.inL b e).2; rw [hb.2] at this; exact absurd this (by decide)
  refine ⟨growF G w w', ⟨growC c w 1, v', ⟨⟨vg, vl, hq vg vl hq0, h1.kept hk (fun k e hh => hh.elim (hvg k e).2 (hnL k (hvg k e).1)), h2.kept hk (fun k e hh => hh.elim (hvl k e).2.1 (hnL k (hvl k e).1)), hold q hGq, fun k e => ⟨hold k (hvg k e).1, (hvg k e).2⟩, fun k e => ⟨hold k (hvl k e).1, (hvl k e).2⟩, fun k hb => hl k hb.1⟩, ho, fun k e => ?_, hl⟩⟩, hk.mono (fun b e => .inl (e.elim (fun e => by rw [e]; exact hG.1) (fun e => (h.inL b e).1))), growF_moves G w w'⟩
  rcases hv k e with e1 | e1
  · exact ⟨.inl (h.inL k e1).1, (growC_old (h.lt k (h.inL k e1).1)).trans (h.inL k e1).2⟩
  · exact ⟨.inr ⟨e1, ho.lt e⟩, growC_new e1⟩
theorem ZooIs.append {W w2 : World} {q : Nat} {G : Nat → Prop} {c : Nat → Int} {l : List (Int × Bool)} {L : List Rw} {r : Rw} {a : Option Addr} {cap g cap' : Nat} {vB : Value} (h : ZooIs W q G c l L (.slice a L.length cap) vB) (hg : Grew W w2 (.slice a L.length cap) g)
    (ho : w2.ownsRow 0 54 11 (.slice (some ⟨g, 0, none⟩) (L.length + 1) cap') (L.length + 1) (L.flatMap elRow.enc ++ elRow.enc r)) :
    ∃ F', ZooAt (w2.setCell ⟨q, 2, none⟩ (.slice (some ⟨g, 0, none⟩) (L.length + 1) cap')) q F' l (L ++ [r]) vB ∧ Kept G W (w2.setCell ⟨q, 2, none⟩ (.slice (some ⟨g, 0, none⟩) (L.length + 1) cap')) ∧ Moves W G F' := by
  have hqG := h.at_
  have hql := h.lt q hqG.1
  have hnq : (Value.slice a L.length cap).ownBlock ≠ some q := fun e => by have := (h.inL q e).2; rw [hqG.2] at this; exact absurd this (by decide)
  have hgq : g ≠ q := by
    rcases hg.at_ with e | e
    · exact fun e2 => hnq (by rw [← e2]; exact e)
    · omega
  have hks : Kept (fun b => b = q) w2 (w2.setCell ⟨q, 2, none⟩ (.slice (some ⟨g, 0, none⟩) (L.length + 1) cap')) := Kept.setCell (F := fun b => b = q) _ (p := ⟨q, 2, none⟩) rfl _
  have hso : OwnsF elRow w2 0 54 (.slice (some ⟨g, 0, none⟩) (L.length + 1) cap') (L ++ [r]) := OwnsF.snoc (x := r) ho
  refine h.growL ((hg.kept (F := fun b => b = q ∨ (Value.slice a L.length cap).ownBlock = some b) (fun b hb => .inr hb)).trans hks (fun b hb => .inl (.inl hb))) (fun vg vl hq => ?_) (hso.owns.kept hks (fun k e => ?_)) (fun k e => ?_)
  · have h2 : w2.heap[q]? = some (.cells #[vg, vl, .slice a L.length cap, vB] 81 (0, 0)) := by rw [hg.far q hql hnq]; exact hq
    rw [heap_setCell_same _ _ _ _ _ _ h2]; rfl
  · simp [Value.ownBlock] at e; omega
  · simp [Value.ownBlock] at e; subst e; exact hg.at_

/-- A zoo of loaded slots, with no rows yet. -/
theorem ZooAt.ofSlots {w : World} {q : Nat} {G : Nat → Prop} {l : List (Int × Bool)} (h : RefAt w q 79 [] G l) : ∃ a n c a' n' c', w.cell? ⟨q, 0, none⟩ = some (.slice a n c) ∧ w.cell? ⟨q, 1, none⟩ = some (.slice a' n' c') ∧ q < w.heap.size ∧
    ZooAt (w.alloc (.cells #[.slice a n c, .slice a' n' c', .slice none 0 0, .slice none 0 0] 81)) w.heap.size (fun b => b = w.heap.size ∨ G b) l [] (.slice none 0 0) := by
  obtain ⟨vg, vl, hq, h1, h2, hG, hvg, hvl, hlt⟩ := h
  have c0 : w.cell? ⟨q, 0, none⟩ = some vg := by rw [cell_of_row _ _ _ _ _ _ hq]; simp
  have c1 : w.cell? ⟨q, 1, none⟩ = some vl := by rw [cell_of_row _ _ _ _ _ _ hq]; simp
  obtain ⟨a, c, e1, -⟩ := h1.reads
  obtain ⟨a', c', e2, -⟩ := h2.reads
  have hb : Below w.heap.size w (w.alloc (.cells #[vg, vl, .slice none 0 0, .slice none 0 0] 81)) := nb_alloc (Below.refl _ _) _
  refine ⟨a, _, c, a', _, c', by rw [c0, e1], by rw [c1, e2], hlt q hG, ?_⟩
  rw [← e1, ← e2]
  refine ⟨fun _ => 0, .slice none 0 0, ⟨⟨vg, vl, heap_alloc_new w _, h1.later hb, h2.later hb, ⟨.inl rfl, rfl⟩, fun k e => ⟨⟨.inr (hvg k e).1, rfl⟩, ?_⟩, fun k e => ⟨⟨.inr (hvl k e).1, rfl⟩, ?_, (hvl k e).2.2⟩, fun k e => ?_⟩, Owns.nil _ _ _, fun k e => by simp [Value.ownBlock] at e, fun b e => ?_⟩⟩
  · have := hlt k (hvg k e).1; omega
  · have := hlt k (hvl k e).1; omega
  · rcases e.1 with e | e
    · simp [e]
    · have := hlt k e; simp; omega
  · rcases e with e | e
    · simp [e]
    · have := hlt b e; simp; omega

theorem ldE_in {gens live : List Int} (h : ldE gens live = 0) : ∀ x ∈ live, 0 ≤ x ∧ x < (gens.length : Int) := by
  have h1 : lstE gens = 0 := Classical.byContradiction fun hn => by rw [ldE_bad hn] at h; exact hn h
  rw [ldE_ok h1] at h
  unfold enlE at h
  split at h
  · rename_i ha
    intro x hx
    have := inB_t (List.all_eq_true.1 ha x hx)
    omega
  · cases h
theorem live_load {gens : List Int} {rs : List Rw} {r : Rw} {i : Nat} (hr : r ∈ rs) (hi : r.s = (i : Int)) (hl : i < gens.length) : liveB (mkL gens (sNums rs)) r.s r.g = (gens.getD i 0 == r.g) := by
  have hm : (i : Int) ∈ sNums rs := List.mem_map.2 ⟨r, hr, hi⟩
  cases hb : (gens.getD i 0 == r.g)
  · cases hv : liveB (mkL gens (sNums rs)) r.s r.g
    · rfl
    · have := (liveB_iff.1 hv).2.2
      rw [hi, Int.toNat_natCast, mkL_at hl] at this
      have := congrArg Prod.fst this
      simp only at this
      rw [this] at hb; simp at hb
  · refine liveB_iff.2 ⟨by omega, by rw [mkL_len]; omega, ?_⟩
    rw [hi, Int.toNat_natCast, mkL_at hl, decide_eq_true hm, eq_of_beq hb]
theorem sortR_len (rs : List Rw) : ∀ n, (sortR n rs).length ≤ n * rs.length
  | 0 => by simp [sortR]
  | n + 1 => by
    rw [sortR_succ, List.length_append, Nat.add_mul, Nat.one_mul]
    exact Nat.add_le_add (sortR_len rs n) (List.length_filter_le _ _)
theorem take_rowD {rs : List Rw} {t : Nat} (h : t < rs.length) : rs.take (t + 1) = rs.take t ++ [rs.getD t rowZ] := by
  rw [List.take_add_one, List.getElem?_eq_getElem h, List.getD_eq_getElem?_getD, List.getElem?_eq_getElem h]; rfl
theorem sNums_next {rs : List Rw} {t : Nat} (h : t < rs.length) : sNums (rs.take (t + 1)) = sNums (rs.take t) ++ [(rs.getD t rowZ).s] := by
  rw [take_rowD h, sNums, List.map_append]; rfl
theorem atSlot_next {rs : List Rw} {t : Nat} (h : t < rs.length) (k : Nat) : atSlot (rs.take (t + 1)) k = atSlot (rs.take t) k ++ (if (rs.getD t rowZ).s == (k : Int) then [rs.getD t rowZ] else []) := by
  rw [take_rowD h, atSlot, List.filter_append, List.filter_cons, List.filter_nil]; rfl

def RWLoadPost (w : World) (gens : List Int) (rs : List Rw) (e : Ending) (w' : World) : Prop :=
  ∃ u, e = .returned (.tuple #[u, .int .i64 (wldE gens rs)]) ∧ Below w.heap.size w w' ∧ (wldE gens rs ≠ 0 → u = .pointer none) ∧
    (wldE gens rs = 0 → ∃ q G, u = .pointer (some ⟨q, 0, none⟩) ∧ ZooAt w' q G (mkL gens (sNums rs)) (sortR gens.length rs) (.slice none 0 0) ∧ ∀ k, G k → w.heap.size ≤ k)
theorem RWLoadPost.bad {w w' : World} {gens : List Int} {rs : List Rw} {c : Int} (h : wldE gens rs = c) (hc : c ≠ 0) (hb : Below w.heap.size w w') : RWLoadPost w gens rs (.returned (.tuple #[.pointer none, .int .i64 c])) w' :=
  ⟨_, by rw [h], hb, fun _ => rfl, fun e => absurd (h.symm.trans e) hc⟩

set_option maxRecDepth 100000 in
set_option maxHeartbeats 8000000 in
theorem refWorldLoad_any (u v : Value) (gens : List Int) (rs : List Rw) (w : World) (hg : Ints w u gens) (hr : Reads elRow w v rs) : Calls Tryz.prog 64 #[u, v] w (RWLoadPost w gens rs) := by
  obtain ⟨i0, hi, hz0, hz1, hz2⟩ := info_parts infoInt
  obtain ⟨r0, ri, rz0, rz1, rz2⟩ := info_parts infoRow
  have HGI := Lib.hid hg
  obtain ⟨hmg, h⟩ := hg.open
  unfold maxLen at hmg
  obtain ⟨ga, gc, rfl, hadr⟩ : ∃ a cap, u = .slice a gens.length cap ∧ ∀ k, k < gens.length → ∃ b off, a = some ⟨b, off, none⟩ ∧ b < w.heap.size ∧ w.cell? ⟨b, off + k, none⟩ = some (.int .i64 (gens.getD k 0)) := by
    rcases h with ⟨a1, cap1, rfl, hz1'⟩ | ⟨b1, off1, cap1, rfl, hb1, hlc1, hcm1, hc1⟩
    · exact ⟨_, _, rfl, fun j hj => by omega⟩
    · exact ⟨_, _, rfl, fun j hj => ⟨b1, off1, rfl, hb1, hc1 j hj⟩⟩
  obtain ⟨ra, rc, rfl, hlc, hm, hcc⟩ := hr
  unfold maxLen at hm
  have HA := Lib.hid hadr
  have HC := Lib.hid hcc
  clear h hg hadr hcc
  obtain ⟨n, hn⟩ : ∃ n, rs.length = n := ⟨_, rfl⟩
  obtain ⟨m, hmm⟩ : ∃ m, gens.length = m := ⟨_, rfl⟩
  have HN := Lib.hid hn
  have HM := Lib.hid hmm
  rw [hn] at hlc HC ⊢
  rw [hmm] at hmg HGI HA ⊢
  clear hn hmm
  by_cases h60 : n ≤ 60
  · have h60' : decide ((60 : Int) < (n : Int)) = false := by rw [decide_eq_false_iff_not]; omega
    have HW60 : Hid (wldE gens rs = if ldE gens (sNums rs) = 0 then rowsE (mkL gens (sNums rs)) rs else ldE gens (sNums rs)) := Lib.hid (by rw [wldE, HN.out, if_pos h60])
    go_enter Tryz.func64, Tryz.ntmps64
    go_wp2
    go_loopw [6, 23] (fun u i wr => ∃ t : Nat, t ≤ n ∧ i = .int .i64 t ∧ Hid (OwnsF elInt wr w.heap.size 3 u (sNums (rs.take t))) ∧ Hid (Below w.heap.size w wr)) (fun _ i _ => n - (intOf i).toNat)
    case atStart => exact ⟨0, by omega, rfl, OwnsF.nil _ _ _ _, Below.refl _ _⟩
    case round =>
      obtain ⟨t, htn, rfl, hO, hB⟩ := hrel
      by_cases hlt : t < n
      · obtain ⟨b, off, rfl, hb, hck⟩ := HC.out t hlt
        have hcr : ∀ jj, jj < 11 → wr.cell? ⟨b, off + t * 11 + jj, none⟩ = (elRow.enc (rs.getD t rowZ))[jj]? := fun jj hjj => by rw [hB.out.cell (p := ⟨b, _, none⟩) hb]; exact hck jj hjj
        have HTK := Lib.hid (sNums_next (show t < rs.length by rw [HN.out]; exact hlt))
        have HLEN : Hid ((sNums (rs.take t)).length = t) := Lib.hid (by rw [sNums_len, List.length_take, HN.out]; omega)
        have hbw : b < wr.heap.size := Nat.lt_of_lt_of_le hb hB.out.size
        clear hck
        generalize rs.getD t rowZ = r at *
        obtain ⟨c0, c1, c2, c3, c4, c5, c6, c7, c8, c9, c10⟩ := lRow (O := off + t * 11) (r := r) hcr
        clear hcr
        go_wp2_with (first | (at_builtin; refine wpList_append_own _ rfl _ _ 22 rfl w.heap.size 3 i0 (.int .i64 0) 1 8 Tryz.underlying22 hi hz0 hz1 hz2 rfl (by decide) _ _ _ rfl (World.ownsRow.alloc (World.ownsRow.alloc hO.out _) _) ⟨wr.heap.size + 1, 0, none⟩ 1 1 [.int .i64 r.s] rfl rfl (by exact World.news_of_block (heap_alloc2_new wr _ _)) (by intro u hu; simp at hu; subst hu; rfl) (by rw [HLEN.out]; unfold maxLen; omega) (by rw [HLEN.out]; omega) (by have := hB.out.size; simp; omega) ?_))
        intro v' w2 hown hgr _
        have HO2 : Hid (OwnsF elInt w2 w.heap.size 3 v' (sNums (rs.take t) ++ [r.s])) := Lib.hid (OwnsF.snoc (x := r.s) hown)
        have HB2 : Hid (Below w.heap.size w w2) := Lib.hid ((nb_alloc (nb_alloc hB.out _) _).grown hgr (by have := hB.out.size; simp; omega) (fun jj hjj => hO.out.ge hjj))
        clear hown hgr
        go_wp2
        go_roundw
        case rel => exact ⟨t + 1, by omega, by go_num, by rw [HTK.out]; exact HO2, HB2⟩
        case measure => simp [intOf]; omega
      · obtain rfl : n = t := by omega
        have HALL : Hid (rs.take n = rs) := Lib.hid (List.take_of_length_le (by rw [HN.out]; exact Nat.le_refl _))
        rw [HALL.out] at hO
        clear HALL
        go_wp2_with fail
        refine (refLoad_any _ _ gens (sNums rs) _ (HGI.out.later hB.out) (Ints.ofReads hO.out.reads)).mono ?_
        rintro e w2 ⟨u2, rfl, hb2, hbad, hgood⟩
        have HB2 := Lib.hid (nb_trans hB.out hb2)
        obtain ⟨x, hx⟩ : ∃ x, ldE gens (sNums rs) = x := ⟨_, rfl⟩
        rw [hx] at hbad hgood HW60 ⊢
        by_cases h0 : x = 0
        · subst h0
          rw [if_pos rfl] at HW60
          obtain ⟨q0, G0, rfl, hs0, hG0⟩ := hgood rfl
          obtain ⟨ag, ng, cg, al, nl, cl, c0, c1, hq0, hz⟩ := ZooAt.ofSlots hs0
          have HG0 : Hid (∀ b, b = w2.heap.size ∨ G0 b → w.heap.size ≤ b) := Lib.hid (fun b e => by
            rcases e with e | e
            · have := HB2.out.size; omega
            · have := hG0 b e; have := hB.out.size; omega)
          have HIN := Lib.hid (ldE_in hx)
          have HM60 : Hid (m ≤ 60) := Lib.hid (by have := (mkL_ok hx).len; rw [mkL_len, HM.out] at this; exact this)
          have hm60 := HM60.out
          have HLV := Lib.hid (fun (r : Rw) (i : Nat) (h1 : r ∈ rs) (h2 : r.s = (i : Int)) (h3 : i < gens.length) => live_load (gens := gens) h1 h2 h3)
          obtain ⟨l, hll⟩ : ∃ l, mkL gens (sNums rs) = l := ⟨_, rfl⟩
          rw [hll] at hz HW60 HLV
          have HLL := Lib.hid hll
          have HZ := Lib.hid hz
          have HBA : Hid (Below w.heap.size w (w2.alloc (.cells #[.slice ag ng cg, .slice al nl cl, .slice none 0 0, .slice none 0 0] 81))) := Lib.hid (nb_alloc HB2.out _)
          clear hx hll hbad hgood hG0 hs0 hz hb2 hO hB HGI
          go_wp2
          clear c0 c1 hq0
          generalize hpn : w2.heap.size = qz at *
          clear hpn
          generalize w2.alloc (.cells #[.slice ag ng cg, .slice al nl cl, .slice none 0 0, .slice none 0 0] 81) = W3 at *
          go_loopw [50] (fun i wr => ∃ t : Nat, t ≤ n ∧ i = .int .i64 t ∧ Hid (∀ x ∈ rs.take t, goodR l x) ∧ Hid (Below W3.heap.size W3 wr)) (fun i _ => n - (intOf i).toNat)
          case atStart => exact ⟨0, by omega, rfl, fun x hx => by simp at hx, Below.refl _ _⟩
          case round =>
            obtain ⟨t, htn, rfl, hGd, hB3⟩ := hrel
            have HBW : Hid (Below w.heap.size w wr) := Lib.hid (nb_trans HBA.out hB3.out)
            by_cases hlt : t < n
            · obtain ⟨b, off, rfl, hb, hck⟩ := HC.out t hlt
              have hcr : ∀ jj, jj < 11 → wr.cell? ⟨b, off + t * 11 + jj, none⟩ = (elRow.enc (rs.getD t rowZ))[jj]? := fun jj hjj => by rw [HBW.out.cell (p := ⟨b, _, none⟩) hb]; exact hck jj hjj
              have htl : t < rs.length := by rw [HN.out]; exact hlt
              have HDE := Lib.hid (fun h => rowsE_dead (l := l) hGd.out htl rfl h)
              have HBE := Lib.hid (fun h hb => rowsE_bad (l := l) hGd.out htl rfl h hb)
              have HNX := Lib.hid (fun h => (good_next (l := l) hGd.out htl rfl h).1)
              obtain ⟨s0, s1⟩ := HIN.out (rs.getD t rowZ).s (List.mem_map.2 ⟨_, mem_getD htl, rfl⟩)
              have HLR := Lib.hid (fun (i : Nat) h2 h3 => HLV.out (rs.getD t rowZ) i (mem_getD htl) h2 h3)
              rw [HM.out] at s1 HLR
              have hbw : b < wr.heap.size := Nat.lt_of_lt_of_le hb HBW.out.size
              clear hck htl
              generalize rs.getD t rowZ = r at *
              obtain ⟨c0, c1, c2, c3, c4, c5, c6, c7, c8, c9, c10⟩ := lRow (O := off + t * 11) (r := r) hcr
              clear hcr
              obtain ⟨i, hi'⟩ := Int.eq_ofNat_of_zero_le s0
              have him : i < m := by omega
              have HLI := Lib.hid (HLR.out i hi' him)
              obtain ⟨b2, off2, rfl, hb2, hc2⟩ := HA.out i him
              have HWA : Hid (Below wr.heap.size wr (wr.alloc (.cells #[.int .i64 r.s, .int .i64 r.g, .int .i64 r.m, .int .i64 (r.f 0), .int .i64 (r.f 1), .int .i64 (r.f 2), .int .i64 (r.f 3), .int .i64 (r.f 4), .int .i64 (r.f 5), .int .i64 (r.f 6), .int .i64 (r.f 7)] 54))) := Lib.hid (nb_alloc (Below.refl _ _) _)
              have hA : (wr.alloc (.cells #[.int .i64 r.s, .int .i64 r.g, .int .i64 r.m, .int .i64 (r.f 0), .int .i64 (r.f 1), .int .i64 (r.f 2), .int .i64 (r.f 3), .int .i64 (r.f 4), .int .i64 (r.f 5), .int .i64 (r.f 6), .int .i64 (r.f 7)] 54)).heap[wr.heap.size]? = some (.cells #[.int .i64 r.s, .int .i64 r.g, .int .i64 r.m, .int .i64 (r.f 0), .int .i64 (r.f 1), .int .i64 (r.f 2), .int .i64 (r.f 3), .int .i64 (r.f 4), .int .i64 (r.f 5), .int .i64 (r.f 6), .int .i64 (r.f 7)] 54) := heap_alloc_new _ _
              have HI' := Lib.hid hi'
              clear hi' s0 s1
              go_wp2_with fail
              generalize wr.alloc (.cells #[.int .i64 r.s, .int .i64 r.g, .int .i64 r.m, .int .i64 (r.f 0), .int .i64 (r.f 1), .int .i64 (r.f 2), .int .i64 (r.f 3), .int .i64 (r.f 4), .int .i64 (r.f 5), .int .i64 (r.f 6), .int .i64 (r.f 7)] 54) = W at *
              clear c0 c1 c2 c3 c4 c5 c6 c7 c8 c9 c10
              have HBX := Lib.hid (nb_trans HBW.out HWA.out)
              have k0 : W.cell? ⟨wr.heap.size, 0, none⟩ = some (.int .i64 (i : Int)) := by rw [cell_of_row _ _ _ _ _ _ hA, ← HI'.out]; rfl
              have k1 : W.cell? ⟨wr.heap.size, 1, none⟩ = some (.int .i64 r.g) := by rw [cell_of_row _ _ _ _ _ _ hA]; rfl
              have hgk : W.cell? ⟨b2, off2 + i, none⟩ = some (.int .i64 (gens.getD i 0)) := by rw [HBX.out.cell (p := ⟨b2, _, none⟩) hb2]; exact hc2
              have hb2w : b2 < W.heap.size := Nat.lt_of_lt_of_le hb2 HBX.out.size
              have hAl : wr.heap.size < W.heap.size := (Array.getElem?_eq_some_iff.1 hA).1
              have HAA := Lib.hid hA
              clear hA hc2
              generalize gens.getD i 0 = y at *
              cases hy : (y == r.g)
              · have hne : (y != r.g) = true := by rw [bne, hy]; rfl
                have HEE := Lib.hid (HDE.out (by rw [HLI.out, hy]))
                clear hy
                go_quiet (fail)
                have HBN := Lib.hid (nb_drewN (n := nq) HBX.out)
                go_wp2
                go_ret2
                exact RWLoadPost.bad (by rw [HW60.out, HEE.out]) (by decide) HBN.out
              · have hne : (y != r.g) = false := by rw [bne, hy]; rfl
                have HLT : Hid (liveB l r.s r.g = true) := Lib.hid (by rw [HLI.out, hy])
                clear hy
                go_quiet (fail)
                have HBN : Hid (Below w.heap.size w (W.drewN nq)) := Lib.hid (nb_drewN HBX.out)
                have HBM : Hid (Below W3.heap.size W3 (W.drewN nq)) := Lib.hid (nb_drewN (nb_trans hB3.out HWA.out))
                have hY : (W.drewN nq).heap[wr.heap.size]? = some (.cells #[.int .i64 r.s, .int .i64 r.g, .int .i64 r.m, .int .i64 (r.f 0), .int .i64 (r.f 1), .int .i64 (r.f 2), .int .i64 (r.f 3), .int .i64 (r.f 4), .int .i64 (r.f 5), .int .i64 (r.f 6), .int .i64 (r.f 7)] 54) := HAA.out
                clear k0 k1 hgk hb2w hAl HAA
                generalize W.drewN nq = Y at *
                have hYl := (Array.getElem?_eq_some_iff.1 hY).1
                obtain ⟨k0, k1, k2, k3, k4, k5, k6, k7, k8, k9, k10⟩ := rCells (r := r) hY
                clear hY
                go_wp2_with fail
                refine (refBeastCheck_any _ _ _ _ _ _ _ _ _ _).mono ?_
                rintro e w5 ⟨rfl, hw5⟩
                have HB5 : Hid (Below Y.heap.size Y w5) := Lib.hid (by rw [← hw5]; exact nb_alloc (Below.refl _ _) _)
                have HB5w := Lib.hid (nb_trans HBN.out HB5.out)
                have HB53 := Lib.hid (nb_trans HBM.out HB5.out)
                clear hw5 k0 k1 k2 k3 k4 k5 k6 k7 k8 k9 k10
                obtain ⟨be, hbe⟩ : ∃ be, bErr r.m [r.f 0, r.f 1, r.f 2, r.f 3, r.f 4, r.f 5, r.f 6, r.f 7] = be := ⟨_, rfl⟩
                rw [hbe]
                by_cases hb0 : be = 0
                · subst hb0
                  have HNXT := Lib.hid (HNX.out ⟨HLT.out, hbe⟩)
                  clear hbe
                  go_wp2
                  go_roundw
                  case rel => exact ⟨t + 1, by omega, by go_num, HNXT, HB53⟩
                  case measure => simp [intOf]; omega
                · have hne0 : (be != 0) = true := by simpa using hb0
                  have HEE := Lib.hid (HBE.out HLT.out (by rw [hbe]; exact hb0))
                  rw [hbe] at HEE
                  have HNE0 := Lib.hid hb0
                  clear hbe hb0
                  go_wp2
                  go_ret2
                  exact RWLoadPost.bad (by rw [HW60.out, HEE.out]) HNE0.out HB5w.out
            · obtain rfl : n = t := by omega
              have HALL : Hid (rs.take n = rs) := Lib.hid (List.take_of_length_le (by rw [HN.out]; exact Nat.le_refl _))
              have HW0 : Hid (wldE gens rs = 0) := Lib.hid (by rw [HW60.out]; exact rowsE_ok (by rw [HALL.out] at hGd; exact hGd.out))
              have HZ3 := Lib.hid (HZ.out.later hB3.out)
              clear hGd HLV HIN HZ hB3 HW60 hlt htn
              go_wp2
              go_loopw [73] (fun i wr => ∃ (k : Nat) (G : Nat → Prop), k ≤ m ∧ i = .int .i64 k ∧ Hid (ZooAt wr qz G l (sortR k rs) (.slice none 0 0)) ∧ Hid (∀ b, G b → w.heap.size ≤ b) ∧ Hid (Below w.heap.size w wr)) (fun i _ => m - (intOf i).toNat)
              case atStart => exact ⟨0, _, by omega, rfl, HZ3, HG0, HBW⟩
              case round =>
                obtain ⟨k, G, hkm, rfl, hZ, hG, hB⟩ := hrel
                by_cases hltk : k < m
                · have HSL := Lib.hid (sortR_len rs k)
                  have HSS := Lib.hid (sortR_succ k rs)
                  go_wp2
                  go_loopw [78] (fun i wr => ∃ (t : Nat) (G : Nat → Prop), t ≤ n ∧ i = .int .i64 t ∧ Hid (ZooAt wr qz G l (sortR k rs ++ atSlot (rs.take t) k) (.slice none 0 0)) ∧ Hid (∀ b, G b → w.heap.size ≤ b) ∧ Hid (Below w.heap.size w wr)) (fun i _ => n - (intOf i).toNat)
                  case atStart => exact ⟨0, G, by omega, rfl, by rw [show atSlot (rs.take 0) k = [] from rfl, List.append_nil]; exact hZ, hG, hB⟩
                  case round =>
                    clear hZ hG hB HZ3 HG0 HBW
                    obtain ⟨t, G, htn, rfl, hZ, hG, hB⟩ := hrel
                    by_cases hlt : t < n
                    · obtain ⟨b, off, rfl, hb, hck⟩ := HC.out t hlt
                      have hcr : ∀ jj, jj < 11 → wr.cell? ⟨b, off + t * 11 + jj, none⟩ = (elRow.enc (rs.getD t rowZ))[jj]? := fun jj hjj => by rw [hB.out.cell (p := ⟨b, _, none⟩) hb]; exact hck jj hjj
                      have HTK := Lib.hid (atSlot_next (show t < rs.length by rw [HN.out]; exact hlt) k)
                      have HLEN : Hid ((sortR k rs ++ atSlot (rs.take t) k).length ≤ 3700) := Lib.hid (by
                        have h1 := HSL.out
                        have h2 : (atSlot (rs.take t) k).length ≤ (rs.take t).length := List.length_filter_le _ _
                        have h3 : k * rs.length ≤ 60 * 60 := Nat.mul_le_mul (by omega) (by rw [HN.out]; exact h60)
                        rw [List.length_append]
                        rw [List.length_take, HN.out] at h2
                        omega)
                      have HNXL : Hid (sortR k rs ++ atSlot (rs.take (t + 1)) k = (sortR k rs ++ atSlot (rs.take t) k) ++ (if (rs.getD t rowZ).s == (k : Int) then [rs.getD t rowZ] else [])) := Lib.hid (by rw [HTK.out, List.append_assoc])
                      have hbw : b < wr.heap.size := Nat.lt_of_lt_of_le hb hB.out.size
                      clear hck HTK
                      generalize rs.getD t rowZ = r at *
                      generalize sortR k rs ++ atSlot (rs.take t) k = L at *
                      obtain ⟨c0, c1, c2, c3, c4, c5, c6, c7, c8, c9, c10⟩ := lRow (O := off + t * 11) (r := r) hcr
                      clear hcr
                      cases hk : (r.s == (k : Int))
                      · rw [hk, if_neg (by decide), List.append_nil] at HNXL
                        go_wp2
                        go_roundw
                        case rel => exact ⟨t + 1, G, by omega, by go_num, by rw [HNXL.out]; exact hZ.out.later (nb_alloc (Below.refl _ _) _), hG, nb_alloc hB.out _⟩
                        case measure => simp [intOf]; omega
                      · rw [hk, if_pos rfl] at HNXL
                        have HWA : Hid (Below wr.heap.size wr (wr.alloc (.cells #[.int .i64 r.s, .int .i64 r.g, .int .i64 r.m, .int .i64 (r.f 0), .int .i64 (r.f 1), .int .i64 (r.f 2), .int .i64 (r.f 3), .int .i64 (r.f 4), .int .i64 (r.f 5), .int .i64 (r.f 6), .int .i64 (r.f 7)] 54))) := Lib.hid (nb_alloc (Below.refl _ _) _)
                        have hA : (wr.alloc (.cells #[.int .i64 r.s, .int .i64 r.g, .int .i64 r.m, .int .i64 (r.f 0), .int .i64 (r.f 1), .int .i64 (r.f 2), .int .i64 (r.f 3), .int .i64 (r.f 4), .int .i64 (r.f 5), .int .i64 (r.f 6), .int .i64 (r.f 7)] 54)).heap[wr.heap.size]? = some (.cells #[.int .i64 r.s, .int .i64 r.g, .int .i64 r.m, .int .i64 (r.f 0), .int .i64 (r.f 1), .int .i64 (r.f 2), .int .i64 (r.f 3), .int .i64 (r.f 4), .int .i64 (r.f 5), .int .i64 (r.f 6), .int .i64 (r.f 7)] 54) := heap_alloc_new _ _
                        go_wp2_with fail
                        generalize wr.alloc (.cells #[.int .i64 r.s, .int .i64 r.g, .int .i64 r.m, .int .i64 (r.f 0), .int .i64 (r.f 1), .int .i64 (r.f 2), .int .i64 (r.f 3), .int .i64 (r.f 4), .int .i64 (r.f 5), .int .i64 (r.f 6), .int .i64 (r.f 7)] 54) = W at *
                        clear c0 c1 c2 c3 c4 c5 c6 c7 c8 c9 c10 hk
                        obtain ⟨k0, k1, k2, k3, k4, k5, k6, k7, k8, k9, k10⟩ := rCells (r := r) hA
                        have hAl : wr.heap.size < W.heap.size := (Array.getElem?_eq_some_iff.1 hA).1
                        have HBW : Hid (Below w.heap.size w W) := Lib.hid (nb_trans hB.out HWA.out)
                        obtain ⟨c, vL, hzi⟩ := hZ.out.later HWA.out
                        have HZI := Lib.hid hzi
                        have HOA : Hid (∀ X, Below W.heap.size W X → X.ownsRow 0 54 11 vL L.length (L.flatMap elRow.enc)) := Lib.hid (fun X hX => hzi.own.later hX)
                        have cq := hzi.slots.cell2.1
                        have fq := hzi.slots.cell2.2.2 2
                        have hqW := hzi.lt qz hzi.at_.1
                        obtain ⟨a, cap, rfl, -⟩ := hzi.own.reads
                        have HNQ : Hid ((Value.slice a L.length cap).ownBlock ≠ some qz) := Lib.hid (fun e => by have := (hzi.inL qz e).2; rw [hzi.at_.2] at this; exact absurd this (by decide))
                        have HL2 : Hid (L.length + 1 ≤ maxLen) := Lib.hid (by have := HLEN.out; unfold maxLen; omega)
                        have HL : Hid ((L.length + 1) * 88 ≤ 140737488355328) := Lib.hid (by have := HLEN.out; omega)
                        clear hzi hA
                        go_region_law (first
                          | ((refine step_append_lies _ (by rfl) _ _ 23 (by rfl) 0 54 r0 _ 11 88 Tryz.underlying23 ri rz0 rz1 rz2 rfl (by decide) (.slice a L.length cap) L.length (L.flatMap elRow.enc) (by rfl) (HOA.out _ (nb_alloc (Below.refl _ _).drew _)) _ 1 1 [.int .i64 r.s, .int .i64 r.g, .int .i64 r.m, .int .i64 (r.f 0), .int .i64 (r.f 1), .int .i64 (r.f 2), .int .i64 (r.f 3), .int .i64 (r.f 4), .int .i64 (r.f 5), .int .i64 (r.f 6), .int .i64 (r.f 7)] (by rfl) rfl (World.news_of_block (heap_alloc_new _ _)) (elRow.one r) (by decide) HL2.out HL.out (Nat.zero_le _) _ rfl ?_
                              intro g cap' w2 hown hgr hat hg2
                              have hG2 : Grew W w2 (.slice a L.length cap) g := Grew.of (nb_alloc (Below.refl _ _).drew _) hgr hat hg2
                              have HD := Lib.hid (HZI.out.append (r := r) hG2 hown)
                              have cq2 : w2.cell? ⟨qz, 2, none⟩ = some (.slice a L.length cap) := by rw [World.cell?_of_block (a := ⟨qz, 2, none⟩) (hG2.far qz hqW HNQ.out)]; exact cq
                              have fq2 : w2.frozen? ⟨qz, 2, none⟩ = false := by rw [World.frozen?_of_block (a := ⟨qz, 2, none⟩) (hG2.far qz hqW HNQ.out)]; exact fq
                              have hq2 : qz < w2.heap.size := Nat.lt_of_lt_of_le hqW hG2.size
                              clear hown hgr hat hG2)))
                        all_goals
                          obtain ⟨F', hz', hk', hm'⟩ := HD.out
                          have HNXT : Hid (ZooAt (w2.setCell ⟨qz, 2, none⟩ (.slice (some ⟨g, 0, none⟩) (L.length + 1) cap')) qz F' l (L ++ [r]) (.slice none 0 0) ∧ (∀ b, F' b → w.heap.size ≤ b) ∧ Below w.heap.size w (w2.setCell ⟨qz, 2, none⟩ (.slice (some ⟨g, 0, none⟩) (L.length + 1) cap'))) := Lib.hid ⟨hz', hm'.above HBW.out.size hG.out, HBW.out.trans (hk'.below HBW.out.size hG.out)⟩
                          clear hz' hk' hm' HD cq fq k0 k1 k2 k3 k4 k5 k6 k7 k8 k9 k10
                          go_wp2
                          go_roundw
                          case rel => exact ⟨t + 1, F', by omega, by go_num, by rw [HNXL.out]; exact HNXT.out.1, HNXT.out.2.1, HNXT.out.2.2⟩
                          case measure => simp [intOf]; omega
                    · obtain rfl : n = t := by omega
                      have HALL : Hid (rs.take n = rs) := Lib.hid (List.take_of_length_le (by rw [HN.out]; exact Nat.le_refl _))
                      rw [HALL.out, ← HSS.out] at hZ
                      go_wp2
                      go_roundw
                      case rel => exact ⟨k + 1, G, by omega, by go_num, hZ, hG, hB⟩
                      case measure => simp [intOf]; omega
                · obtain rfl : m = k := by omega
                  go_wp2
                  go_ret2
                  exact ⟨.pointer (some ⟨qz, 0, none⟩), by rw [HW0.out]; rfl, hB.out, fun h => absurd HW0.out h, fun _ => ⟨qz, G, rfl, by rw [HLL.out, HM.out]; exact hZ.out, hG.out⟩⟩
        · rw [if_neg h0] at HW60
          obtain rfl := hbad h0
          have hne : (x != 0) = true := by simpa using h0
          have H0 := Lib.hid h0
          clear hx hbad hgood h0 hb2
          go_wp2
          go_ret2
          exact RWLoadPost.bad HW60.out H0.out HB2.out
  · have h60' : decide ((60 : Int) < (n : Int)) = true := by rw [decide_eq_true_iff]; omega
    have HW60 : Hid (wldE gens rs = 2) := Lib.hid (by rw [wldE, HN.out, if_neg h60])
    go_enter Tryz.func64, Tryz.ntmps64
    go_wp2
    go_ret2
    exact RWLoadPost.bad HW60.out (by decide) (Below.refl _ _)
end Go.Proofs.YtndhomjfjhohoaaGreatDoor

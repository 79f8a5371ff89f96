/- The contracts of Index, Contains, listOf, enliven and Load of package slots. -/
import Derived.Test.YtlclceiebnnpgaaGreatLoadModel
import Derived.Test.YtlclceiebnnpgaaGreatRefSlots
namespace Go.Proofs.YtlclceiebnnpgaaGreat
set_option maxRecDepth 8000
open Go.RowKit

/-- what Index answers -/
def idxI (l : List (Int × Bool)) (x : Int × Bool) : Int := if x ∈ l then (l.idxOf x : Int) else -1
theorem idxI_mem {l : List (Int × Bool)} {x : Int × Bool} {k : Nat} (hk : k < l.length) (h : ∀ j, j < k → l.getD j slotZ ≠ x) (hx : l.getD k slotZ = x) : idxI l x = k := by
  have hm : x ∈ l := by rw [← hx]; exact memD hk
  rw [idxI, if_pos hm]
  congr 1
  have e : l[k] = x := by rw [← hx, List.getD_eq_getElem?_getD, List.getElem?_eq_getElem hk]; rfl
  have h1 : l.idxOf x < l.length := List.idxOf_lt_length_of_mem hm
  have h2 : l[l.idxOf x] = x := List.getElem_idxOf h1
  rcases Nat.lt_trichotomy (l.idxOf x) k with hlt | heq | hgt
  · exact absurd (by rw [List.getD_eq_getElem?_getD, List.getElem?_eq_getElem h1]; exact h2) (h _ hlt)
  · exact heq
  · have := List.not_of_lt_findIdx (p := (· == x)) (xs := l) hgt
    simp [e] at this
theorem idxI_nonneg {l : List (Int × Bool)} {x : Int × Bool} : decide (0 ≤ idxI l x) = decide (x ∈ l) := by
  unfold idxI; split <;> simp [*]

set_option maxHeartbeats 1000000 in
theorem slotIndex_any (v : Value) (l : List (Int × Bool)) (x : Int × Bool) (w : World) (h : Reads elSlot w v l) :
    Calls Tryz.prog 86 #[v, .agg #[.int .i64 x.1, .bool x.2]] w fun e w' => e = .returned (.int .i64 (idxI l x)) ∧ Below w.heap.size w w' := by
  obtain ⟨x1, x2⟩ := x
  obtain ⟨hm, h⟩ := h.open
  unfold maxLen at hm
  generalize hn : l.length = n at *
  have HN := Lib.hid hn
  clear hn
  rcases h with ⟨a, cap, rfl, hz⟩ | ⟨b, off, cap, rfl, hb, hlc, hcm, hc⟩
  all_goals
    go_enter Tryz.func86, Tryz.ntmps86
    go_wp2
    go_loopw [8] (fun i wr => ∃ k : Nat, k ≤ n ∧ i = .int .i64 k ∧ Hid (∀ j, j < k → l.getD j slotZ ≠ (x1, x2)) ∧ Hid (Below (w.heap.size + 1) (w.alloc (.cells #[.int .i64 x1, .bool x2] 89)) wr)) (fun i _ => n - (intOf i).toNat)
    case atStart => exact ⟨0, by omega, rfl, fun j hj => by omega, Below.refl _ _⟩
    case round =>
      obtain ⟨k, hk, rfl, hno, hB⟩ := hrel
      have HBW : Hid (Below w.heap.size w wr) := Lib.hid ((nb_alloc (Below.refl _ _) _).trans (hB.out.mono (by omega)))
      by_cases hlt : k < n
      · first
          | omega
          | (obtain ⟨c0, c1⟩ := cells2 rfl hc hlt
             clear hc
             have c0' : wr.cell? ⟨b, off + k * 2, none⟩ = some (.int .i64 (l.getD k slotZ).1) := by rw [HBW.out.cell (p := ⟨b, _, none⟩) hb, c0]; rfl
             have c1' : wr.cell? ⟨b, off + k * 2 + 1, none⟩ = some (.bool (l.getD k slotZ).2) := by rw [HBW.out.cell (p := ⟨b, _, none⟩) hb, c1]; rfl
             have k0 : wr.cell? ⟨w.heap.size, 0, none⟩ = some (.int .i64 x1) := by rw [hB.out.cell (p := ⟨w.heap.size, 0, none⟩) (by simp)]; simp
             have k1 : wr.cell? ⟨w.heap.size, 1, none⟩ = some (.bool x2) := by rw [hB.out.cell (p := ⟨w.heap.size, 1, none⟩) (by simp)]; simp
             clear c0 c1
             have HI : Hid (l.getD k slotZ = (x1, x2) → idxI l (x1, x2) = k) := Lib.hid (fun e => idxI_mem (by rw [HN.out]; exact hlt) hno.out e)
             generalize hy : l.getD k slotZ = y at *
             have HY := Lib.hid hy
             clear hy
             obtain ⟨y1, y2⟩ := y
             cases h1 : (x1 == y1) <;> cases x2 <;> cases y2
             all_goals
               go_wp2
               go_quiet (fail)
               go_wp2
               first
                 | (go_roundw
                    case rel => exact ⟨k + 1, by omega, by go_num, fun j hj => if e : j = k then by rw [e, HY.out]; intro e2; simp only [Prod.mk.injEq] at e2; obtain ⟨rfl, e3⟩ := e2; first | (simp at h1; done) | (cases e3; done) else hno.out j (by omega), nb_drewN hB.out⟩
                    case measure => simp [intOf]; omega)
                 | (go_ret
                    obtain rfl := eq_of_beq h1
                    exact ⟨ret_int (HI.out rfl).symm, nb_drewN HBW.out⟩))
      · obtain rfl : k = n := by omega
        go_wp2
        go_ret
        exact ⟨ret_int (by rw [idxI, if_neg (notMemD (by rw [HN.out]; exact hno.out))]), HBW.out⟩

set_option maxHeartbeats 400000 in
theorem slotContains_any (v : Value) (l : List (Int × Bool)) (x : Int × Bool) (w : World) (h : Reads elSlot w v l) :
    Calls Tryz.prog 62 #[v, .agg #[.int .i64 x.1, .bool x.2]] w fun e w' => e = .returned (.bool (decide (x ∈ l))) ∧ Below w.heap.size w w' := by
  have HI := Lib.hid (idxI_nonneg (l := l) (x := x))
  have HR := Lib.hid (h.later (nb_alloc (Below.refl _ _) (.cells #[.int .i64 x.1, .bool x.2] 89)))
  clear h
  go_enter Tryz.func62, Tryz.ntmps62
  go_wp2_with fail
  refine (slotIndex_any _ l x _ HR.out).mono ?_
  rintro e w' ⟨rfl, hb'⟩
  have HB := Lib.hid (nb_trans (nb_alloc (Below.refl _ _) _) hb')
  clear hb'
  generalize idxI l x = ii at *
  go_wp2
  all_goals (go_ret; exact ⟨ret_bool (by rw [← HI.out]), HB.out⟩)

theorem made_enc {α : Type} (E : El α) (z : Array Value) (hz : z.toList = E.enc E.zero) (n : Nat) : (madeCells z (n * E.size)).toList = (List.replicate n E.zero).flatMap E.enc := by
  have hs : z.size = E.size := by rw [← Array.length_toList, hz, E.len]
  apply List.ext_getElem?
  intro j
  by_cases hj : j < n * E.size
  · have hd : j / E.size < n := Nat.div_lt_of_lt_mul (by rwa [Nat.mul_comm])
    have hm := Nat.mod_lt j E.pos
    have he := enc_at E (List.replicate n E.zero) (j / E.size) (j % E.size) (by simpa using hd) hm
    rw [Nat.mul_comm, Nat.div_add_mod] at he
    have e0 : (List.replicate n E.zero).getD (j / E.size) E.zero = E.zero := by simp [List.getD_eq_getElem?_getD, hd]
    have hm' : j % z.size < z.size := by rw [hs]; exact hm
    have e1 : (madeCells z (n * E.size)).toList[j]? = some (z[j % z.size]!) := by simp [madeCells, hj]
    rw [he, e0, ← hz, e1, ← hs, getElem!_pos z _ hm', Array.getElem?_toList, Array.getElem?_eq_getElem hm']
  · rw [List.getElem?_eq_none (by simp [madeCells]; omega), List.getElem?_eq_none (by rw [length_enc]; simp; omega)]

theorem OwnsF.stored2 {w : World} {B : Nat} {T : TypeId} {g n cap : Nat} {xs : List (Int × Bool)} (h : OwnsF elSlot w B T (.slice (some ⟨g, 0, none⟩) n cap) xs) (k : Nat) (z : Int) (hk : k < xs.length) :
    OwnsF elSlot (w.setCell ⟨g, k * 2, none⟩ (.int .i64 z)) B T (.slice (some ⟨g, 0, none⟩) n cap) (xs.set k (z, (xs.getD k slotZ).2)) := h.stored k 0 _ (.int .i64 z) hk (by decide) rfl
theorem Owns.flagged {w : World} {T : TypeId} {g n cap : Nat} {xs : List (Int × Bool)} (h : Owns elSlot w T (.slice (some ⟨g, 0, none⟩) n cap) xs) (k : Nat) (b : Bool) (hk : k < xs.length) :
    Owns elSlot (w.setCell ⟨g, k * 2 + 1, none⟩ (.bool b)) T (.slice (some ⟨g, 0, none⟩) n cap) (xs.set k ((xs.getD k slotZ).1, b)) := h.stored k 1 _ (.bool b) hk (by decide) rfl

/-- the generations of the first k, in slots -/
def lsTo (gens : List Int) (k : Nat) : List (Int × Bool) := zeroL (gensTo (zeroL gens) k)
theorem lsTo_zero (gens : List Int) : lsTo gens 0 = List.replicate gens.length slotZ := by rw [lsTo, gensTo_zero, zeroL_len]; simp [zeroL, slotZ]
theorem lsTo_end (gens : List Int) : lsTo gens gens.length = zeroL gens := by
  have := gensTo_end (zeroL gens); rw [zeroL_len, gensL_zeroL] at this; rw [lsTo, this]
theorem lsTo_len (gens : List Int) (k : Nat) (h : k ≤ gens.length) : (lsTo gens k).length = gens.length := by rw [lsTo, zeroL_len, gensTo_len _ _ (by rw [zeroL_len]; exact h), zeroL_len]
theorem lsTo_next (gens : List Int) (k : Nat) (h : k < gens.length) : (lsTo gens k).set k (gens.getD k 0, ((lsTo gens k).getD k slotZ).2) = lsTo gens (k + 1) := by
  have e1 : ((lsTo gens k).getD k slotZ).2 = false := by
    simp only [lsTo, zeroL, List.getD_eq_getElem?_getD, List.getElem?_map]
    cases (gensTo (List.map (fun g => (g, false)) gens) k)[k]? <;> rfl
  rw [e1]
  have e2 := gensTo_next (zeroL gens) k (by rw [zeroL_len]; exact h)
  rw [zeroL_at] at e2
  rw [lsTo, lsTo, ← e2]
  simp [zeroL, List.map_set]

def ListPost (w : World) (zs : List Int) (e : Ending) (w' : World) : Prop :=
  (∃ v, e = .returned (.tuple #[v, .int .i64 (lstE zs)]) ∧ (lstE zs = 0 → ∃ g, v = .slice (some ⟨g, 0, none⟩) zs.length zs.length ∧ w.heap.size ≤ g ∧ OwnsF elSlot w' w.heap.size 89 v (zeroL zs))) ∧ Below w.heap.size w w'
theorem ListPost.bad {w w' : World} {zs : List Int} {v : Value} {c : Int} (h : lstE zs = c) (hc : c ≠ 0) (hb : Below w.heap.size w w') : ListPost w zs (.returned (.tuple #[v, .int .i64 c])) w' :=
  ⟨⟨v, by rw [h], fun e => absurd (h.symm.trans e) hc⟩, hb⟩

set_option maxHeartbeats 2000000 in
theorem listOf_any (v : Value) (zs : List Int) (w : World) (h : Ints w v zs) : Calls Tryz.prog 33 #[v] w (ListPost w zs) := by
  obtain ⟨i0, hi, hz0, hz1, hz2⟩ := info_parts infoSlot
  obtain ⟨hm, h⟩ := h.open
  unfold maxLen at hm
  by_cases hlen : zs.length ≤ 60
  · have HZ := Lib.hid (lsTo_zero zs)
    have HEND := Lib.hid (lsTo_end zs)
    have HLEN := Lib.hid (lsTo_len zs)
    have HNX := Lib.hid (lsTo_next zs)
    generalize hn : zs.length = n at *
    have HN := Lib.hid hn
    clear hn
    rcases h with ⟨a, cap, rfl, hz⟩ | ⟨b, off, cap, rfl, hb, hlc, hcm, hc⟩
    all_goals
      go_enter Tryz.func33, Tryz.ntmps33
      go_wp2_with (first | (at_make; refine wpList_make_full _ rfl _ _ 59 rfl w.heap.size 89 i0 (.agg #[.int .i64 0, .bool false]) 2 Tryz.underlying59 hi hz0 hz1 .i64 .i64 _ _ n rfl rfl rfl rfl ?c1 ?c2 ?c3 ?_))
      case c1 => rw [hz2]; omega
      case c2 => unfold maxLen; omega
      case c3 => exact Nat.le_refl _
      intro w1 hown hgr
      have hb1 : Below w.heap.size w w1 := (Below.refl _ _).grown hgr (Nat.le_refl _) (fun k hk => by cases hk)
      clear hgr
      have HO : Hid (OwnsF elSlot w1 w.heap.size 89 (.slice (some ⟨w.heap.size, 0, none⟩) n n) (lsTo zs 0)) := Lib.hid (by
        unfold OwnsF; rw [HZ.out, List.length_replicate, show slotZ = elSlot.zero from rfl, ← made_enc elSlot #[.int .i64 0, .bool false] rfl n]; exact hown)
      have HB1 := Lib.hid hb1
      clear hown hb1
      go_wp2
      go_loopw [15] (fun i wr => ∃ k : Nat, k ≤ n ∧ i = .int .i64 k ∧ Hid (∀ j, j < k → okG (zs.getD j 0) = true) ∧ Hid (OwnsF elSlot wr w.heap.size 89 (.slice (some ⟨w.heap.size, 0, none⟩) n n) (lsTo zs k)) ∧ Hid (Below w.heap.size w wr)) (fun i _ => n - (intOf i).toNat)
      case atStart => exact ⟨0, by omega, rfl, fun j hj => by omega, HO.out, HB1.out⟩
      case round =>
        obtain ⟨k, hk, rfl, hno, hO, hB⟩ := hrel
        by_cases hltk : k < n
        · first
            | omega
            | (have c0 : wr.cell? ⟨b, off + k, none⟩ = some (.int .i64 (zs.getD k 0)) := by rw [hB.out.cell (p := ⟨b, _, none⟩) hb]; exact hc k hltk
               clear hc
               have HBAD : Hid (okG (zs.getD k 0) = false → lstE zs = 1) := Lib.hid (fun h => lstE_arg (by rw [HN.out]; exact hlen) (by rw [HN.out]; exact hltk) h)
               have hln := HLEN.out k hk
               obtain ⟨g', cap', eg, hgw, -, x0, x1, hfz⟩ := hO.out.owns.open2 rfl (k := k) (by omega)
               simp only [Value.slice.injEq, Option.some.injEq, Addr.mk.injEq, and_true] at eg
               obtain ⟨rfl, -, -⟩ := eg
               have x0' : wr.cell? ⟨w.heap.size, k * 2, none⟩ = some (.int .i64 ((lsTo zs k).getD k slotZ).1) := x0
               have f0 := hfz (k * 2)
               have HST := Lib.hid (fun (z : Int) => hO.out.stored2 k z (by omega))
               have HNXK := Lib.hid (HNX.out k hltk)
               clear hln hfz x0 x1
               generalize ((lsTo zs k).getD k slotZ).1 = y0 at *
               generalize hg : zs.getD k 0 = y at *
               have HY := Lib.hid hg
               clear hg
               cases hy : okG y
               · have HE := Lib.hid (HBAD.out hy)
                 rcases inB_f hy with hy' | hy'
                 all_goals
                   have HYY := Lib.hid hy
                   clear hy
                   go_wp2
                   go_ret2
                   exact ListPost.bad HE.out (by decide) hB.out
               · obtain ⟨y1, y2⟩ := inB_t hy
                 have HYY := Lib.hid hy
                 clear hy
                 go_wp2
                 go_roundw
                 case rel => exact ⟨k + 1, by omega, by go_num, fun j hj => if e : j = k then by rw [e, HY.out]; exact HYY.out else hno.out j (by omega), by rw [← HNXK.out]; exact HST.out y, hB.out.setCell (p := ⟨w.heap.size, _, none⟩) (Nat.le_refl _) _⟩
                 case measure => simp [intOf]; omega)
        · obtain rfl : k = n := by omega
          have HE := Lib.hid (lstE_ok (by rw [HN.out]; exact hlen) (by rw [HN.out]; exact hno.out))
          go_wp2
          go_ret2
          exact ⟨⟨.slice (some ⟨w.heap.size, 0, none⟩) k k, by rw [HE.out]; rfl, fun _ => ⟨_, by rw [HN.out], Nat.le_refl _, by rw [← HEND.out]; exact hO.out⟩⟩, hB.out⟩
  · have HE := Lib.hid (lstE_large hlen)
    generalize zs.length = n at *
    rcases h with ⟨a, cap, rfl, hz⟩ | ⟨b, off, cap, rfl, hb, hlc, hcm, hc⟩
    all_goals first
      | (exfalso; omega)
      | (go_enter Tryz.func33, Tryz.ntmps33
         go_wp2
         go_ret2
         exact ListPost.bad HE.out (by decide) (Below.refl _ _))

def EnlPost (w : World) (v : Value) (g : Nat) (gens live : List Int) (e : Ending) (w' : World) : Prop :=
  e = .returned (.int .i64 (enlE gens live)) ∧ (enlE gens live = 0 → Owns elSlot w' 89 v (mkL gens live)) ∧ Kept (fun k => k = g) w w'
theorem EnlPost.bad {w w' : World} {v : Value} {g : Nat} {gens live : List Int} {c : Int} (h : enlE gens live = c) (hc : c ≠ 0) (hb : Kept (fun k => k = g) w w') : EnlPost w v g gens live (.returned (.int .i64 c)) w' :=
  ⟨by rw [h], fun e => absurd (h.symm.trans e) hc, hb⟩

set_option maxHeartbeats 4000000 in
theorem enliven_any (g : Nat) (u : Value) (gens live : List Int) (w : World) (hv : Owns elSlot w 89 (.slice (some ⟨g, 0, none⟩) gens.length gens.length) (zeroL gens)) (hl : Ints w u live) (hu : 0 < live.length → ∀ k, u.ownBlock = some k → k ≠ g) :
    Calls Tryz.prog 34 #[.slice (some ⟨g, 0, none⟩) gens.length gens.length, u] w (EnlPost w (.slice (some ⟨g, 0, none⟩) gens.length gens.length) g gens live) := by
  have hR := Lib.hid hv.reads
  have HV := Lib.hid hv
  have HGL := Lib.hid (zeroL_len gens)
  obtain ⟨hm, h⟩ := hl.open
  unfold maxLen at hm
  generalize hn : live.length = n at *
  have HN := Lib.hid hn
  generalize hng : gens.length = m at *
  have HM := Lib.hid hng
  clear hn hng hv hl
  rcases h with ⟨a, cap, rfl, hz⟩ | ⟨b, off, cap, rfl, hb, hlc, hcm, hc⟩
  all_goals
    go_enter Tryz.func34, Tryz.ntmps34
    go_wp2
    go_loop [11] (fun i => ∃ k : Nat, k ≤ n ∧ i = .int .i64 k ∧ Hid (∀ j, j < k → inB (live.getD j 0) 0 (gens.length - 1) = true)) (fun i => n - (intOf i).toNat)
    case atStart => exact ⟨0, by omega, rfl, fun j hj => by omega⟩
    case round =>
      obtain ⟨k, hk, rfl, hno⟩ := hrel
      by_cases hlt : k < n
      · first
          | omega
          | (have hck := hc k hlt
             clear hc
             have HBAD : Hid (inB (live.getD k 0) 0 (gens.length - 1) = false → enlE gens live = 5) := Lib.hid (fun h => enlE_none (by rw [HN.out]; exact hlt) h)
             generalize hg : live.getD k 0 = y at *
             have HY := Lib.hid hg
             clear hg
             have HYZ : Hid (inB y 0 ((zeroL gens).length - 1) = inB y 0 (gens.length - 1)) := Lib.hid (by rw [HGL.out, HM.out])
             cases hy : inB y 0 (gens.length - 1)
             all_goals
               have HYY := Lib.hid hy
               clear hy
               go_wp2_with fail
               refine (isSlot_is hR.out (HYZ.out.trans HYY.out)).mono ?_
               rintro e w' ⟨rfl, rfl⟩
               go_wp2
             · go_ret
               exact EnlPost.bad (HBAD.out HYY.out) (by decide) (Kept.refl _ _)
             · go_round
               case rel => exact ⟨k + 1, by omega, by go_num, fun j hj => if e : j = k then by rw [e, HY.out]; exact HYY.out else hno.out j (by omega)⟩
               case measure => simp [intOf]; omega)
      · obtain rfl : k = n := by omega
        have HALL : Hid (∀ j, j < live.length → inB (live.getD j 0) 0 (gens.length - 1) = true) := Lib.hid (by rw [HN.out]; exact hno.out)
        clear hno
        go_wp2
        go_loopw [22] (fun i wr => ∃ j : Nat, j ≤ k ∧ i = .int .i64 j ∧ Hid ((live.take j).Nodup) ∧ Hid (Owns elSlot wr 89 (.slice (some ⟨g, 0, none⟩) m m) (mkL gens (live.take j))) ∧ Hid (Kept (fun q => q = g) w wr)) (fun i _ => k - (intOf i).toNat)
        case atStart => exact ⟨0, by omega, rfl, by simp [Hid], by rw [List.take_zero, mkL_nil]; exact HV, Kept.refl _ _⟩
        case round =>
          obtain ⟨j, hj, rfl, hnd, hO, hK⟩ := hrel
          by_cases hjk : j < k
          · first
              | omega
              | (have hck : wr.cell? ⟨b, off + j, none⟩ = some (.int .i64 (live.getD j 0)) := hK.out.cellS (p := ⟨b, off + j, none⟩) (hc j hjk) (hu (by omega) b rfl)
                 clear hc
                 have hyk := inB_t (HALL.out j (by rw [HN.out]; exact hjk))
                 have HT := Lib.hid (take_snoc (show j < live.length by rw [HN.out]; exact hjk))
                 have HTW : Hid (live.getD j 0 ∈ live.take j → enlE gens live = 6) := Lib.hid (fun h => enlE_twice HALL.out (by rw [HN.out]; exact hjk) h)
                 generalize hg : live.getD j 0 = y at *
                 clear hg
                 rw [HM.out] at hyk
                 obtain ⟨y0, y1⟩ := hyk
                 obtain ⟨i, rfl⟩ := Int.eq_ofNat_of_zero_le y0
                 have hin : i < m := by omega
                 obtain ⟨g', cap', eg, hgw, -, x0, x1, hfz⟩ := hO.out.open2 rfl (k := i) (by rw [mkL_len, HM.out]; exact hin)
                 simp only [Value.slice.injEq, Option.some.injEq, Addr.mk.injEq, and_true] at eg
                 obtain ⟨rfl, -, -⟩ := eg
                 rw [show elSlot.zero = slotZ from rfl, mkL_at (by rw [HM.out]; exact hin)] at x0 x1
                 have x1' : wr.cell? ⟨g, i * 2 + 1, none⟩ = some (.bool (decide ((i : Int) ∈ live.take j))) := x1
                 have f1 := hfz (i * 2 + 1)
                 have HST := Lib.hid (hO.out.flagged i true (by rw [mkL_len, HM.out]; exact hin))
                 rw [mkL_set (by rw [HM.out]; exact hin), ← HT.out] at HST
                 clear hfz x0 x1
                 cases hd : decide ((i : Int) ∈ live.take j)
                 all_goals
                   rw [hd] at x1'
                   have HD := Lib.hid hd
                   clear hd
                   go_wp2
                 · go_roundw
                   case rel => exact ⟨j + 1, by omega, by go_num, by rw [HT.out]; exact nodup_snoc hnd.out (of_decide_eq_false HD.out), HST, hK.out.trans (Kept.setCell (F := fun q => q = g) _ (p := ⟨g, _, none⟩) rfl _) (fun _ h => .inl h)⟩
                   case measure => simp [intOf]; omega
                 · go_ret
                   exact EnlPost.bad (HTW.out (of_decide_eq_true HD.out)) (by decide) hK.out)
          · obtain rfl : j = k := by omega
            have HL : Hid (live.take j = live) := Lib.hid (List.take_of_length_le (by rw [HN.out]; exact Nat.le_refl _))
            rw [HL.out] at hnd hO
            have HE := Lib.hid (fun b hb => enlE_end (b := b) HALL.out hnd.out hb)
            cases hd : decide (((1000000 : Int), true) ∈ mkL gens live)
            all_goals
              have HD := Lib.hid hd
              clear hd
              go_wp2_with fail
              refine (slotContains_any _ (mkL gens live) (1000000, true) _ hO.out.reads).mono ?_
              rintro e w' ⟨rfl, hb'⟩
              rw [HD.out]
              have HB := Lib.hid hb'
              clear hb'
              go_wp2
              go_ret
            · exact ⟨ret_int (HE.out _ HD.out).symm, fun _ => hO.out.later HB.out, hK.out.trans (Kept.ofBelow (F := fun q => q = g) HB.out) (fun _ h => .inl h)⟩
            · exact EnlPost.bad (HE.out _ HD.out) (by decide) (hK.out.trans (Kept.ofBelow (F := fun q => q = g) HB.out) (fun _ h => .inl h))

def LoadPost (w : World) (gens live : List Int) (e : Ending) (w' : World) : Prop :=
  ∃ u, e = .returned (.tuple #[u, .int .i64 (ldE gens live)]) ∧ Below w.heap.size w w' ∧ (ldE gens live ≠ 0 → u = .pointer none) ∧
    (ldE gens live = 0 → ∃ p F, u = .pointer (some ⟨p, 0, none⟩) ∧ SlotsAt w' p F (mkL gens live) ∧ ∀ k, F k → w.heap.size ≤ k)
theorem LoadPost.bad {w w' : World} {gens live : List Int} {c : Int} (h : ldE gens live = c) (hc : c ≠ 0) (hb : Below w.heap.size w w') : LoadPost w gens live (.returned (.tuple #[.pointer none, .int .i64 c])) w' :=
  ⟨_, by rw [h], hb, fun _ => rfl, fun e => absurd (h.symm.trans e) hc⟩
theorem LoadPost.good {w w' : World} {gens live : List Int} {p : Nat} {F : Nat → Prop} (h : ldE gens live = 0) (hb : Below w.heap.size w w') (hs : SlotsAt w' p F (mkL gens live)) (hF : ∀ k, F k → w.heap.size ≤ k) : LoadPost w gens live (.returned (.tuple #[.pointer (some ⟨p, 0, none⟩), .int .i64 0])) w' :=
  ⟨_, by rw [h], hb, fun e => absurd h e, fun _ => ⟨p, F, rfl, hs, hF⟩⟩
theorem Ints.blk {w : World} {v : Value} {zs : List Int} (h : Ints w v zs) (hp : 0 < zs.length) {k : Nat} (hk : v.ownBlock = some k) : k < w.heap.size := by
  obtain ⟨a, cap, rfl, _, _, h⟩ := h
  obtain ⟨b, off, rfl, hb, _⟩ := h 0 hp
  simp [Value.ownBlock] at hk; omega

set_option maxHeartbeats 1000000 in
theorem load_any (u v : Value) (gens live : List Int) (w : World) (hg : Ints w u gens) (hl : Ints w v live) : Calls Tryz.prog 11 #[u, v] w (LoadPost w gens live) := by
  have HG := Lib.hid hg
  have HL := Lib.hid hl
  clear hg hl
  go_enter Tryz.func11, Tryz.ntmps11
  go_wp2_with fail
  refine (listOf_any _ gens _ HG.out).mono ?_
  rintro e w1 ⟨⟨v1, rfl, h1⟩, hb1⟩
  have HB1 := Lib.hid hb1
  have H1 := Lib.hid h1
  clear hb1 h1
  cases he : (lstE gens != 0)
  · have he0 : lstE gens = 0 := by simpa using he
    obtain ⟨g, rfl, hgw, ho⟩ := H1.out he0
    have HLD := Lib.hid (ldE_ok (l := live) he0)
    have HO := Lib.hid ho
    rw [he0]
    clear he he0 ho H1
    go_wp2_with fail
    refine (enliven_any g _ gens live _ HO.out.owns (HL.out.later HB1.out) (fun hp k hk => by have := HL.out.blk hp hk; omega)).mono ?_
    rintro e w2 ⟨rfl, h2, hk2⟩
    have H2 := Lib.hid h2
    have HB2 : Hid (Below w.heap.size w w2) := Lib.hid (HB1.out.trans (hk2.below HB1.out.size (fun k e => by omega)))
    have HG2 : Hid (g < w2.heap.size) := Lib.hid (by have := HO.out.owns.lt (k := g) rfl; have := hk2.size; omega)
    clear h2 hk2
    cases he : (enlE gens live != 0)
    · have he0 : enlE gens live = 0 := by simpa using he
      have HO2 := Lib.hid (H2.out he0)
      have HZ := Lib.hid (HLD.out.trans he0)
      rw [he0]
      clear he he0 H2
      go_wp2
      go_ret2
      refine LoadPost.good HZ.out (nb_alloc HB2.out _) (p := w2.heap.size) (F := fun k => k = g ∨ k = w2.heap.size) ⟨.slice (some ⟨g, 0, none⟩) gens.length gens.length, heap_alloc_new w2 _, HO2.out.later (nb_alloc (Below.refl _ _) _), .inr rfl, ?_, ?_⟩ ?_
      · intro k hk; simp [Value.ownBlock] at hk; subst hk; exact ⟨.inl rfl, by have := HG2.out; omega⟩
      · intro k hk; have := HG2.out; simp; omega
      · intro k hk; have := HB2.out.size; rcases hk with rfl | rfl <;> omega
    · have hne : enlE gens live ≠ 0 := by simpa using he
      have HZ := Lib.hid HLD.out
      have HNE := Lib.hid hne
      generalize enlE gens live = c at *
      clear hne
      go_wp2
      go_ret2
      exact LoadPost.bad HZ.out HNE.out HB2.out
  · have hne : lstE gens ≠ 0 := by simpa using he
    have HZ := Lib.hid (ldE_bad (l := live) hne)
    have HNE := Lib.hid hne
    clear H1
    generalize lstE gens = c at *
    clear hne
    go_wp2
    go_ret2
    exact LoadPost.bad HZ.out HNE.out HB1.out
end Go.Proofs.YtlclceiebnnpgaaGreat


/- text.read, text.Parse. -/
import Derived.Test.YtndhomjfjhohoaaGreatDoorPLine
import Derived.Test.YtndhomjfjhohoaaGreatDoorPPrint
namespace Go.Proofs.YtndhomjfjhohoaaGreatDoor
set_option maxRecDepth 8000
set_option maxRecDepth 8000
open Go.RowKit

theorem rdLine_len {s s' : Stt} {line : List UInt8} (h : rdLine s line = some s') (hl : line.length ≤ 6000) : s'.g.length ≤ s.g.length + 6001 ∧ s'.r.length ≤ s.r.length + 1 ∧ s'.b.length ≤ s.b.length + 1 := by
  have hc : (spl 32 line).tail.length ≤ 6000 := by
    have := spl_len 32 line
    have h2 : line.count 32 ≤ line.length := List.count_le_length
    rw [List.length_tail]; omega
  unfold rdLine at h
  split at h
  · cases hn : numsA (spl 32 line).tail with
    | none => rw [hn] at h; cases h
    | some l =>
      have := numsA_len hn
      rw [hn] at h; cases h
      simp; omega
  · split at h
    · cases hn : rdRow (spl 32 line).tail with
      | none => rw [hn] at h; cases h
      | some l => rw [hn] at h; cases h; simp
    · split at h
      · cases hn : rdBond (spl 32 line).tail with
        | none => rw [hn] at h; cases h
        | some l => rw [hn] at h; cases h; simp
      · cases h
/-- A state that a call hands back, its slices the call's own. -/
structure SttIs (w : World) (B : Nat) (vg vr vb : Value) (s : Stt) : Prop where
  g : OwnsF elInt w B 3 vg s.g
  r : OwnsF elRow w B 54 vr s.r
  b : OwnsF elBond w B 58 vb s.b
theorem SttIs.zero (w : World) (B : Nat) : SttIs w B (.slice none 0 0) (.slice none 0 0) (.slice none 0 0) sttZ := ⟨OwnsF.nil _ _ _ _, OwnsF.nil _ _ _ _, OwnsF.nil _ _ _ _⟩
theorem SttIs.later {w w' : World} {B : Nat} {vg vr vb : Value} {s : Stt} (h : SttIs w B vg vr vb s) (hb : Below w.heap.size w w') : SttIs w' B vg vr vb s := ⟨h.g.later hb, h.r.later hb, h.b.later hb⟩
theorem SttIs.weaken {w : World} {B B' : Nat} {vg vr vb : Value} {s : Stt} (h : SttIs w B vg vr vb s) (hb : B' ≤ B) : SttIs w B' vg vr vb s := ⟨h.g.weaken hb, h.r.weaken hb, h.b.weaken hb⟩
def ReadPost (w : World) (o : Option Stt) (e : Ending) (w' : World) : Prop :=
  ∃ vg vr vb, e = .returned (.tuple #[.agg #[vg, vr, vb], .bool o.isSome]) ∧ SttIs w' w.heap.size vg vr vb (o.getD sttZ) ∧ Below w.heap.size w w'
theorem ReadPost.no {w w' : World} {o : Option Stt} (h : o = none) (hb : Below w.heap.size w w') : ReadPost w o (.returned (.tuple #[.agg #[.slice none 0 0, .slice none 0 0, .slice none 0 0], .bool false])) w' :=
  ⟨_, _, _, by rw [h]; rfl, by rw [h]; exact SttIs.zero _ _, hb⟩

theorem heap_alloc_older {w : World} {o o' : Obj} {k : Nat} (h : w.heap[k]? = some o') : (w.alloc o).heap[k]? = some o' := (Below.heap_alloc w o k (Array.getElem?_eq_some_iff.1 h).1).trans h
theorem foldl_none : ∀ ls : List (List UInt8), ls.foldl stL none = none
  | [] => rfl
  | a :: ls => by rw [List.foldl_cons, stL_none]; exact foldl_none ls
theorem foldl_at {ls : List (List UInt8)} {k : Nat} {x : List UInt8} {s : Stt} (hx : ls[k]? = some x) (h : (ls.take k).foldl stL (some sttZ) = some s) : (ls.take (k + 1)).foldl stL (some sttZ) = rdLine s x := by
  rw [List.take_add_one, hx, Option.toList_some, List.foldl_append, h]; rfl
theorem foldl_bad {ls : List (List UInt8)} {k : Nat} (h : (ls.take k).foldl stL (some sttZ) = none) : ls.foldl stL (some sttZ) = none := by
  rw [← List.take_append_drop k ls, List.foldl_append, h, foldl_none]
/-- The three slices stored into another block. -/
theorem StO.out {wr : World} {b p B : Nat} {s : Stt} {vg vr vb x y z : Value} (h : StO wr p B s vg vr vb) (hb : wr.heap[b]? = some (.cells #[x, y, z] 26)) (hB : B ≤ b) :
    SttIs (((wr.setCell ⟨b, 0, none⟩ vg).setCell ⟨b, 1, none⟩ vr).setCell ⟨b, 2, none⟩ vb) B vg vr vb s ∧ Below B wr (((wr.setCell ⟨b, 0, none⟩ vg).setCell ⟨b, 1, none⟩ vr).setCell ⟨b, 2, none⟩ vb) := by
  have hk : Kept (fun k => k = b) wr (((wr.setCell ⟨b, 0, none⟩ vg).setCell ⟨b, 1, none⟩ vr).setCell ⟨b, 2, none⟩ vb) :=
    ((Kept.setCell (F := fun k => k = b) wr (p := ⟨b, 0, none⟩) rfl _).trans (Kept.setCell (F := fun k => k = b) _ (p := ⟨b, 1, none⟩) rfl _) (fun i e => .inl e)).trans (Kept.setCell (F := fun k => k = b) _ (p := ⟨b, 2, none⟩) rfl _) (fun i e => .inl e)
  refine ⟨⟨h.g.kept hk (fun k e e2 => own_ne_at h.g.owns hb (by decide) (e2 ▸ e)), h.r.kept hk (fun k e e2 => own_ne_at h.r.owns hb (by decide) (e2 ▸ e)), h.b.kept hk (fun k e e2 => own_ne_at h.b.owns hb (by decide) (e2 ▸ e))⟩, hk.below ?_ (fun k e => by omega)⟩
  have := (Array.getElem?_eq_some_iff.1 hb).1
  omega
theorem StO.fb {wr : World} {p B : Nat} {s : Stt} {vg vr vb : Value} (h : StO wr p B s vg vr vb) (hp : B ≤ p) : ∀ k, FB p vg vr vb k → B ≤ k := fun k e => by
  rcases e with e | e | e | e
  · omega
  · exact h.g.ge e
  · exact h.r.ge e
  · exact h.b.ge e
theorem StO.far {wr : World} {p B q : Nat} {s : Stt} {vg vr vb : Value} {cs : Array Value} {T : TypeId} (h : StO wr p B s vg vr vb) (hq : wr.heap[q]? = some (.cells cs T)) (hT : T = 9 ∨ T = 26) (hne : q ≠ p) : ¬ FB p vg vr vb q := fun e => by
  rcases e with e | e | e | e
  · exact hne e
  · exact own_ne_at h.g.owns hq (by rcases hT with e | e <;> rw [e] <;> decide) e
  · exact own_ne_at h.r.owns hq (by rcases hT with e | e <;> rw [e] <;> decide) e
  · exact own_ne_at h.b.owns hq (by rcases hT with e | e <;> rw [e] <;> decide) e

set_option maxHeartbeats 4000000 in
theorem read_any (t : List UInt8) (w : World) (hl : t.length ≤ 6000) (hv : VarsIs w) :
    Calls Tryz.prog 33 #[.string (bs t)] w (ReadPost w (rdT t)) := by
  have hX : Below w.heap.size w (w.alloc (.cells #[.slice none 0 0, .slice none 0 0, .slice none 0 0] 26)) := nb_alloc (Below.refl _ _) _
  have hxb : (w.alloc (.cells #[.slice none 0 0, .slice none 0 0, .slice none 0 0] 26)).heap[w.heap.size]? = some (.cells #[.slice none 0 0, .slice none 0 0, .slice none 0 0] 26) := heap_alloc_new _ _
  have HX := Lib.hid hX
  have HXB := Lib.hid hxb
  have HV := Lib.hid hv
  have HC := Lib.hid (cutSuffix_any 10 t (by omega) (w.alloc (.cells #[.slice none 0 0, .slice none 0 0, .slice none 0 0] 26)))
  have HRD : Hid (rdT t = if Lib.hasSuffix t [10] then (spl 10 (Lib.trimSuffix t [10])).foldl stL (some sttZ) else none) := Lib.hid rfl
  have htl := Lib.trimSuffix_le t [10]
  obtain ⟨T, hT⟩ : ∃ T, Lib.trimSuffix t [10] = T := ⟨_, rfl⟩
  obtain ⟨ok, hok⟩ : ∃ T, Lib.hasSuffix t [10] = T := ⟨_, rfl⟩
  rw [hT, hok] at HC HRD
  rw [hT] at htl
  have hTl : T.length ≤ 6000 := by omega
  clear hX hxb hv hT hok htl
  have hsz : (w.alloc (.cells #[.slice none 0 0, .slice none 0 0, .slice none 0 0] 26)).heap.size = w.heap.size + 1 := by simp
  go_enter Tryz.func33, Tryz.ntmps33
  go_wp2_with (go_at_call 68; refine HC.out.mono ?_; rintro e w' ⟨rfl, rfl⟩; refine Hid.out ?_)
  refine Lib.hid ?_
  cases ok
  · have HE : Hid (rdT t = none) := Lib.hid (by rw [HRD.out]; rfl)
    go_wp2
    refine bodyPost_ret (v := .tuple #[.agg #[.slice none 0 0, .slice none 0 0, .slice none 0 0], .bool false]) (by simp [results, Tryz.results33, go_sem]) rfl (ReadPost.no HE.out ?_)
    exact HX.out
  · have HRT : Hid (rdT t = (spl 10 T).foldl stL (some sttZ)) := Lib.hid (by rw [HRD.out, if_pos rfl])
    have hy1 := heap_alloc2_old w (.cells #[.slice none 0 0, .slice none 0 0, .slice none 0 0] 26) (.cells #[.slice none 0 0, .slice none 0 0, .slice none 0 0] 26)
    have hy2 := heap_alloc2_new w (.cells #[.slice none 0 0, .slice none 0 0, .slice none 0 0] 26) (.cells #[.slice none 0 0, .slice none 0 0, .slice none 0 0] 26)
    have hyb : Below w.heap.size w ((w.alloc (.cells #[.slice none 0 0, .slice none 0 0, .slice none 0 0] 26)).alloc (.cells #[.slice none 0 0, .slice none 0 0, .slice none 0 0] 26)) := nb_alloc (nb_alloc (Below.refl _ _) _) _
    have hys : ((w.alloc (.cells #[.slice none 0 0, .slice none 0 0, .slice none 0 0] 26)).alloc (.cells #[.slice none 0 0, .slice none 0 0, .slice none 0 0] 26)).heap.size = w.heap.size + 2 := by simp
    have HS := Lib.hid (split_any 10 T (by omega) _ (HV.out.later hyb))
    obtain ⟨ls, hls⟩ : ∃ l, spl 10 T = l := ⟨_, rfl⟩
    have HLL : Hid (∀ x ∈ ls, x.length ≤ 6000) := Lib.hid (fun x hx => by rw [← hls] at hx; have := spl_le hx; omega)
    have hlsl : ls.length ≤ 6001 := by
      have := spl_len 10 T
      have h2 : T.count 10 ≤ T.length := List.count_le_length
      rw [← hls]; omega
    rw [hls] at HS HRT
    clear hls HRD HC HX HXB hsz
    have HY1 := Lib.hid hy1
    have HY2 := Lib.hid hy2
    have HYB := Lib.hid hyb
    have HYS := Lib.hid hys
    clear hy1 hy2 hyb hys
    go_wp2_with (go_at_call 36; refine HS.out.mono ?_; rintro e w' ⟨rfl, rfl⟩; refine Hid.out ?_)
    refine Lib.hid ?_
    generalize ((w.alloc (.cells #[.slice none 0 0, .slice none 0 0, .slice none 0 0] 26)).alloc (.cells #[.slice none 0 0, .slice none 0 0, .slice none 0 0] 26)) = Y at *
    have hP : (Y.alloc (.cells (ls.map fun x => Value.string (bs x)).toArray 9)).heap[w.heap.size + 1 + 1]? = some (.cells (ls.map fun x => Value.string (bs x)).toArray 9) := by
      have := heap_alloc_new Y (.cells (ls.map fun x => Value.string (bs x)).toArray 9)
      rwa [HYS.out] at this
    have HP := Lib.hid hP
    have HB0 : Hid (Below w.heap.size w (Y.alloc (.cells (ls.map fun x => Value.string (bs x)).toArray 9))) := Lib.hid (nb_alloc HYB.out _)
    have HY1' := Lib.hid (heap_alloc_older (o := .cells (ls.map fun x => Value.string (bs x)).toArray 9) HY1.out)
    have HY2' := Lib.hid (heap_alloc_older (o := .cells (ls.map fun x => Value.string (bs x)).toArray 9) HY2.out)
    generalize (Y.alloc (.cells (ls.map fun x => Value.string (bs x)).toArray 9)) = Z at *
    clear HS HY1 HY2 HYB HYS hP
    go_wp2
    go_loopw [20] (fun i wr => ∃ (k : Nat) (s : Stt) (vg vr vb : Value), k ≤ ls.length ∧ i = .int .i64 k ∧ Hid ((ls.take k).foldl stL (some sttZ) = some s) ∧ Hid (StO wr (w.heap.size + 1) w.heap.size s vg vr vb) ∧ Hid (wr.heap[w.heap.size]? = some (.cells #[.slice none 0 0, .slice none 0 0, .slice none 0 0] 26)) ∧ Hid (wr.heap[w.heap.size + 1 + 1]? = some (.cells (ls.map fun x => Value.string (bs x)).toArray 9)) ∧ Hid (Below w.heap.size w wr) ∧ Hid (s.g.length ≤ k * 6001 ∧ s.r.length ≤ k ∧ s.b.length ≤ k)) (fun i _ => ls.length - (intOf i).toNat)
    case atStart => exact ⟨0, sttZ, _, _, _, by omega, rfl, Lib.hid rfl, Lib.hid ⟨HY2'.out, OwnsF.nil _ _ _ _, OwnsF.nil _ _ _ _, OwnsF.nil _ _ _ _⟩, HY1', HP, HB0, Lib.hid ⟨by simp [sttZ], by simp [sttZ], by simp [sttZ]⟩⟩
    case round =>
      obtain ⟨k, s, vg, vr, vb, hk, rfl, hs, hO, h1, hPc, hB, hz⟩ := hrel
      by_cases hlt : k < ls.length
      · obtain ⟨y, hy⟩ : ∃ y, ls[k]? = some y := ⟨_, List.getElem?_eq_getElem hlt⟩
        have hyl := HLL.out y (List.mem_of_getElem? hy)
        have c0 : wr.cell? ⟨w.heap.size + 1 + 1, k, none⟩ = some (.string (bs y)) := by rw [cell_of_row _ _ _ _ _ _ hPc.out]; simp [hy]
        have hbw : w.heap.size + 1 + 1 < wr.heap.size := (Array.getElem?_eq_some_iff.1 hPc.out).1
        have HA := Lib.hid (readLine_any (w.heap.size + 1) w.heap.size s vg vr vb y wr hO.out (by omega) hyl (by have := hz.out; omega) (by have := hz.out; omega) (by have := hz.out; omega) (HV.out.later hB.out))
        have HY := Lib.hid hy
        clear hy
        obtain ⟨ok, hok⟩ : ∃ o, (rdLine s y).isSome = o := ⟨_, rfl⟩
        have hok2 := hok
        unfold LinePost at HA
        rw [hok] at HA
        have HOK := Lib.hid hok2
        clear hok hok2
        go_wp2_with (go_at_call 69; refine HA.out.mono ?_; rintro e w2 ⟨rfl, hkp, hst⟩; refine Hid.out ?_)
        refine Lib.hid ?_
        have HP2 := Lib.hid ((hkp.block _ (Array.getElem?_eq_some_iff.1 hPc.out).1 (hO.out.far hPc.out (.inl rfl) (by omega))).trans hPc.out)
        have HZ2 := Lib.hid ((hkp.block _ (Array.getElem?_eq_some_iff.1 h1.out).1 (hO.out.far h1.out (.inr rfl) (by omega))).trans h1.out)
        have HB2 := Lib.hid (hB.out.trans (hkp.below hB.out.size (hO.out.fb (by omega))))
        have HST := Lib.hid hst
        clear hkp hst c0
        cases ok
        · have HE : Hid (rdT t = none) := Lib.hid (by
            rw [HRT.out]
            refine foldl_bad (k := k + 1) ?_
            rw [foldl_at HY.out hs.out]
            have := HOK.out
            cases hq : rdLine s y with
            | none => rfl
            | some _ => rw [hq] at this; cases this)
          have k0 : w2.cell? ⟨w.heap.size, 0, none⟩ = some (.slice none 0 0) := by rw [cell_of_row _ _ _ _ _ _ HZ2.out]; rfl
          have k1 : w2.cell? ⟨w.heap.size, 1, none⟩ = some (.slice none 0 0) := by rw [cell_of_row _ _ _ _ _ _ HZ2.out]; rfl
          have k2 : w2.cell? ⟨w.heap.size, 2, none⟩ = some (.slice none 0 0) := by rw [cell_of_row _ _ _ _ _ _ HZ2.out]; rfl
          have fz : ∀ j, w2.frozen? ⟨w.heap.size, j, none⟩ = false := fun j => frozen_of_row _ _ _ _ _ HZ2.out
          have hbl : w.heap.size < w2.heap.size := (Array.getElem?_eq_some_iff.1 HZ2.out).1
          go_wp2
          refine bodyPost_ret (v := .tuple #[.agg #[.slice none 0 0, .slice none 0 0, .slice none 0 0], .bool false]) (by simp [results, Tryz.results33, go_sem, k0, k1, k2]) rfl (ReadPost.no HE.out ?_)
          iterate 3 (refine nb_setW ?_ _ _ _ (Nat.le_refl _))
          exact HB2.out
        · obtain ⟨s', hs'⟩ : ∃ s', rdLine s y = some s' := Option.isSome_iff_exists.1 HOK.out
          obtain ⟨vg', vr', vb', hO'⟩ := HST.out s' hs'
          have HO' := Lib.hid hO'
          have HS' := Lib.hid hs'
          clear hO' hs'
          go_wp2
          go_roundw
          case rel =>
            refine ⟨k + 1, s', vg', vr', vb', by omega, by go_num, Lib.hid ((foldl_at HY.out hs.out).trans HS'.out), HO', HZ2, HP2, HB2, Lib.hid ?_⟩
            obtain ⟨z1, z2, z3⟩ := hz.out
            obtain ⟨y1, y2, y3⟩ := rdLine_len HS'.out hyl
            refine ⟨?_, ?_, ?_⟩ <;> omega
          case measure => simp [intOf]; omega
      · obtain rfl : k = ls.length := by omega
        have HE : Hid (rdT t = some s) := Lib.hid (by rw [HRT.out, ← hs.out, List.take_of_length_le (Nat.le_refl _)])
        have HEND := Lib.hid (hO.out.out h1.out (Nat.le_refl _))
        obtain ⟨ga, gc, hge, -⟩ := hO.out.g.reads
        obtain ⟨ra, rc, hre, -⟩ := hO.out.r.reads
        obtain ⟨ba, bc, hbe, -⟩ := hO.out.b.reads
        have hp := hO.out.at_
        generalize s.g.length = gl at *
        generalize s.r.length = rl at *
        generalize s.b.length = bl at *
        subst hge hre hbe
        have c0 : wr.cell? ⟨w.heap.size + 1, 0, none⟩ = some (.slice ga gl gc) := by rw [cell_of_row _ _ _ _ _ _ hp]; rfl
        have c1 : wr.cell? ⟨w.heap.size + 1, 1, none⟩ = some (.slice ra rl rc) := by rw [cell_of_row _ _ _ _ _ _ hp]; rfl
        have c2 : wr.cell? ⟨w.heap.size + 1, 2, none⟩ = some (.slice ba bl bc) := by rw [cell_of_row _ _ _ _ _ _ hp]; rfl
        have k0 : wr.cell? ⟨w.heap.size, 0, none⟩ = some (.slice none 0 0) := by rw [cell_of_row _ _ _ _ _ _ h1.out]; rfl
        have k1 : wr.cell? ⟨w.heap.size, 1, none⟩ = some (.slice none 0 0) := by rw [cell_of_row _ _ _ _ _ _ h1.out]; rfl
        have k2 : wr.cell? ⟨w.heap.size, 2, none⟩ = some (.slice none 0 0) := by rw [cell_of_row _ _ _ _ _ _ h1.out]; rfl
        have fz : ∀ j, wr.frozen? ⟨w.heap.size, j, none⟩ = false := fun j => frozen_of_row _ _ _ _ _ h1.out
        have hbl : w.heap.size + 1 < wr.heap.size := (Array.getElem?_eq_some_iff.1 hp).1
        clear hp
        go_wp2
        refine bodyPost_ret (v := .tuple #[.agg #[.slice ga gl gc, .slice ra rl rc, .slice ba bl bc], .bool true]) (by simp [results, Tryz.results33, go_sem, k0, k1, k2]) rfl ⟨_, _, _, by rw [HE.out]; rfl, by rw [HE.out]; exact HEND.out.1, hB.out.trans (HEND.out.2)⟩

def ParsePost (w : World) (t : List UInt8) (e : Ending) (w' : World) : Prop :=
  ∃ vg vr vb, e = .returned (.tuple #[.agg #[vg, vr, vb], .int .i64 (paE t)]) ∧ SttIs w' w.heap.size vg vr vb (paS t) ∧ Below w.heap.size w w'
theorem ParsePost.no {w w' : World} {t : List UInt8} {z : Int} (h : paE t = z) (hz : z ≠ 0) (hb : Below w.heap.size w w') : ParsePost w t (.returned (.tuple #[.agg #[.slice none 0 0, .slice none 0 0, .slice none 0 0], .int .i64 z])) w' :=
  ⟨_, _, _, by rw [h], by rw [paS, if_neg (by rw [h]; exact hz)]; exact SttIs.zero _ _, hb⟩
theorem SttIs.put {wr : World} {b B : Nat} {s : Stt} {vg vr vb x y z : Value} (h : SttIs wr B vg vr vb s) (hb : wr.heap[b]? = some (.cells #[x, y, z] 26)) (hB : B ≤ b) :
    SttIs (((wr.setCell ⟨b, 0, none⟩ vg).setCell ⟨b, 1, none⟩ vr).setCell ⟨b, 2, none⟩ vb) B vg vr vb s ∧ Below B wr (((wr.setCell ⟨b, 0, none⟩ vg).setCell ⟨b, 1, none⟩ vr).setCell ⟨b, 2, none⟩ vb) := by
  have hk : Kept (fun k => k = b) wr (((wr.setCell ⟨b, 0, none⟩ vg).setCell ⟨b, 1, none⟩ vr).setCell ⟨b, 2, none⟩ vb) :=
    ((Kept.setCell (F := fun k => k = b) wr (p := ⟨b, 0, none⟩) rfl _).trans (Kept.setCell (F := fun k => k = b) _ (p := ⟨b, 1, none⟩) rfl _) (fun i e => .inl e)).trans (Kept.setCell (F := fun k => k = b) _ (p := ⟨b, 2, none⟩) rfl _) (fun i e => .inl e)
  refine ⟨⟨h.g.kept hk (fun k e e2 => own_ne_at h.g.owns hb (by decide) (e2 ▸ e)), h.r.kept hk (fun k e e2 => own_ne_at h.r.owns hb (by decide) (e2 ▸ e)), h.b.kept hk (fun k e e2 => own_ne_at h.b.owns hb (by decide) (e2 ▸ e))⟩, hk.below ?_ (fun k e => by omega)⟩
  have := (Array.getElem?_eq_some_iff.1 hb).1
  omega
theorem zeroed {w : World} {b : Nat} {z : Value} {T : TypeId} (h : w.heap[b]? = some (.cells #[z, z, z] T)) : (((w.setCell ⟨b, 0, none⟩ z).setCell ⟨b, 1, none⟩ z).setCell ⟨b, 2, none⟩ z).heap[b]? = some (.cells #[z, z, z] T) := heap_setCell_same _ _ 2 _ _ _ (heap_setCell_same _ _ 1 _ _ _ (heap_setCell_same _ _ 0 _ _ _ h))
set_option maxHeartbeats 4000000 in
theorem parse_any (t : List UInt8) (w : World) (hl : t.length ≤ 9223372036854775807) (hv : VarsIs w) :
    Calls Tryz.prog 10 #[.string (bs t)] w (ParsePost w t) := by
  have hX : Below w.heap.size w (w.alloc (.cells #[.slice none 0 0, .slice none 0 0, .slice none 0 0] 26)) := nb_alloc (Below.refl _ _) _
  have hxb : (w.alloc (.cells #[.slice none 0 0, .slice none 0 0, .slice none 0 0] 26)).heap[w.heap.size]? = some (.cells #[.slice none 0 0, .slice none 0 0, .slice none 0 0] 26) := heap_alloc_new _ _
  have HX := Lib.hid hX
  have HXB := Lib.hid hxb
  have HV := Lib.hid hv
  clear hX hxb hv
  have hsz : (bs t).size = t.length := bs_size t
  have HSZ := Lib.hid hsz
  go_enter Tryz.func10, Tryz.ntmps10
  by_cases h6 : 6000 < t.length
  · have HE : Hid (paE t = 2) := Lib.hid (by rw [paE, if_pos h6])
    clear hsz
    go_wp2
    refine bodyPost_ret (v := .tuple #[.agg #[.slice none 0 0, .slice none 0 0, .slice none 0 0], .int .i64 2]) (by simp [results, Tryz.results10, go_sem]) rfl (ParsePost.no HE.out (by decide) ?_)
    exact HX.out
  · have HR := Lib.hid (read_any t (w.alloc (.cells #[.slice none 0 0, .slice none 0 0, .slice none 0 0] 26)) (by omega) (HV.out.later HX.out))
    have HPE : Hid (paE t = match rdT t with | none => 9 | some s => if prE s.g s.r s.b = 0 ∧ textT s.g s.r s.b = t then 0 else 9) := Lib.hid (by rw [paE, if_neg h6]; cases rdT t <;> rfl)
    obtain ⟨o, ho⟩ : ∃ o, rdT t = o := ⟨_, rfl⟩
    have HPS : Hid (paS t = if paE t = 0 then o.getD sttZ else sttZ) := Lib.hid (by rw [paS, ho])
    rw [ho] at HR HPE
    clear ho hsz
    unfold ReadPost at HR
    go_wp2_with (go_at_call 33; refine HR.out.mono ?_; rintro e W1 ⟨vg, vr, vb, rfl, hst, hb1⟩; refine Hid.out ?_)
    refine Lib.hid ?_
    have hq := (hb1.block _ (Array.getElem?_eq_some_iff.1 HXB.out).1).trans HXB.out
    have HB1 := Lib.hid (nb_trans HX.out hb1)
    have HQ := Lib.hid hq
    have hst' : SttIs W1 w.heap.size vg vr vb (o.getD sttZ) := hst.weaken (by simp)
    obtain ⟨ga, gc, hge, -⟩ := hst.g.reads
    obtain ⟨ra, rc, hre, -⟩ := hst.r.reads
    obtain ⟨ba, bc, hbe, -⟩ := hst.b.reads
    generalize (o.getD sttZ).g.length = gl at *
    generalize (o.getD sttZ).r.length = rl at *
    generalize (o.getD sttZ).b.length = bl at *
    subst hge hre hbe
    have HST := Lib.hid hst'
    have hbl : w.heap.size < W1.heap.size := (Array.getElem?_eq_some_iff.1 hq).1
    clear hq hst hst' hb1 HR
    cases o with
    | none =>
      have HE : Hid (paE t = 9) := HPE
      clear HPE HPS
      simp only [Option.isSome_none]
      have k0 : W1.cell? ⟨w.heap.size, 0, none⟩ = some (.slice none 0 0) := by rw [cell_of_row _ _ _ _ _ _ HQ.out]; rfl
      have k1 : W1.cell? ⟨w.heap.size, 1, none⟩ = some (.slice none 0 0) := by rw [cell_of_row _ _ _ _ _ _ HQ.out]; rfl
      have k2 : W1.cell? ⟨w.heap.size, 2, none⟩ = some (.slice none 0 0) := by rw [cell_of_row _ _ _ _ _ _ HQ.out]; rfl
      have fz : ∀ j, W1.frozen? ⟨w.heap.size, j, none⟩ = false := fun j => frozen_of_row _ _ _ _ _ HQ.out
      have hf := heap_alloc_older (o := .cells #[.slice ga gl gc, .slice ra rl rc, .slice ba bl bc] 26) (zeroed HQ.out)
      have HBF := Lib.hid (nb_alloc (nb_setW (nb_setW (nb_setW HB1.out w.heap.size 0 (.slice none 0 0) (Nat.le_refl _)) w.heap.size 1 (.slice none 0 0) (Nat.le_refl _)) w.heap.size 2 (.slice none 0 0) (Nat.le_refl _)) (.cells #[.slice ga gl gc, .slice ra rl rc, .slice ba bl bc] 26))
      have HF := Lib.hid hf
      clear hf
      go_wp2
      generalize ((((W1.setCell _ _).setCell _ _).setCell _ _).alloc _) = WF at *
      have f0 : WF.cell? ⟨w.heap.size, 0, none⟩ = some (.slice none 0 0) := by rw [cell_of_row _ _ _ _ _ _ HF.out]; rfl
      have f1 : WF.cell? ⟨w.heap.size, 1, none⟩ = some (.slice none 0 0) := by rw [cell_of_row _ _ _ _ _ _ HF.out]; rfl
      have f2 : WF.cell? ⟨w.heap.size, 2, none⟩ = some (.slice none 0 0) := by rw [cell_of_row _ _ _ _ _ _ HF.out]; rfl
      refine bodyPost_ret (v := .tuple #[.agg #[.slice none 0 0, .slice none 0 0, .slice none 0 0], .int .i64 9]) (by simp [results, Tryz.results10, go_sem, f0, f1, f2]) rfl (ParsePost.no HE.out (by decide) HBF.out)
    | some s =>
      simp only [Option.isSome_some]
      have hA : (W1.alloc (.cells #[.slice ga gl gc, .slice ra rl rc, .slice ba bl bc] 26)).heap[W1.heap.size]? = some (.cells #[.slice ga gl gc, .slice ra rl rc, .slice ba bl bc] 26) := heap_alloc_new _ _
      have hB2 : Below W1.heap.size W1 (W1.alloc (.cells #[.slice ga gl gc, .slice ra rl rc, .slice ba bl bc] 26)) := nb_alloc (Below.refl _ _) _
      have hst2 : SttIs (W1.alloc (.cells #[.slice ga gl gc, .slice ra rl rc, .slice ba bl bc] 26)) w.heap.size (.slice ga gl gc) (.slice ra rl rc) (.slice ba bl bc) s := HST.out.later hB2
      have HPR := Lib.hid (print_any _ _ _ s.g s.r s.b _ (Ints.ofReads hst2.g.reads) hst2.r.reads hst2.b.reads (HV.out.later (nb_trans HB1.out hB2)))
      have HB2 := Lib.hid (nb_trans HB1.out hB2)
      have HST2 := Lib.hid hst2
      have HQ2 := Lib.hid (heap_alloc_older (o := .cells #[.slice ga gl gc, .slice ra rl rc, .slice ba bl bc] 26) HQ.out)
      have HA := Lib.hid hA
      have hpl : W1.heap.size < (W1.alloc (.cells #[.slice ga gl gc, .slice ra rl rc, .slice ba bl bc] 26)).heap.size := (Array.getElem?_eq_some_iff.1 hA).1
      have HPL := Lib.hid hpl
      clear hA hB2 hst2 HB1 HQ HST hpl
      go_wp2_with (go_at_call 8; refine HPR.out.mono ?_; rintro e W3 ⟨rfl, hb3⟩; refine Hid.out ?_)
      refine Lib.hid ?_
      generalize (W1.alloc (.cells #[.slice ga gl gc, .slice ra rl rc, .slice ba bl bc] 26)) = W2 at *
      generalize W1.heap.size = p at *
      have hq3 := (hb3.block _ (Array.getElem?_eq_some_iff.1 HQ2.out).1).trans HQ2.out
      have ha3 := (hb3.block _ (Array.getElem?_eq_some_iff.1 HA.out).1).trans HA.out
      have hst3 := HST2.out.later hb3
      have HPUT := Lib.hid (hst3.put hq3 (Nat.le_refl _))
      have HB3 := Lib.hid (nb_trans HB2.out hb3)
      have hpl3 : p < W3.heap.size := (Array.getElem?_eq_some_iff.1 ha3).1
      have hwl3 : w.heap.size < W3.heap.size := (Array.getElem?_eq_some_iff.1 hq3).1
      have c0 : W3.cell? ⟨p, 0, none⟩ = some (.slice ga gl gc) := by rw [cell_of_row _ _ _ _ _ _ ha3]; rfl
      have c1 : W3.cell? ⟨p, 1, none⟩ = some (.slice ra rl rc) := by rw [cell_of_row _ _ _ _ _ _ ha3]; rfl
      have c2 : W3.cell? ⟨p, 2, none⟩ = some (.slice ba bl bc) := by rw [cell_of_row _ _ _ _ _ _ ha3]; rfl
      have k0 : W3.cell? ⟨w.heap.size, 0, none⟩ = some (.slice none 0 0) := by rw [cell_of_row _ _ _ _ _ _ hq3]; rfl
      have k1 : W3.cell? ⟨w.heap.size, 1, none⟩ = some (.slice none 0 0) := by rw [cell_of_row _ _ _ _ _ _ hq3]; rfl
      have k2 : W3.cell? ⟨w.heap.size, 2, none⟩ = some (.slice none 0 0) := by rw [cell_of_row _ _ _ _ _ _ hq3]; rfl
      have fz : ∀ j, W3.frozen? ⟨w.heap.size, j, none⟩ = false := fun j => frozen_of_row _ _ _ _ _ hq3
      clear hb3 hq3 ha3 hst3 HPR HSZ
      obtain ⟨z, hz⟩ : ∃ z, prE s.g s.r s.b = z := ⟨_, rfl⟩
      by_cases hz0 : z = 0
      · subst hz0
        have HT : Hid (prT s.g s.r s.b = textT s.g s.r s.b) := Lib.hid (by rw [prT, if_pos hz])
        rw [HT.out, hz]
        by_cases ht : textT s.g s.r s.b = t
        · have HE : Hid (paE t = 0) := Lib.hid (by rw [HPE.out]; exact if_pos ⟨hz, ht⟩)
          have HS : Hid (paS t = s) := Lib.hid (by rw [HPS.out, if_pos HE.out]; rfl)
          rw [ht]
          clear hz ht HPE HPS HT
          go_wp2
          refine bodyPost_ret (v := .tuple #[.agg #[.slice ga gl gc, .slice ra rl rc, .slice ba bl bc], .int .i64 0]) (by simp [results, Tryz.results10, go_sem, k0, k1, k2]) rfl ⟨_, _, _, by rw [HE.out], by rw [HS.out]; exact HPUT.out.1, HB3.out.trans HPUT.out.2⟩
        · have HE : Hid (paE t = 9) := Lib.hid (by rw [HPE.out]; exact if_neg (fun h => ht h.2))
          have hne : (textT s.g s.r s.b == t) = false := by simp only [beq_eq_false_iff_ne]; exact ht
          clear hz ht HPE HPS HT
          generalize textT s.g s.r s.b = tt at *
          go_wp2
          refine bodyPost_ret (v := .tuple #[.agg #[.slice none 0 0, .slice none 0 0, .slice none 0 0], .int .i64 9]) (by simp [results, Tryz.results10, go_sem, k0, k1, k2]) rfl (ParsePost.no HE.out (by decide) ?_)
          iterate 3 (refine nb_setW ?_ _ _ _ (Nat.le_refl _))
          exact HB3.out
      · have HE : Hid (paE t = 9) := Lib.hid (by rw [HPE.out]; exact if_neg (fun h => hz0 (hz.symm.trans h.1)))
        rw [hz]
        generalize prT s.g s.r s.b = tt at *
        clear hz HPE HPS
        go_wp2
        refine bodyPost_ret (v := .tuple #[.agg #[.slice none 0 0, .slice none 0 0, .slice none 0 0], .int .i64 9]) (by simp [results, Tryz.results10, go_sem, k0, k1, k2]) rfl (ParsePost.no HE.out (by decide) ?_)
        iterate 3 (refine nb_setW ?_ _ _ _ (Nat.le_refl _))
        exact HB3.out
end Go.Proofs.YtndhomjfjhohoaaGreatDoor

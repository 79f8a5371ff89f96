
/- Print's errors and Parse's over plain lists; what may be written is fine; a text that was written is parsed, what is parsed is written so. No Go in sight. -/
import Derived.Test.YtndhomjfjhohoaaGreatDoorTextM
import Derived.Test.YtndhomjfjhohoaaGreatDoorGroundA
namespace Go.Proofs.YtndhomjfjhohoaaGreatDoor
open Go Go.RowKit

def upS (rs : List Rw) : Bool := decide ((rs.map fun r => r.s).Pairwise (· ≤ ·))
def upC (bs : List Bd) : Bool := decide ((bs.map fun b => b.1.1).Pairwise (· ≤ ·))
noncomputable def prE (g : List Int) (rs : List Rw) (bs : List Bd) : Int := if zldE g rs bs = 0 then (if upS rs && upC bs then 0 else 4) else zldE g rs bs
noncomputable def prT (g : List Int) (rs : List Rw) (bs : List Bd) : List UInt8 := if prE g rs bs = 0 then textT g rs bs else []
theorem prE_load {g : List Int} {rs : List Rw} {bs : List Bd} (h : prE g rs bs = 0) : zldE g rs bs = 0 ∧ upS rs = true ∧ upC bs = true := by
  unfold prE at h
  split at h
  · rename_i hz
    cases h1 : upS rs <;> cases h2 : upC bs <;> simp [h1, h2] at h
    exact ⟨hz, rfl, rfl⟩
  · rename_i hz; exact absurd h hz

theorem bErr_each {m : Int} {vs : List Int} (h : bErr m vs = 0) : (0 ≤ m ∧ m ≤ 255) ∧ ∀ k, k < 8 → bStep m k (vs.getD k 0) = 0 := by
  unfold bErr at h
  split at h
  · rename_i hm
    refine ⟨inB_t hm, fun k hk => ?_⟩
    have h1 : bTo m vs (k + 1) = 0 := Decidable.byContradiction fun hc => by rw [bTo_stop hc 8 (by omega)] at h; exact hc h
    have h0 : bTo m vs k = 0 := Decidable.byContradiction fun hc => by rw [bTo_stop hc 8 (by omega)] at h; exact hc h
    rw [bTo_next h0] at h1; exact h1
  · cases h
theorem bStep_zero {m : Int} {k : Nat} {n : Int} (h : bStep m k n = 0) : J9 n ∧ (tb m k = false → n = 0) := by
  unfold bStep at h
  split at h
  · cases h
  · rename_i hc
    split at h
    · rename_i hi
      refine ⟨inB_t hi, fun hf => ?_⟩
      rw [hf] at hc; simpa using hc
    · cases h
theorem list8_at (f : Nat → Int) {k : Nat} (hk : k < 8) : ([f 0, f 1, f 2, f 3, f 4, f 5, f 6, f 7]).getD k 0 = f k := by
  match k, hk with
  | 0, _ => rfl
  | 1, _ => rfl
  | 2, _ => rfl
  | 3, _ => rfl
  | 4, _ => rfl
  | 5, _ => rfl
  | 6, _ => rfl
  | 7, _ => rfl
theorem live_J9 {l : List (Int × Bool)} (ok : SlotOk l) {a b : Int} (h : liveB l a b = true) : J9 a ∧ J9 b := by
  obtain ⟨h0, h1, h2⟩ := liveB_iff.1 h
  have hl := ok.len
  have hg := ok.gen a.toNat (by omega)
  rw [h2] at hg
  simp only at hg
  exact ⟨⟨by omega, by omega⟩, ⟨by omega, by omega⟩⟩
theorem Fine.of {g : List Int} {rs : List Rw} {bs : List Bd} (h : zldE g rs bs = 0) : Fine g rs bs ∧ g.length ≤ 60 ∧ rs.length ≤ 60 ∧ bs.length ≤ 60 := by
  have hz := ZOk.load h
  unfold zldE at h
  split at h
  · rename_i hw
    obtain ⟨hok, hm⟩ := WOk.load hw
    have hf := fits_of_zero h (pre := []) rfl
    have hfit : fitsTo (mkL g (sNums rs)) bs bs.length := fun j hj => by simpa using hf j hj
    obtain ⟨-, -, i3⟩ := accB_ok hok.slots (Nat.le_refl _) hfit
    rw [List.take_length] at i3
    have hl := hz.len
    rw [show (zldZ g rs bs).bs = accB bs from rfl, i3] at hl
    unfold wldE at hw
    split at hw
    · rename_i hr
      split at hw
      · rename_i hl0
        unfold ldE at hl0
        split at hl0
        · rename_i hs
          unfold lstE at hs
          split at hs
          · rename_i hg
            split at hs
            · rename_i ha
              refine ⟨⟨fun n hn => ?_, fun r hr => ?_, fun b hb => ?_⟩, hg, hr, hl⟩
              · have := List.all_eq_true.1 ha n hn
                have := inB_t this
                exact ⟨by omega, by omega⟩
              · have hx := (hm r).2 hr
                obtain ⟨j1, j2⟩ := live_J9 hok.slots (hok.live r hx)
                obtain ⟨b1, b2⟩ := bErr_each (hok.ok r hx)
                refine ⟨j1, j2, b1, fun k hk => ?_⟩
                have := b2 k hk
                rw [list8_at _ hk] at this
                exact bStep_zero this
              · obtain ⟨j, hj, rfl⟩ := List.getElem_of_mem hb
                obtain ⟨⟨l1, l2⟩, -, -⟩ := hf j hj
                rw [List.getD_eq_getElem?_getD, List.getElem?_eq_getElem hj] at l1 l2
                obtain ⟨a1, a2⟩ := live_J9 hok.slots l1
                obtain ⟨a3, a4⟩ := live_J9 hok.slots l2
                exact ⟨a1, a2, a3, a4⟩
            · cases hs
          · cases hs
        · rename_i hs; exact absurd hl0 hs
      · rename_i hs; exact absurd hw hs
    · cases hw
  · rename_i hw; exact absurd h hw
theorem bErr_nR {r : Rw} (h : FineR r) : bErr (nR r).m [(nR r).f 0, (nR r).f 1, (nR r).f 2, (nR r).f 3, (nR r).f 4, (nR r).f 5, (nR r).f 6, (nR r).f 7] = bErr r.m [r.f 0, r.f 1, r.f 2, r.f 3, r.f 4, r.f 5, r.f 6, r.f 7] := by
  rw [nR_at h (by omega), nR_at h (by omega), nR_at h (by omega), nR_at h (by omega), nR_at h (by omega), nR_at h (by omega), nR_at h (by omega), nR_at h (by omega)]; rfl
theorem rowsE_nR {l : List (Int × Bool)} : ∀ {rs : List Rw}, (∀ r ∈ rs, FineR r) → rowsE l (rs.map nR) = rowsE l rs
  | [], _ => rfl
  | r :: rs, h => by
    rw [List.map_cons, rowsE, rowsE, bErr_nR (h r (by simp)), rowsE_nR (fun x hx => h x (by simp [hx]))]; rfl
theorem sNums_nR (rs : List Rw) : sNums (rs.map nR) = sNums rs := by simp [sNums, nR, Function.comp_def]
theorem zldE_nR {g : List Int} {rs : List Rw} {bs : List Bd} (h : ∀ r ∈ rs, FineR r) : zldE g (rs.map nR) bs = zldE g rs bs := by
  rw [zldE, zldE, wldE, wldE, sNums_nR, rowsE_nR h, List.length_map]
theorem prE_nR {g : List Int} {rs : List Rw} {bs : List Bd} (h : ∀ r ∈ rs, FineR r) : prE g (rs.map nR) bs = prE g rs bs := by
  rw [prE, prE, zldE_nR h, show upS (rs.map nR) = upS rs by simp [upS, nR, Function.comp_def]]

noncomputable def paE (t : List UInt8) : Int := if 6000 < t.length then 2 else match rdT t with | none => 9 | some s => if prE s.g s.r s.b = 0 ∧ textT s.g s.r s.b = t then 0 else 9
noncomputable def paS (t : List UInt8) : Stt := if paE t = 0 then (rdT t).getD sttZ else sttZ
theorem paE_zero {t : List UInt8} (h : paE t = 0) : t.length ≤ 6000 ∧ prE (paS t).g (paS t).r (paS t).b = 0 ∧ textT (paS t).g (paS t).r (paS t).b = t := by
  have hs : paS t = (rdT t).getD sttZ := by rw [paS, if_pos h]
  rw [hs]
  unfold paE at h
  split at h
  · cases h
  · rename_i hl
    cases hr : rdT t with
    | none => rw [hr] at h; cases h
    | some s =>
      rw [hr] at h
      simp only at h
      split at h
      · rename_i hp; exact ⟨by omega, hp.1, hp.2⟩
      · cases h
theorem paE_text {g : List Int} {rs : List Rw} {bs : List Bd} (h : prE g rs bs = 0) (hl : (textT g rs bs).length ≤ 6000) : paE (textT g rs bs) = 0 ∧ paS (textT g rs bs) = ⟨g, rs.map nR, bs⟩ := by
  obtain ⟨hf, -⟩ := Fine.of (prE_load h).1
  have hr := rdT_text hf
  have he : paE (textT g rs bs) = 0 := by
    rw [paE, if_neg (by omega), hr]
    simp only
    rw [if_pos ⟨by rw [prE_nR hf.ri]; exact h, text_nR g rs bs⟩]
  exact ⟨he, by rw [paS, if_pos he, hr]; rfl⟩
end Go.Proofs.YtndhomjfjhohoaaGreatDoor

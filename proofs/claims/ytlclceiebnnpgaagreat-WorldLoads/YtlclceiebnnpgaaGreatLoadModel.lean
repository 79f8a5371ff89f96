/- What Load of slots does, over plain lists: its errors and its result. -/
import Derived.Test.YtlclceiebnnpgaaGreatGroundB
import Derived.Test.YtlclceiebnnpgaaGreatGroundA
namespace Go.Proofs.YtlclceiebnnpgaaGreat
open Go.RowKit

def okG (g : Int) : Bool := inB g 0 1000000
def mkL (gens live : List Int) : List (Int × Bool) := gens.zipIdx.map fun x => (x.1, decide ((x.2 : Int) ∈ live))
def zeroL (gens : List Int) : List (Int × Bool) := gens.map fun g => (g, false)
def lstE (gens : List Int) : Int := if gens.length ≤ 60 then if gens.all okG then 0 else 1 else 2
def enlE (gens live : List Int) : Int := if live.all (fun i => inB i 0 (gens.length - 1)) then if live.Nodup then if ((1000000 : Int), true) ∈ mkL gens live then 1 else 0 else 6 else 5
def ldE (gens live : List Int) : Int := if lstE gens = 0 then enlE gens live else lstE gens

theorem gensL_lenK (l : List (Int × Bool)) : (gensL l).length = l.length := by simp [gensL]
theorem mkL_len (gens live : List Int) : (mkL gens live).length = gens.length := by simp [mkL]
theorem mkL_at {gens live : List Int} {k : Nat} (h : k < gens.length) : (mkL gens live).getD k slotZ = (gens.getD k 0, decide ((k : Int) ∈ live)) := by
  simp [mkL, List.getD_eq_getElem?_getD, List.getElem?_eq_getElem h]
theorem mkL_nil (gens : List Int) : mkL gens [] = zeroL gens := by
  refine eqD (d := slotZ) (by simp [mkL_len, zeroL]) fun j hj => ?_
  rw [mkL_len] at hj
  rw [mkL_at hj]
  simp [zeroL, List.getD_eq_getElem?_getD, List.getElem?_eq_getElem hj]
theorem mkL_set {gens live : List Int} {i : Nat} (_ : i < gens.length) : (mkL gens live).set i (((mkL gens live).getD i slotZ).1, true) = mkL gens (live ++ [(i : Int)]) := by
  refine eqD (d := slotZ) (by simp [mkL_len]) fun j hj => ?_
  rw [List.length_set, mkL_len] at hj
  rw [mkL_at hj]
  by_cases e : i = j
  · subst e
    rw [getD_set_eq _ _ _ _ (by rw [mkL_len]; exact hj), mkL_at hj]
    simp
  · rw [getD_set_ne _ _ _ e, mkL_at hj]
    have : ¬ (j : Int) = (i : Int) := by omega
    simp [this]
theorem gensL_mkL (gens live : List Int) : gensL (mkL gens live) = gens := by
  refine eqD (d := 0) (by rw [gensL_lenK, mkL_len]) fun j hj => ?_
  rw [gensL_lenK, mkL_len] at hj
  have : (gensL (mkL gens live)).getD j 0 = ((mkL gens live).getD j slotZ).1 := by
    simp only [gensL, List.getD_eq_getElem?_getD, List.getElem?_map]
    cases (mkL gens live)[j]? <;> rfl
  rw [this, mkL_at hj]
theorem gensL_zeroL (gens : List Int) : gensL (zeroL gens) = gens := by simp [gensL, zeroL, Function.comp_def]
theorem zeroL_len (gens : List Int) : (zeroL gens).length = gens.length := by simp [zeroL]
theorem zeroL_at (gens : List Int) (k : Nat) : ((zeroL gens).getD k slotZ).1 = gens.getD k 0 := by
  simp only [zeroL, List.getD_eq_getElem?_getD, List.getElem?_map]
  cases gens[k]? <;> rfl

theorem lstE_large {g : List Int} (h : ¬ g.length ≤ 60) : lstE g = 2 := by rw [lstE, if_neg h]
theorem lstE_arg {g : List Int} (h : g.length ≤ 60) {k : Nat} (hk : k < g.length) (hb : okG (g.getD k 0) = false) : lstE g = 1 := by
  rw [lstE, if_pos h, if_neg]
  intro ha
  have := List.all_eq_true.1 ha _ (memD (d := 0) hk)
  rw [hb] at this; cases this
theorem all_getD {α : Type} {p : α → Bool} {l : List α} {d : α} (h : ∀ j, j < l.length → p (l.getD j d) = true) : l.all p = true := by
  rw [List.all_eq_true]; intro x hx
  obtain ⟨j, hj, rfl⟩ := List.getElem_of_mem hx
  have := h j hj
  rwa [List.getD_eq_getElem?_getD, List.getElem?_eq_getElem hj] at this
theorem lstE_ok {g : List Int} (h : g.length ≤ 60) (ha : ∀ j, j < g.length → okG (g.getD j 0) = true) : lstE g = 0 := by rw [lstE, if_pos h, if_pos (all_getD ha)]
theorem enlE_none {g l : List Int} {k : Nat} (hk : k < l.length) (hb : inB (l.getD k 0) 0 (g.length - 1) = false) : enlE g l = 5 := by
  rw [enlE, if_neg]
  intro ha
  have := List.all_eq_true.1 ha _ (memD (d := 0) hk)
  rw [hb] at this; cases this
theorem not_nodup_of {l : List Int} {k : Nat} (hk : k < l.length) (h : l.getD k 0 ∈ l.take k) : ¬ l.Nodup := fun hn => by
  obtain ⟨j, hj, e⟩ := List.getElem_of_mem h
  simp only [List.length_take] at hj
  rw [List.getElem_take, List.getD_eq_getElem?_getD, List.getElem?_eq_getElem hk] at e
  have := (List.getElem_inj (h₀ := by omega) (h₁ := hk) hn).1 e
  omega
theorem enlE_twice {g l : List Int} {k : Nat} (ha : ∀ j, j < l.length → inB (l.getD j 0) 0 (g.length - 1) = true) (hk : k < l.length) (h : l.getD k 0 ∈ l.take k) : enlE g l = 6 := by
  rw [enlE, if_pos (all_getD (p := fun i => inB i 0 (g.length - 1)) ha), if_neg (not_nodup_of hk h)]
theorem enlE_end {g l : List Int} (ha : ∀ j, j < l.length → inB (l.getD j 0) 0 (g.length - 1) = true) (hn : l.Nodup) {b : Bool} (h : decide (((1000000 : Int), true) ∈ mkL g l) = b) : enlE g l = if b then 1 else 0 := by
  subst h
  rw [enlE, if_pos (all_getD (p := fun i => inB i 0 (g.length - 1)) ha), if_pos hn]
  simp
theorem ldE_bad {g l : List Int} (h : lstE g ≠ 0) : ldE g l = lstE g := by rw [ldE, if_neg h]
theorem ldE_ok {g l : List Int} (h : lstE g = 0) : ldE g l = enlE g l := by rw [ldE, if_pos h]
/-- what is loaded is what slots are always like -/
theorem mkL_ok {g l : List Int} (h : ldE g l = 0) : SlotOk (mkL g l) := by
  have h1 : lstE g = 0 := Classical.byContradiction fun hn => by rw [ldE_bad hn] at h; exact hn h
  rw [ldE_ok h1] at h
  unfold lstE at h1
  split at h1
  · rename_i hl
    split at h1
    · rename_i ha
      unfold enlE at h
      split at h
      · split at h
        · split at h
          · cases h
          · rename_i hm
            have hg : ∀ k, k < g.length → 0 ≤ g.getD k 0 ∧ g.getD k 0 ≤ 1000000 := fun k hk => inB_t (List.all_eq_true.1 ha _ (memD hk))
            refine ⟨by rw [mkL_len]; exact hl, fun k hk => ?_, fun k hk hv => ?_⟩
            · rw [mkL_len] at hk; rw [mkL_at hk]; exact hg k hk
            · have hm2 : (mkL g l).getD k slotZ ∈ mkL g l := memD hk
              rw [mkL_len] at hk
              rw [mkL_at hk] at hv hm2 ⊢
              have := hg k hk
              simp only at hv ⊢
              rcases (show g.getD k 0 < 1000000 ∨ 1000000 ≤ g.getD k 0 by omega) with hlt | hge
              · exact hlt
              · have e : g.getD k 0 = 1000000 := by omega
                rw [hv, e] at hm2
                exact absurd hm2 hm
        · cases h
      · cases h
    · cases h1
  · cases h1
end Go.Proofs.YtlclceiebnnpgaaGreat

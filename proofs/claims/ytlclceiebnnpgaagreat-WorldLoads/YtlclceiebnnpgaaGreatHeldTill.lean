/- A region that draws its order and whose last operation writes a cell that others of it read: these reads may be taken first all the same, for the last operation waits for them. -/
import Derived.Deep.RegionHeld3
import Derived.Test.YtlclceiebnnpgaaGreatGroundA
namespace Go.Proofs.YtlclceiebnnpgaaGreat
open Go.RowKit

section
variable {P : Program} {ops : Array Oper} {Q : Exit → Act → World → Prop} {md : Region.Mode} {S : World → Prop} {last : Nat}

/-- Whatever order is picked from here on; S holds behind each operation but the last. -/
def Till (P : Program) (md : Region.Mode) (ops : Array Oper) (Q : Exit → Act → World → Prop) (S : World → Prop) (last : Nat) : Nat → Array Bool → Act → World → Prop
  | 0, listed, a, w => Region.ready md ops listed = [] ∧ Q .normal a w
  | fuel + 1, listed, a, w => (Region.ready md ops listed = [] → Q .normal a w) ∧
      ∀ i ∈ Region.ready md ops listed, wpOp P ops Q i (fun a' w' => (i = last ∨ S w') ∧ Till P md ops Q S last fuel (listed.setIfInBounds i true) a' w') a w
theorem Till.any : ∀ (fuel : Nat) (listed : Array Bool) (a : Act) (w : World), Till P md ops Q S last fuel listed a w → wpAny P md ops Q fuel listed a w
  | 0, _, _, _, h => h
  | fuel + 1, _, _, _, h => ⟨h.1, fun i hi => wpOp_mono (fun a' w' h' => Till.any fuel _ a' w' h'.2) (h.2 i hi)⟩

/-- Operation y waits for operation x. -/
def waits (md : Region.Mode) (ops : Array Oper) (x y : Nat) : Bool := match ops[y]? with | some o => o.after.toList.any (fun e => e.on == x && Region.binds md e) | none => true
theorem waits_ready {x y : Nat} {listed : Array Bool} (h : waits md ops x y = true) (hx : listed.getD x false = false) : ¬ y ∈ Region.ready md ops listed := fun hy => by
  obtain ⟨_, o, ho, hall⟩ := mem_ready.1 hy
  unfold waits at h
  rw [ho] at h
  simp only [List.any_eq_true, Bool.and_eq_true, beq_iff_eq] at h
  obtain ⟨e, he, e1, e2⟩ := h
  have := hall e (by simpa using he) e2
  rw [e1, hx] at this
  cases this
/-- Each waits for the one before it. -/
def chain (md : Region.Mode) (ops : Array Oper) : Nat → List Nat → Bool
  | _, [] => true
  | x, y :: ys => waits md ops x y && chain md ops y ys
def unl (listed : Array Bool) (ys : List Nat) : Prop := ∀ y ∈ ys, listed.getD y false = false
theorem chain_ready : ∀ {x : Nat} {ys : List Nat} {listed : Array Bool}, chain md ops x ys = true → listed.getD x false = false → unl listed ys → ∀ y ∈ ys, ¬ y ∈ Region.ready md ops listed
  | _, [], _, _, _, _ => fun y hy => by cases hy
  | x, y :: ys, listed, h, hx, hu => fun z hz => by
    simp only [chain, Bool.and_eq_true] at h
    rcases List.mem_cons.1 hz with rfl | hz
    · exact waits_ready h.1 hx
    · exact chain_ready h.2 (hu y (by simp)) (fun q hq => hu q (by simp [hq])) z hz
theorem getD_set_off {listed : Array Bool} {j y : Nat} (h : j ≠ y) : (listed.setIfInBounds j true).getD y false = listed.getD y false := by
  simp only [Array.getD_eq_getD_getElem?, Array.getElem?_setIfInBounds_ne h]

/-- A read that the last operation waits for may be taken first. -/
theorem Till.first {i : Nat} {oi : Oper} {v : Value} {ys : List Nat} (hi : ops[i]? = some oi) (hsel : ∀ (j : Nat) (o : Oper) cs b, ops[j]? = some o → o.op ≠ .select cs b)
    (hQ : ∀ c a w, Q (.panic c) (a.put oi.dst v) w → Q (.panic c) a w) (hch : chain md ops i (ys ++ [last]) = true) :
    ∀ (fuel : Nat) (listed : Array Bool) (a : Act) (w : World),
      (∀ j oj, ops[j]? = some oj → j ≠ i → listed.getD j true = false → (∀ e ∈ oj.after, Region.binds md e = true → e.on ≠ i) → oi.apart ops oj = true) →
      i ∈ Region.ready md ops listed → unl listed (ys ++ [last]) → YieldsIf P ops S oi v a → S w →
      Till P md ops Q S last fuel (listed.setIfInBounds i true) (a.put oi.dst v) w → Till P md ops Q S last (fuel + 1) listed a w := by
  intro fuel
  induction fuel with
  | zero =>
    intro listed a w _ hr _ hy hS H
    refine ⟨fun h => (by rw [h] at hr; cases hr), fun j hj => ?_⟩
    by_cases hji : j = i
    · subst hji; exact hy.wpOp hi hS ⟨.inr hS, H⟩
    · have := ready_mono hj hji
      rw [H.1] at this
      cases this
  | succ fuel ih =>
    intro listed a w hfree hr hun hy hS H
    have hil : listed.getD i true = false := (mem_ready.1 hr).1
    have hil' : listed.getD i false = false := by
      simp only [Array.getD_eq_getD_getElem?] at hil ⊢
      cases hq : listed[i]? <;> rw [hq] at hil <;> simp_all
    refine ⟨fun h => (by rw [h] at hr; cases hr), fun j hj => ?_⟩
    by_cases hji : j = i
    · subst hji; exact hy.wpOp hi hS ⟨.inr hS, H⟩
    · have hnot' := chain_ready hch hil' hun
      have hjl : j ≠ last := fun e => hnot' last (by simp) (by rw [← e]; exact hj)
      have hun' : unl (listed.setIfInBounds j true) (ys ++ [last]) := fun y hy' => by
        rw [getD_set_off (fun e => hnot' y hy' (by rw [← e]; exact hj))]; exact hun y hy'
      have h1 := H.2 j (ready_mono hj hji)
      obtain ⟨hjun, oj, hoj, hall⟩ := mem_ready.1 hj
      have hnot : ∀ e ∈ oj.after, Region.binds md e = true → e.on ≠ i := fun e he hb heq => by
        have := hall e he hb
        rw [heq, hil'] at this; cases this
      have h2 := wpOp_putIf hoj (hfree j oj hoj hji hjun hnot) (fun cs b => hsel i oi cs b hi) (fun cs b => hsel j oj cs b hoj) hQ hy h1
      have hfree' : ∀ k ok, ops[k]? = some ok → k ≠ i → (listed.setIfInBounds j true).getD k true = false →
          (∀ e ∈ ok.after, Region.binds md e = true → e.on ≠ i) → oi.apart ops ok = true := fun k ok hk hki hu hno => by
        refine hfree k ok hk hki ?_ hno
        by_cases hjk : j = k
        · subst hjk; exact hjun
        · simp only [Array.getD_eq_getD_getElem?, Array.getElem?_setIfInBounds_ne hjk] at hu ⊢; exact hu
      refine wpOp_mono (fun a' w' h3 => ?_) h2
      have hS' : S w' := h3.2.1.elim (fun e => absurd e hjl) id
      refine ⟨.inr hS', ih (listed.setIfInBounds j true) a' w' hfree' (ready_mono hr (Ne.symm hji)) hun' h3.1 hS' ?_⟩
      rw [Array.setIfInBounds_comm _ _ hji]
      exact h3.2.2
/-- The moves of a walk, their side conditions as closed facts. -/
theorem Till.take {i : Nat} {oi : Oper} {v : Value} (ys : List Nat) {fuel : Nat} {listed : Array Bool} {a : Act} {w : World} (hi : ops[i]? = some oi)
    (hs : Region.noSelect ops = true) (hf : Region.free md ops listed i = true) (hr : (Region.ready md ops listed).contains i = true)
    (hch : (chain md ops i (ys ++ [last]) && (ys ++ [last]).all (fun y => !listed.getD y false)) = true)
    (hQ : ∀ c a w, Q (.panic c) (a.put oi.dst v) w → Q (.panic c) a w) (hy : YieldsIf P ops S oi v a) (hS : S w)
    (h : Till P md ops Q S last fuel (listed.setIfInBounds i true) (a.put oi.dst v) w) : Till P md ops Q S last (fuel + 1) listed a w := by
  rw [Bool.and_eq_true] at hch
  refine Till.first hi (Region.noSelect_spec hs) hQ hch.1 fuel listed a w (Region.free_spec hi hf) (by simpa using hr) (fun y hy' => ?_) hy hS h
  have := List.all_eq_true.1 hch.2 y hy'
  simpa using this
theorem Till.all {rs : List Nat} {fuel : Nat} {listed : Array Bool} {a : Act} {w : World} (hr : Region.ready md ops listed = rs) (hne : rs ≠ [])
    (h : ∀ i ∈ rs, wpOp P ops Q i (fun a' w' => (i = last ∨ S w') ∧ Till P md ops Q S last fuel (listed.setIfInBounds i true) a' w') a w) : Till P md ops Q S last (fuel + 1) listed a w :=
  ⟨fun h0 => absurd (hr ▸ h0) hne, hr ▸ h⟩
theorem Till.done {listed : Array Bool} {a : Act} {w : World} (hr : Region.ready md ops listed = []) (h : Q .normal a w) : ∀ fuel, Till P md ops Q S last fuel listed a w
  | 0 => ⟨hr, h⟩
  | _ + 1 => ⟨fun _ => h, by rw [hr]; simp⟩
def TillAll (P : Program) (md : Region.Mode) (ops : Array Oper) (Q : Exit → Act → World → Prop) (S : World → Prop) (last : Nat) (fuel : Nat) (listed : Array Bool) (a : Act) (w : World) (rs : List Nat) : Prop :=
  ∀ i ∈ rs, wpOp P ops Q i (fun a' w' => (i = last ∨ S w') ∧ Till P md ops Q S last fuel (listed.setIfInBounds i true) a' w') a w
theorem TillAll.nil {fuel : Nat} {listed : Array Bool} {a : Act} {w : World} : TillAll P md ops Q S last fuel listed a w [] := fun _ h => by cases h
theorem TillAll.cons {fuel : Nat} {listed : Array Bool} {a : Act} {w : World} {i : Nat} {o : Oper} {rs : List Nat} (ho : ops[i]? = some o)
    (h : ∀ K' : Act → World → Prop, Shut (∀ a w, (i = last ∨ S w) → Till P md ops Q S last fuel (listed.setIfInBounds i true) a w → K' a w) → if Region.wanted o (yielded ops a.tmps) = true then Oper.wp P o a w K' Q else K' (a.put o.dst undef) w)
    (hs : TillAll P md ops Q S last fuel listed a w rs) : TillAll P md ops Q S last fuel listed a w (i :: rs) := fun j hj => by
  rcases List.mem_cons.1 hj with rfl | hj
  · exact wpOp_step ho (fun K' hK => h K' (fun a w hS hW => hK a w ⟨hS, hW⟩))
  · exact hs j hj
theorem Till.ready {rs : List Nat} {fuel : Nat} {listed : Array Bool} {a : Act} {w : World} (hr : Region.ready md ops listed = rs) (hne : rs ≠ [])
    (h : TillAll P md ops Q S last fuel listed a w rs) : Till P md ops Q S last (fuel + 1) listed a w := Till.all hr hne h
theorem wp_region_till (S : World → Prop) (last : Nat) {id : Nat} {a : Act} {w : World} (hm : P.follows .mixedOrders = true)
    (h : Till P .any ops Q S last ops.size (Array.replicate ops.size false) a w.drew) : (Code.region id ops true).wp P Q a w :=
  wp_region_any hm (Till.any _ _ _ _ h)
end
end Go.Proofs.YtlclceiebnnpgaaGreat

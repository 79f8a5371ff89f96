/- Slots as a plain list of pairs (generation, live): what Take, Free, Live, All and Gens do to it. -/
import Derived.Test.YtakoejopgdaknaaMem
namespace Go.Proofs.Ytakoejopgdaknaa
open Go.RowKit

def freeB (x : Int × Bool) : Bool := !x.2 && decide (x.1 < 1000000)
def firstFree (l : List (Int × Bool)) : Nat := l.findIdx freeB
def slotZ : Int × Bool := (0, false)
/-- slots, handle, error behind Take -/
def takeL (l : List (Int × Bool)) : List (Int × Bool) :=
  if firstFree l < l.length then l.set (firstFree l) ((l.getD (firstFree l) slotZ).1, true) else if l.length < 60 then l ++ [(0, true)] else l
def takeH (l : List (Int × Bool)) : Int × Int :=
  if firstFree l < l.length then ((firstFree l : Int), (l.getD (firstFree l) slotZ).1) else if l.length < 60 then ((l.length : Int), 0) else (0, 0)
def takeE (l : List (Int × Bool)) : Int := if firstFree l < l.length then 0 else if l.length < 60 then 0 else 2
def liveB (l : List (Int × Bool)) (a b : Int) : Bool := inB a 0 (l.length - 1) && ((l.getD a.toNat slotZ).1 == b && (l.getD a.toNat slotZ).2)
def freeL (l : List (Int × Bool)) (a b : Int) : List (Int × Bool) := if liveB l a b then l.set a.toNat (b + 1, false) else l
def freeE (l : List (Int × Bool)) (a b : Int) : Int := if liveB l a b then 0 else 7
/-- handles of the live ones among the first k -/
def allTo (l : List (Int × Bool)) : Nat → List (Int × Int)
  | 0 => []
  | k + 1 => if (l.getD k slotZ).2 then allTo l k ++ [((k : Int), (l.getD k slotZ).1)] else allTo l k
def allL (l : List (Int × Bool)) : List (Int × Int) := allTo l l.length
def gensL (l : List (Int × Bool)) : List Int := l.map (·.1)
/-- what slots are always like -/
structure SlotOk (l : List (Int × Bool)) : Prop where
  len : l.length ≤ 60
  gen : ∀ k, k < l.length → 0 ≤ (l.getD k slotZ).1 ∧ (l.getD k slotZ).1 ≤ 1000000
  live : ∀ k, k < l.length → (l.getD k slotZ).2 = true → (l.getD k slotZ).1 < 1000000

theorem firstFree_le (l : List (Int × Bool)) : firstFree l ≤ l.length := List.findIdx_le_length
theorem firstFree_lt {l : List (Int × Bool)} (h : firstFree l < l.length) : freeB (l.getD (firstFree l) slotZ) = true := by
  have := List.findIdx_getElem (p := freeB) (w := h)
  rw [List.getD_eq_getElem?_getD, List.getElem?_eq_getElem h]; exact this
theorem firstFree_not {l : List (Int × Bool)} {k : Nat} (h : k < firstFree l) : freeB (l.getD k slotZ) = false := by
  have hk := Nat.lt_of_lt_of_le h (firstFree_le l)
  have := List.not_of_lt_findIdx h
  rw [List.getD_eq_getElem?_getD, List.getElem?_eq_getElem hk]; simpa using this
theorem firstFree_eq {l : List (Int × Bool)} {k : Nat} (hk : k < l.length) (h : ∀ j, j < k → freeB (l.getD j slotZ) = false) (hf : freeB (l.getD k slotZ) = true) : firstFree l = k := by
  refine (List.findIdx_eq hk).2 ⟨?_, fun j hj => ?_⟩
  · rw [List.getD_eq_getElem?_getD, List.getElem?_eq_getElem hk] at hf; exact hf
  · have := h j hj
    rwa [List.getD_eq_getElem?_getD, List.getElem?_eq_getElem (by omega)] at this
theorem firstFree_none {l : List (Int × Bool)} (h : ∀ j, j < l.length → freeB (l.getD j slotZ) = false) : firstFree l = l.length := by
  rcases Nat.lt_or_ge (firstFree l) l.length with hl | hl
  · have := firstFree_lt hl; rw [h _ hl] at this; cases this
  · exact Nat.le_antisymm (firstFree_le l) hl
theorem allTo_len (l : List (Int × Bool)) : ∀ k, (allTo l k).length ≤ k
  | 0 => by simp [allTo]
  | k + 1 => by
    rw [allTo]; have := allTo_len l k
    split <;> simp <;> omega
theorem allL_len (l : List (Int × Bool)) : (allL l).length ≤ l.length := allTo_len l _

theorem getD_append_l {α : Type} (l m : List α) (k : Nat) (d : α) (h : k < l.length) : (l ++ m).getD k d = l.getD k d := by
  simp [List.getD_eq_getElem?_getD, List.getElem?_append_left h]
theorem getD_append_last {α : Type} (l : List α) (x d : α) : (l ++ [x]).getD l.length d = x := by simp [List.getD_eq_getElem?_getD]

theorem SlotOk.nil : SlotOk [] := ⟨by simp, by simp, by simp⟩
theorem SlotOk.set {l : List (Int × Bool)} (h : SlotOk l) {i : Nat} {x : Int × Bool} (h0 : 0 ≤ x.1) (h1 : x.1 ≤ 1000000) (h2 : x.2 = true → x.1 < 1000000) : SlotOk (l.set i x) := by
  refine ⟨by simpa using h.len, fun k hk => ?_, fun k hk => ?_⟩
  · by_cases e : i = k
    · subst e; rw [getD_set_eq _ _ _ _ (by simpa using hk)]; exact ⟨h0, h1⟩
    · rw [getD_set_ne _ _ _ e]; exact h.gen k (by simpa using hk)
  · by_cases e : i = k
    · subst e; rw [getD_set_eq _ _ _ _ (by simpa using hk)]; exact h2
    · rw [getD_set_ne _ _ _ e]; exact h.live k (by simpa using hk)
theorem SlotOk.take {l : List (Int × Bool)} (h : SlotOk l) : SlotOk (takeL l) := by
  unfold takeL
  split
  · rename_i hl
    have := firstFree_lt hl
    simp [freeB] at this
    exact h.set (h.gen _ hl).1 (h.gen _ hl).2 (fun _ => this.2)
  · split
    · refine ⟨by simp; omega, fun k hk => ?_, fun k hk => ?_⟩
      · rcases Nat.lt_or_ge k l.length with e | e
        · rw [getD_append_l _ _ _ _ e]; exact h.gen k e
        · obtain rfl : k = l.length := by simp at hk; omega
          rw [getD_append_last]; decide
      · rcases Nat.lt_or_ge k l.length with e | e
        · rw [getD_append_l _ _ _ _ e]; exact h.live k e
        · obtain rfl : k = l.length := by simp at hk; omega
          rw [getD_append_last]; decide
    · exact h
theorem liveB_iff {l : List (Int × Bool)} {a b : Int} : liveB l a b = true ↔ 0 ≤ a ∧ a < l.length ∧ l.getD a.toNat slotZ = (b, true) := by
  simp only [liveB, inB, Bool.and_eq_true, decide_eq_true_eq, beq_iff_eq, Prod.ext_iff]
  constructor
  · rintro ⟨⟨h0, h1⟩, h2⟩; exact ⟨h0, by omega, h2⟩
  · rintro ⟨h0, h1, h2⟩; exact ⟨⟨h0, by omega⟩, h2⟩
theorem SlotOk.free {l : List (Int × Bool)} (h : SlotOk l) (a b : Int) : SlotOk (freeL l a b) := by
  unfold freeL
  split
  · rename_i hl
    obtain ⟨h0, h1, h2⟩ := liveB_iff.1 hl
    have g := h.gen a.toNat (by omega)
    have v := h.live a.toNat (by omega)
    rw [h2] at g v
    simp at g v
    exact h.set (by simp; omega) (by simp; omega) (by simp)
  · exact h
theorem mem_allTo {l : List (Int × Bool)} {h : Int × Int} : ∀ {k : Nat}, k ≤ l.length → (h ∈ allTo l k ↔ 0 ≤ h.1 ∧ h.1 < k ∧ l.getD h.1.toNat slotZ = (h.2, true))
  | 0, _ => by simp [allTo]; omega
  | k + 1, hk => by
    have ih := mem_allTo (l := l) (h := h) (k := k) (by omega)
    have ex : ∀ x : Int × Bool, x = (x.1, x.2) := fun _ => rfl
    rw [allTo]
    by_cases e : h.1 = (k : Int)
    · have ek : h.1.toNat = k := by omega
      have no : ¬ h ∈ allTo l k := by rw [ih]; omega
      split
      · rename_i hl
        rw [List.mem_append, ek]
        simp only [no, false_or, List.mem_singleton, Prod.ext_iff, e, hl]
        constructor
        · intro hh; exact ⟨by omega, by omega, hh.2.symm, trivial⟩
        · intro hh; exact ⟨trivial, hh.2.2.1.symm⟩
      · rename_i hl
        rw [ek]
        simp only [no, false_iff, Prod.ext_iff]
        intro hh; exact hl hh.2.2.2
    · split
      · rw [List.mem_append, ih]
        have : ¬ h ∈ [((k : Int), (l.getD k slotZ).1)] := by
          simp only [List.mem_singleton, Prod.ext_iff]; exact fun hh => e hh.1
        simp only [this, or_false]
        constructor <;> (intro hh; exact ⟨hh.1, by omega, hh.2.2⟩)
      · rw [ih]
        constructor <;> (intro hh; exact ⟨hh.1, by omega, hh.2.2⟩)
theorem mem_allL {l : List (Int × Bool)} {a b : Int} : (a, b) ∈ allL l ↔ liveB l a b = true := by rw [allL, mem_allTo (Nat.le_refl _), liveB_iff]
end Go.Proofs.Ytakoejopgdaknaa

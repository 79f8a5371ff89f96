/- What operations make of a world: plain functions. -/
import Derived.Test.YtlclceiebnnpgaaGreatOpRows
import Derived.Test.YtlclceiebnnpgaaGreatWorldModel
import Derived.Test.YtlclceiebnnpgaaGreatGroundA
namespace Go.Proofs.YtlclceiebnnpgaaGreat
open Go.RowKit

def stepL (l : List (Int × Bool)) (o : Opm) : List (Int × Bool) := if o.d = 1 then spawnL l o.m o.f else if o.d = 2 then freeL l o.a o.b else l
def stepR (l : List (Int × Bool)) (rows : List Rw) (o : Opm) : List Rw := if o.d = 1 then spawnR l rows o.m o.f else if o.d = 2 then killR rows o.a o.b else if o.d = 3 then putWR rows o.a o.b o.k o.n else if o.d = 4 then dropR rows o.a o.b o.k else rows
def stepW (s : List (Int × Bool) × List Rw) (o : Opm) : List (Int × Bool) × List Rw := (stepL s.1 o, stepR s.1 s.2 o)
def madeW (zs : List Opm) : List (Int × Bool) × List Rw := zs.foldl stepW ([], [])
theorem WOk.step {l : List (Int × Bool)} {rows : List Rw} (h : WOk l rows) (o : Opm) : WOk (stepL l o) (stepR l rows o) := by
  unfold stepL stepR
  by_cases h1 : o.d = 1
  · rw [if_pos h1, if_pos h1]; exact h.spawn _ _
  · rw [if_neg h1, if_neg h1]
    by_cases h2 : o.d = 2
    · rw [if_pos h2, if_pos h2]; exact h.kill _ _
    · rw [if_neg h2, if_neg h2]
      by_cases h3 : o.d = 3
      · rw [if_pos h3]; exact h.put _ _ _ _
      · rw [if_neg h3]
        by_cases h4 : o.d = 4
        · rw [if_pos h4]; exact h.drop _ _ _
        · rw [if_neg h4]; exact h
theorem madeW_snoc (zs : List Opm) (o : Opm) : madeW (zs ++ [o]) = stepW (madeW zs) o := by simp [madeW]
theorem WOk.made (zs : List Opm) : WOk (madeW zs).1 (madeW zs).2 := by
  have key : ∀ (zs : List Opm) (s : List (Int × Bool) × List Rw), WOk s.1 s.2 → WOk (zs.foldl stepW s).1 (zs.foldl stepW s).2 := by
    intro zs
    induction zs with
    | nil => intro s h; exact h
    | cons o zs ih => intro s h; exact ih _ (h.step o)
  exact key zs _ WOk.nil
theorem take_snocD {α : Type} (zs : List α) (t : Nat) (d : α) (h : t < zs.length) : zs.take (t + 1) = zs.take t ++ [zs.getD t d] := by
  rw [List.take_add_one, List.getElem?_eq_getElem h, List.getD_eq_getElem?_getD, List.getElem?_eq_getElem h]; rfl
theorem I64r_of {x : Int} (h : I64 x) : I64r x := h
end Go.Proofs.YtlclceiebnnpgaaGreat

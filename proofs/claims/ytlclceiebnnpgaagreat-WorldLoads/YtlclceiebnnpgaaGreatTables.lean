/- Tables behind the keys of a map, each in blocks of its own. -/
import Derived.Test.YtlclceiebnnpgaaGreatGroundC
namespace Go.Proofs.YtlclceiebnnpgaaGreat
open Go.RowKit

theorem TabIs.mono {w : World} {p mb n : Nat} {F G : Nat → Prop} {m : Int} {hs : List (Int × Int)} {xs : Int → List Int} {v : Value} {cb : Int → Nat} {c : Nat → Int} (h : TabIs w p F m hs xs v mb n cb c) (hg : ∀ b, F b → G b) (hl : ∀ b, G b → b < w.heap.size) : TabIs w p G m hs xs v mb n cb c :=
  ⟨h.obj, h.own, h.map, fun k hk => (h.cols k hk).mono (fun b _ hb => ⟨hg b hb.1, hb.2⟩), ⟨hg _ h.fp.1, h.fp.2⟩, ⟨hg _ h.fm.1, h.fm.2⟩, fun b e => ⟨hg _ (h.fv b e).1, (h.fv b e).2⟩, hl⟩
theorem TableAt.mono {w : World} {p : Nat} {F G : Nat → Prop} {m : Int} {rows : List Rw} (h : TableAt w p F m rows) (hg : ∀ b, F b → G b) (hl : ∀ b, G b → b < w.heap.size) : TableAt w p G m rows := by
  obtain ⟨v, mb, n, cb, c, h⟩ := h
  exact ⟨v, mb, n, cb, c, h.mono hg hl⟩
theorem TableAt.at_ {w : World} {p : Nat} {F : Nat → Prop} {m : Int} {rows : List Rw} (h : TableAt w p F m rows) : F p := by
  obtain ⟨v, mb, n, cb, c, h⟩ := h; exact h.fp.1

/-- A table at each key, at block tb k, in the blocks of F of colour k. -/
def Fam (w : World) (ks : List Int) (tb : Int → Nat) (F : Nat → Prop) (c : Nat → Int) (rows : Int → List Rw) : Prop := ∀ k ∈ ks, TableAt w (tb k) (fun b => F b ∧ c b = k) k (rows k)
section
variable {w w' : World} {ks : List Int} {tb : Int → Nat} {F : Nat → Prop} {c : Nat → Int} {rows : Int → List Rw}
theorem Fam.kept {H : Nat → Prop} (h : Fam w ks tb F c rows) (hk : Kept H w w') (hf : ∀ b, F b → ¬ H b) : Fam w' ks tb F c rows := fun k hk' => (h k hk').kept hk (fun b hb => hf b hb.1)
theorem Fam.later (h : Fam w ks tb F c rows) (hb : Below w.heap.size w w') : Fam w' ks tb F c rows := h.kept (H := fun _ => False) (Kept.ofBelow hb) (fun _ _ => id)
theorem Fam.congr {rows' : Int → List Rw} (h : Fam w ks tb F c rows) (e : ∀ k ∈ ks, rows k = rows' k) : Fam w ks tb F c rows' := fun k hk => by rw [← e k hk]; exact h k hk
/-- The table at key k has been turned. -/
theorem Fam.step {k : Int} {F' : Nat → Prop} {rk : List Rw} (h : Fam w ks tb F c rows) (hF : ∀ b, F b → b < w.heap.size) (ht : TableAt w' (tb k) F' k rk) (hk : Kept (fun b => F b ∧ c b = k) w w') (hm : Moves w (fun b => F b ∧ c b = k) F') :
    Fam w' ks tb (growF F w w') (growC c w k) (fun j => if j = k then rk else rows j) ∧ Kept F w w' ∧ ∀ b, growF F w w' b → b < w'.heap.size := by
  have hl : ∀ b, growF F w w' b → b < w'.heap.size := fun b hb => by
    rcases hb with hb | hb
    · exact Nat.lt_of_lt_of_le (hF b hb) hk.size
    · exact hb.2
  refine ⟨fun j hj => ?_, hk.mono (fun b hb => .inl hb.1), hl⟩
  by_cases e : j = k
  · subst e
    simp only [if_pos]
    refine ht.mono (fun b hb => ?_) (fun b hb => hl b hb.1)
    rcases hm b hb with h1 | h1
    · exact ⟨.inl h1.1, by rw [growC_old (hF b h1.1)]; exact h1.2⟩
    · exact ⟨.inr ⟨h1, ht.lt b hb⟩, growC_new h1⟩
  · simp only [if_neg e]
    refine ((h j hj).kept hk (fun b hb hb' => e (hb.2.symm.trans hb'.2))).mono (fun b hb => ⟨.inl hb.1, by rw [growC_old (hF b hb.1)]; exact hb.2⟩) (fun b hb => hl b hb.1)
/-- A table has been made for a new key. -/
theorem Fam.add {k : Int} {p : Nat} {F' : Nat → Prop} {rk : List Rw} (h : Fam w ks tb F c rows) (hF : ∀ b, F b → b < w.heap.size) (hn : ¬ k ∈ ks) (ht : TableAt w' p F' k rk) (hb : Below w.heap.size w w') (hF' : ∀ b, F' b → w.heap.size ≤ b) :
    Fam w' (ks ++ [k]) (fun j => if j = k then p else tb j) (growF F w w') (growC c w k) (fun j => if j = k then rk else rows j) ∧ ∀ b, growF F w w' b → b < w'.heap.size := by
  have hl : ∀ b, growF F w w' b → b < w'.heap.size := fun b hb' => by
    rcases hb' with hb' | hb'
    · exact Nat.lt_of_lt_of_le (hF b hb') hb.size
    · exact hb'.2
  refine ⟨fun j hj => ?_, hl⟩
  by_cases e : j = k
  · subst e
    simp only [if_pos]
    exact ht.mono (fun b hb' => ⟨.inr ⟨hF' b hb', ht.lt b hb'⟩, growC_new (hF' b hb')⟩) (fun b hb' => hl b hb'.1)
  · have hj' : j ∈ ks := by
      rcases List.mem_append.1 hj with h1 | h1
      · exact h1
      · simp at h1; exact absurd h1 e
    simp only [if_neg e]
    exact ((h j hj').later hb).mono (fun b hb' => ⟨.inl hb'.1, by rw [growC_old (hF b hb'.1)]; exact hb'.2⟩) (fun b hb' => hl b hb'.1)
end
end Go.Proofs.YtlclceiebnnpgaaGreat

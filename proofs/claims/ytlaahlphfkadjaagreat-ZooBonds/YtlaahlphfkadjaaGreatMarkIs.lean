
/- Maps of handles to true: which have been marked. -/
import Derived.Test.YtlaahlphfkadjaaGreatGroundH
namespace Go.Proofs.YtlaahlphfkadjaaGreat
open Go.RowKit

/-- At block b lies a map whose marked handles are just those of P, at most n of them. -/
def MarkIs (w : World) (b n : Nat) (P : Hd → Prop) : Prop := ∃ ks f, MapIs kHand w b ks.length ks f ∧ ks.length ≤ n ∧ (∀ x, x ∈ ks ↔ P x) ∧ ∀ x ∈ ks, f x = .bool true
section
variable {w w' : World} {b n : Nat} {P : Hd → Prop}
theorem MarkIs.new (w : World) : MarkIs (w.alloc (.map #[] 0)) w.heap.size 0 (fun _ => False) :=
  ⟨[], fun _ => .bool true, MapIs.new kHand w _, Nat.le_refl _, fun x => by simp, fun x h => by simp at h⟩
theorem MarkIs.lt (h : MarkIs w b n P) : b < w.heap.size := by obtain ⟨ks, f, hm, -⟩ := h; exact hm.lt
theorem MarkIs.kept {F : Nat → Prop} (h : MarkIs w b n P) (hk : Kept F w w') (hf : ¬ F b) : MarkIs w' b n P := by
  obtain ⟨ks, f, hm, r⟩ := h
  exact ⟨ks, f, hm.kept hk hf, r⟩
theorem MarkIs.later (h : MarkIs w b n P) (hb : Below w.heap.size w w') : MarkIs w' b n P := h.kept (F := fun _ => False) (Kept.ofBelow hb) id
theorem MarkIs.congr {Q : Hd → Prop} (h : MarkIs w b n P) (hq : ∀ x, P x ↔ Q x) : MarkIs w b n Q := by
  obtain ⟨ks, f, hm, hl, hp, hf⟩ := h
  exact ⟨ks, f, hm, hl, fun x => (hp x).trans (hq x), hf⟩
theorem MarkIs.mono {m : Nat} (h : MarkIs w b n P) (hm : n ≤ m) : MarkIs w b m P := by
  obtain ⟨ks, f, h1, hl, r⟩ := h
  exact ⟨ks, f, h1, Nat.le_trans hl hm, r⟩
/-- 'm[x]' -/
theorem MarkIs.look (h : MarkIs w b n P) {t e : TypeId} (ht : Tryz.prog.underlying t = some (.map 43 e)) (hz : (zeroValue e).run Tryz.prog w = .ok (.bool false) w) (x1 x2 : Int) (hx : kHand.ok (x1, x2)) {g : Bool} (hg : g = true ↔ P (x1, x2)) :
    (Instr.lookup t (.map (some b)) (.agg #[.int .i64 x1, .int .i64 x2]) false).run Tryz.prog w = .ok (.bool g) w := by
  obtain ⟨ks, f, hm, -, hp, hf⟩ := h
  have := hm.look ht hz (x1, x2) hx
  by_cases hc : (x1, x2) ∈ ks
  · rw [if_pos hc, hf _ hc] at this
    rw [hg.2 ((hp _).1 hc)]
    exact this
  · rw [if_neg hc] at this
    have : g = false := by
      cases g
      · rfl
      · exact absurd ((hp _).2 (hg.1 rfl)) hc
    subst this
    assumption
/-- 'm[x] = true' -/
theorem MarkIs.put (h : MarkIs w b n P) {t e : TypeId} (ht : Tryz.prog.underlying t = some (.map 43 e)) (hn : n < maxLen) (x1 x2 : Int) (hx : kHand.ok (x1, x2)) :
    ∃ w', (Instr.mapUpdate t (.map (some b)) (.agg #[.int .i64 x1, .int .i64 x2]) (.bool true)).run Tryz.prog w = .ok () w' ∧ MarkIs w' b (n + 1) (fun y => P y ∨ y = (x1, x2)) ∧ Kept (fun q => q = b) w w' := by
  obtain ⟨ks, f, hm, hl, hp, hf⟩ := h
  obtain ⟨D, ho, h1, h2, h3, h4, h5⟩ := hm.tight
  obtain ⟨w', hrun, ho', hgr⟩ := ho.update kHand.law ht (by omega) (kHand.key (x1, x2) hx) (val := .bool true) (d := .held (.bool true)) (ps := []) rfl
  have hput := (MapIs.put ho h1 h2 h3 h4 h5 (x1, x2) hx (.bool true) ho').tight
  refine ⟨w', hrun, ⟨_, _, hput, ?_, fun x => ?_, fun x hx => ?_⟩, Kept.grown hgr (fun q e => by cases e; rfl)⟩
  · split
    · omega
    · simp; omega
  · split
    · rename_i hc
      rw [hp]
      exact ⟨.inl, fun e => e.elim id (fun e => e ▸ (hp _).1 hc)⟩
    · simp only [List.mem_append, List.mem_singleton, hp]
  · split at hx
    · split
      · rfl
      · exact hf x hx
    · split
      · rfl
      · rename_i hne
        simp only [List.mem_append, List.mem_singleton] at hx
        exact hf x (hx.resolve_right hne)
end
end Go.Proofs.YtlaahlphfkadjaaGreat

/- The program's zoo in memory: a world and a family in one block; what stays true of it. -/
import Derived.Test.YtcmpaohefihijabGreatDoorGroundE
import Derived.Test.YtcmpaohefihijabGreatDoorGroundH
import Derived.Test.YtcmpaohefihijabGreatDoorGroundD
namespace Go.Proofs.YtcmpaohefihijabGreatDoor
open Go.RowKit

section
variable {ZT ZT' : TypeId} {zr zr' : List Value} {w w' : World} {p q r : Nat} {F : Nat → Prop} {c : Nat → Int} {l : List (Int × Bool)} {tm pm : Value} {ks : List Int} {tb : Int → Nat} {tr : Int → List Rw} {hk : List (Int × Int)} {pl : Int × Int → Int × Nat} {R : Rw → Prop}
/-- What lies behind the world in its block has been turned. -/
theorem WldIs.turn {H : Nat → Prop} (h : WldIs ZT zr w p F c l tm pm ks tb tr hk pl R) (hkp : Kept H w w') (hH : ∀ b, F b → H b → b = p) (hp : ∀ v, w.heap[p]? = some (.cells (v :: tm :: pm :: zr).toArray ZT (0, 0)) → w'.heap[p]? = some (.cells (v :: tm :: pm :: zr').toArray ZT (0, 0))) :
    WldIs ZT zr' w' p F c l tm pm ks tb tr hk pl R := by
  have hc := h.at_.2
  have hne : ∀ b, F b → c b ≠ -1 → ¬ H b := fun b hb hcb hh => hcb (by rw [hH b hb hh]; exact hc)
  have hlt : ∀ b, F b → b < w'.heap.size := fun b hb => Nat.lt_of_lt_of_le (h.lt b hb) hkp.size
  obtain ⟨v, hpv, ho, hF, hv, -⟩ := h.slots
  refine ⟨⟨v, hp v hpv, ho.kept hkp (fun k e hh => (hv k e).2 (hH k (hv k e).1.1 hh)), hF, hv, fun b hb => hlt b hb.1⟩, h.maps.kept hkp (fun b hb e => hne b hb (by omega)) (fun b hb e => hne b hb (by omega)), fun k hk' => ?_, h.laid, hlt⟩
  have := (h.laid.key k hk').1
  exact (h.tabs k hk').kept hkp (fun b hb => hne b hb.1 (by rw [hb.2]; omega))
/-- A world has been moved to another block. -/
theorem WldIs.moved (h : WldIs ZT zr w r F c l tm pm ks tb tr hk pl R) (hq : q < w'.heap.size) (hn : ¬ F q) (hkp : Kept (fun b => b = q) w w') (hb : ∀ v, w.heap[r]? = some (.cells (v :: tm :: pm :: zr).toArray ZT (0, 0)) → w'.heap[q]? = some (.cells (v :: tm :: pm :: zr').toArray ZT' (0, 0))) :
    WldIs ZT' zr' w' q (fun b => b = q ∨ (F b ∧ b ≠ r)) (fun b => if b = q then -1 else c b) l tm pm ks tb tr hk pl R := by
  have hc := h.at_.2
  have hne : ∀ b, F b → b ≠ q := fun b hb e => hn (by rw [← e]; exact hb)
  have hcq : ∀ b, F b → (if b = q then (-1 : Int) else c b) = c b := fun b hb => if_neg (hne b hb)
  have hlt : ∀ b, (b = q ∨ (F b ∧ b ≠ r)) → b < w'.heap.size := fun b hb => hb.elim (fun e => by rw [e]; exact hq) (fun e => Nat.lt_of_lt_of_le (h.lt b e.1) hkp.size)
  have hin : ∀ b, F b → c b ≠ -1 → (b = q ∨ (F b ∧ b ≠ r)) ∧ (if b = q then (-1 : Int) else c b) = c b := fun b hb hcb => ⟨.inr ⟨hb, fun e => hcb (by rw [e]; exact hc)⟩, hcq b hb⟩
  obtain ⟨v, hpv, ho, hF, hv, -⟩ := h.slots
  refine ⟨⟨v, hb v hpv, ho.kept hkp (fun k e => hne k (hv k e).1.1), ⟨.inl rfl, if_pos rfl⟩, fun k e => ⟨⟨.inr ⟨(hv k e).1.1, (hv k e).2⟩, (hcq k (hv k e).1.1).trans (hv k e).1.2⟩, hne k (hv k e).1.1⟩, fun b hb => hlt b hb.1⟩, ?_, fun k hk' => ?_, h.laid, hlt⟩
  · rcases h.maps with h1 | ⟨mt, mp, rfl, rfl, m1, m2, e1, e2⟩
    · exact .inl h1
    · have i1 := hin mt e1.1 (by rw [e1.2]; decide)
      have i2 := hin mp e2.1 (by rw [e2.2]; decide)
      exact .inr ⟨mt, mp, rfl, rfl, m1.kept hkp (hne mt e1.1), m2.kept hkp (hne mp e2.1), ⟨i1.1, i1.2.trans e1.2⟩, ⟨i2.1, i2.2.trans e2.2⟩⟩
  · have h0 := (h.laid.key k hk').1
    exact ((h.tabs k hk').kept hkp (fun b hb => hne b hb.1)).mono (fun b hb => by have := hin b hb.1 (by rw [hb.2]; omega); exact ⟨this.1, this.2.trans hb.2⟩) (fun b hb => hlt b hb.1)
end

/-- At block p lies the zoo s: its world in the blocks F0, its family in the blocks F1; both hold p. -/
structure PzIs (w : World) (p : Nat) (F0 F1 : Nat → Prop) (u : Value × Value × Value) (vm : Value) (s : Zs) : Prop where
  wld : WldIn 76 [vm] w p F0 s.l (· ∈ s.rows)
  fam : FamIs u w p F1 vm s.bs
  ap : ∀ b, F0 b → F1 b → b = p
def PzAt (w : World) (p : Nat) (F : Nat → Prop) (s : Zs) : Prop := ∃ F0 F1 u vm, PzIs w p F0 F1 u vm s ∧ ∀ b, F b ↔ F0 b ∨ F1 b
section
variable {w w' : World} {p q r : Nat} {F F0 F1 : Nat → Prop} {u : Value × Value × Value} {vm : Value} {s : Zs}
theorem PzAt.open (h : PzAt w p F s) : ∃ F0 F1 u vm, PzIs w p F0 F1 u vm s ∧ F = fun b => F0 b ∨ F1 b := by
  obtain ⟨F0, F1, u, vm, h, hF⟩ := h
  exact ⟨F0, F1, u, vm, h, funext fun b => propext (hF b)⟩
theorem PzIs.kept {H : Nat → Prop} (h : PzIs w p F0 F1 u vm s) (hk : Kept H w w') (h0 : ∀ b, F0 b → ¬ H b) (h1 : ∀ b, F1 b → ¬ H b) : PzIs w' p F0 F1 u vm s := ⟨h.wld.kept hk h0, h.fam.kept hk h1, h.ap⟩
theorem PzIs.later (h : PzIs w p F0 F1 u vm s) (hb : Below w.heap.size w w') : PzIs w' p F0 F1 u vm s := h.kept (H := fun _ => False) (Kept.ofBelow hb) (fun _ _ => id) (fun _ _ => id)
theorem PzAt.kept {H : Nat → Prop} (h : PzAt w p F s) (hk : Kept H w w') (hf : ∀ b, F b → ¬ H b) : PzAt w' p F s := by
  obtain ⟨F0, F1, u, vm, h, hF⟩ := h
  exact ⟨F0, F1, u, vm, h.kept hk (fun b hb => hf b ((hF b).2 (.inl hb))) (fun b hb => hf b ((hF b).2 (.inr hb))), hF⟩
theorem PzAt.later (h : PzAt w p F s) (hb : Below w.heap.size w w') : PzAt w' p F s := h.kept (H := fun _ => False) (Kept.ofBelow hb) (fun _ _ => id)
theorem PzAt.lt (h : PzAt w p F s) : ∀ b, F b → b < w.heap.size := by
  obtain ⟨F0, F1, u, vm, h, hF⟩ := h
  exact fun b hb => ((hF b).1 hb).elim (h.wld.lt b) (h.fam.lt b)
theorem PzAt.at_ (h : PzAt w p F s) : F p := by
  obtain ⟨F0, F1, u, vm, h, hF⟩ := h
  exact (hF p).2 (.inr h.fam.at_)
theorem PzAt.new (w : World) : PzAt (w.alloc (.cells #[.slice none 0 0, .map none, .map none, .map none] 76)) w.heap.size (fun b => b = w.heap.size) zNil :=
  ⟨fun b => b = w.heap.size, fun b => b = w.heap.size, (.slice none 0 0, .map none, .map none), .map none, ⟨(WldIn.new (zr := [.map none]) w).congr (fun r => by simp [zNil]), ⟨heap_alloc_new w _, .inl ⟨rfl, rfl⟩, rfl, fun b e => by simp [e]⟩, fun _ h _ => h⟩, fun b => by simp⟩
/-- The world has been turned. -/
theorem PzIs.worldAt {F0' : Nat → Prop} {l' : List (Int × Bool)} {rows' : List Rw} (h : PzIs w p F0 F1 u vm s) (hw : WldIn 76 [vm] w' p F0' l' (· ∈ rows')) (hk : Kept F0 w w') (hm : Moves w F0 F0') :
    ∃ u', PzIs w' p F0' F1 u' vm ⟨l', rows', s.bs⟩ := by
  obtain ⟨v, tm, pm, hb⟩ : ∃ v tm pm, w'.heap[p]? = some (.cells #[v, tm, pm, vm] 76 (0, 0)) := by
    obtain ⟨c, tm, pm, ks, tb, tr, hk, pl, h2⟩ := hw
    obtain ⟨v, hp, -⟩ := h2.slots
    exact ⟨v, tm, pm, hp⟩
  refine ⟨(v, tm, pm), ⟨hw, ⟨hb, ?_, h.fam.at_, fun b hb => Nat.lt_of_lt_of_le (h.fam.lt b hb) hk.size⟩, fun b h0 h1 => ?_⟩⟩
  · rcases h.fam.map with h1 | ⟨b, ks, f, e, hmp, hb, hF, hne⟩
    · exact .inl h1
    · exact .inr ⟨b, ks, f, e, hmp.kept hk (fun h0 => hne (h.ap b h0 hF)), hb, hF, hne⟩
  · rcases hm b h0 with e | e
    · exact h.ap b e h1
    · have := h.fam.lt b h1; omega
theorem PzIs.worldStep {F0' : Nat → Prop} {l' : List (Int × Bool)} {rows' : List Rw} (h : PzIs w p F0 F1 u vm s) (hw : WldIn 76 [vm] w' p F0' l' (· ∈ rows')) (hk : Kept F0 w w') (hm : Moves w F0 F0') :
    ∃ F', PzAt w' p F' ⟨l', rows', s.bs⟩ ∧ Kept (fun b => F0 b ∨ F1 b) w w' ∧ Moves w (fun b => F0 b ∨ F1 b) F' := by
  obtain ⟨u', h2⟩ := h.worldAt hw hk hm
  exact ⟨_, ⟨_, _, _, _, h2, fun _ => Iff.rfl⟩, hk.mono (fun b hb => .inl (.inl hb)), fun b hb => hb.elim (fun e => (hm b e).imp .inl id) (fun e => .inl (.inr e))⟩
/-- The family has been turned. -/
theorem PzIs.famAt {F1' : Nat → Prop} {bs' : List Bd} (h : PzIs w p F0 F1 u vm s) (hf : FamIn u w' p F1' bs') (hk : Kept F1 w w') (hm : Moves w F1 F1') :
    ∃ vm', PzIs w' p F0 F1' u vm' ⟨s.l, s.rows, bs'⟩ := by
  obtain ⟨vm', hf⟩ := hf
  refine ⟨vm', ⟨?_, hf, fun b h0 h1 => ?_⟩⟩
  · obtain ⟨c, tm, pm, ks, tb, tr, hk', pl, h2⟩ := h.wld
    refine ⟨c, tm, pm, ks, tb, tr, hk', pl, h2.turn hk (fun b h0 h1 => h.ap b h0 h1) (fun v hv => ?_)⟩
    have he := h.fam.block.symm.trans hv
    simp only [Option.some.injEq, Obj.cells.injEq, Array.mk.injEq, List.cons.injEq, and_true] at he
    obtain ⟨e1, e2, e3⟩ := he
    rw [hf.block, e1, e2, e3]
  · rcases hm b h1 with e | e
    · exact h.ap b h0 e
    · have := h.wld.lt b h0; omega
theorem PzIs.famStep {F1' : Nat → Prop} {bs' : List Bd} (h : PzIs w p F0 F1 u vm s) (hf : FamIn u w' p F1' bs') (hk : Kept F1 w w') (hm : Moves w F1 F1') :
    ∃ F', PzAt w' p F' ⟨s.l, s.rows, bs'⟩ ∧ Kept (fun b => F0 b ∨ F1 b) w w' ∧ Moves w (fun b => F0 b ∨ F1 b) F' := by
  obtain ⟨vm', h2⟩ := h.famAt hf hk hm
  exact ⟨_, ⟨_, _, _, _, h2, fun _ => Iff.rfl⟩, hk.mono (fun b hb => .inl (.inr hb)), fun b hb => hb.elim (fun e => .inl (.inl e)) (fun e => (hm b e).imp .inr id)⟩
/-- A block of cells, of the world, stays so when the family is turned. -/
theorem PzIs.newC {bs' : List Bd} {n0 : Nat} (h : PzIs w p F0 F1 u vm s) (hf : FamIn u w' p F1 bs') (hk : Kept F1 w w') (hn : NewC n0 w F0) : NewC n0 w' F0 := fun b hb => by
  by_cases e : b = p
  · obtain ⟨vm', hf⟩ := hf
    rw [e]; exact .inr ⟨_, _, _, hf.block⟩
  · exact (hn b hb).imp id (fun hc => hc.kept hk (fun e2 => e (h.ap b hb e2)))
/-- A zoo has been moved over another one: block q holds now what block r holds. -/
theorem PzIs.moved (h : PzIs w r F0 F1 u vm s) (hq : q < w'.heap.size) (hn0 : ¬ F0 q) (hn1 : ¬ F1 q) (hk : Kept (fun b => b = q) w w') (hb : ∀ c, w.heap[r]? = some (.cells c 76 (0, 0)) → w'.heap[q]? = some (.cells c 76 (0, 0))) :
    PzAt w' q (fun b => b = q ∨ ((F0 b ∨ F1 b) ∧ b ≠ r)) s := by
  have hne1 : ∀ b, F1 b → b ≠ q := fun b hb e => hn1 (by rw [← e]; exact hb)
  refine ⟨fun b => b = q ∨ (F0 b ∧ b ≠ r), fun b => b = q ∨ (F1 b ∧ b ≠ r), u, vm, ⟨?_, ⟨hb _ h.fam.block, ?_, .inl rfl, fun b hb => hb.elim (fun e => by rw [e]; exact hq) (fun e => Nat.lt_of_lt_of_le (h.fam.lt b e.1) hk.size)⟩, fun b h0 h1 => ?_⟩, fun b => ?_⟩
  · obtain ⟨c, tm, pm, ks, tb, tr, hk', pl, h2⟩ := h.wld
    exact ⟨_, tm, pm, ks, tb, tr, hk', pl, h2.moved hq hn0 hk (fun v hv => hb _ hv)⟩
  · rcases h.fam.map with h1 | ⟨b, ks, f, e, hmp, hB, hF, hne⟩
    · exact .inl h1
    · exact .inr ⟨b, ks, f, e, hmp.kept hk (hne1 b hF), hB, .inr ⟨hF, hne⟩, hne1 b hF⟩
  · rcases h0 with e | e0
    · exact e
    · rcases h1 with e | e1
      · exact e
      · exact absurd (h.ap b e0.1 e1.1) e0.2
  · constructor
    · rintro (e | ⟨e | e, e2⟩)
      · exact .inl (.inl e)
      · exact .inl (.inr ⟨e, e2⟩)
      · exact .inr (.inr ⟨e, e2⟩)
    · rintro ((e | e) | (e | e))
      · exact .inl e
      · exact .inr ⟨.inl e.1, e.2⟩
      · exact .inl e
      · exact .inr ⟨.inr e.1, e.2⟩
/-- A zoo in a new block, of a world that has been loaded. -/
theorem PzAt.ofWorld {l : List (Int × Bool)} {rows : List Rw} (h : WldAt w r F l (· ∈ rows)) (hk : Below w.heap.size w w') (hq : w'.heap.size = w.heap.size + 1) (hb : ∀ v tm pm, w.heap[r]? = some (.cells #[v, tm, pm] 71 (0, 0)) → w'.heap[w.heap.size]? = some (.cells #[v, tm, pm, .map none] 76 (0, 0))) :
    PzAt w' w.heap.size (fun b => b = w.heap.size ∨ (F b ∧ b ≠ r)) ⟨l, rows, []⟩ := by
  obtain ⟨c, tm, pm, ks, tb, tr, hk', pl, h2⟩ := h
  have hn : ¬ F w.heap.size := fun hf => by have := h2.lt _ hf; omega
  have hkk : Kept (fun b => b = w.heap.size) w w' := Kept.ofBelow hk
  have h3 := h2.moved (zr' := [.map none]) (by omega) hn hkk (fun v hv => hb v tm pm hv)
  obtain ⟨v, hpv, -⟩ := h3.slots
  refine ⟨fun b => b = w.heap.size ∨ (F b ∧ b ≠ r), fun b => b = w.heap.size, (v, tm, pm), .map none, ⟨⟨_, tm, pm, ks, tb, tr, hk', pl, h3⟩, ⟨hpv, .inl ⟨rfl, rfl⟩, rfl, fun b e => by omega⟩, fun _ _ h => h⟩, fun b => ?_⟩
  exact ⟨.inl, fun h => h.elim id .inl⟩
end
end Go.Proofs.YtcmpaohefihijabGreatDoor

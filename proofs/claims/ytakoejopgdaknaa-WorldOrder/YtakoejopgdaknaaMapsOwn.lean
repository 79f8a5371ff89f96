/- Maps of the call's own: which keys they have, and what lies at each. -/
import Derived.Test.YtakoejopgdaknaaMem
import Derived.Maps.Range
import Derived.Maps.RangeWalk
import Derived.DeepKeys4
namespace Go.Proofs.Ytakoejopgdaknaa
open Go.RowKit Go.Maps

/-- an element as it lies, whatever it is -/
def heldR (v : Value) : Option (DataW Value × List MemPlace) := some (.held v, [])

/-- How a key lies. -/
structure KeyEnc (α : Type) (k : TypeId) where
  val : α → Value
  ok : α → Prop
  lit : α → Lit
  law : Keyed Try.prog k
  key : ∀ a, ok a → keyOf Try.prog k (val a) = some (lit a)
  inj : ∀ a b, val a = val b → a = b
theorem KeyEnc.lit_inj {α : Type} {k : TypeId} (K : KeyEnc α k) {a b : α} (ha : K.ok a) (hb : K.ok b) (h : K.lit a = K.lit b) : a = b :=
  K.inj a b (K.law.inj (K.key a ha) (by rw [h]; exact K.key b hb))

/-- Block b is a map that has just the keys ks, and f a at the key a. -/
def MapIs {α : Type} {k : TypeId} (K : KeyEnc α k) (w : World) (b n : Nat) (ks : List α) (f : α → Value) : Prop :=
  ∃ D : DataW Value, w.ownsMap Try.prog k heldR b n D ∧ ks.Nodup ∧ (∀ a ∈ ks, K.ok a) ∧ (∀ kl, has D kl = true → ∃ a ∈ ks, kl = K.lit a) ∧ (∀ a ∈ ks, ∀ z, D.atKey (K.lit a) z = .held (f a)) ∧ size D = ks.length

theorem MapIs.new {α : Type} {k : TypeId} (K : KeyEnc α k) (w : World) (f : α → Value) : MapIs K (w.alloc (.map #[] 0)) w.heap.size 0 [] f :=
  ⟨.map [], World.ownsMap_made _ _ _ _, by simp, by simp, fun kl h => by simp [has] at h, by simp, rfl⟩
theorem MapIs.lt {α : Type} {k : TypeId} {K : KeyEnc α k} {w : World} {b n : Nat} {ks : List α} {f : α → Value} (h : MapIs K w b n ks f) : b < w.heap.size := by
  obtain ⟨D, ho, _⟩ := h; exact ho.lt
theorem MapIs.kept {α : Type} {k : TypeId} {K : KeyEnc α k} {w w' : World} {b n : Nat} {ks : List α} {f : α → Value} {F : Nat → Prop} (h : MapIs K w b n ks f) (hk : Kept F w w') (hf : ¬ F b) : MapIs K w' b n ks f := by
  obtain ⟨D, ho, r⟩ := h
  refine ⟨D, ?_, r⟩
  have hlt := ho.lt
  obtain ⟨es, clock, hb, rest⟩ := ho
  exact ⟨es, clock, by rw [hk.block b hlt hf]; exact hb, rest⟩
theorem MapIs.later {α : Type} {k : TypeId} {K : KeyEnc α k} {w w' : World} {b n : Nat} {ks : List α} {f : α → Value} (h : MapIs K w b n ks f) (hb : Below w.heap.size w w') : MapIs K w' b n ks f :=
  h.kept (F := fun _ => False) (Kept.ofBelow hb) id
/-- 'm[a]' -/
theorem MapIs.look {α : Type} [DecidableEq α] {k t e : TypeId} {K : KeyEnc α k} {w : World} {b n : Nat} {ks : List α} {f : α → Value} (h : MapIs K w b n ks f) (ht : Try.prog.underlying t = some (.map k e)) {z : Value} (hz : (zeroValue e).run Try.prog w = .ok z w) (a : α) (ha : K.ok a) :
    (Instr.lookup t (.map (some b)) (K.val a) false).run Try.prog w = .ok (if a ∈ ks then f a else z) w := by
  obtain ⟨D, ho, _, hok, hk, hat, _⟩ := h
  obtain ⟨v, ps, hrun, hv⟩ := ho.lookup (R := heldR) K.law ht hz (zd := .held z) (zp := []) rfl (K.key a ha)
  rw [hrun]
  have hv' : v = if a ∈ ks then f a else z := by
    simp only [heldR, Option.some.injEq, Prod.mk.injEq] at hv
    by_cases hm : a ∈ ks
    · rw [if_pos hm]
      have := hv.1
      rw [hat a hm] at this
      simpa using this
    · rw [if_neg hm]
      have hn : has D (K.lit a) = false := by
        cases hh : has D (K.lit a)
        · rfl
        · obtain ⟨a', ha', e⟩ := hk _ hh
          exact absurd (K.lit_inj ha (hok a' ha') e ▸ ha') hm
      have := hv.1
      rw [atKey_of_not_has hn] at this
      simpa using this
  rw [hv']
/-- 'v, ok := m[a]' -/
theorem MapIs.look2 {α : Type} [DecidableEq α] {k t e : TypeId} {K : KeyEnc α k} {w : World} {b n : Nat} {ks : List α} {f : α → Value} (h : MapIs K w b n ks f) (ht : Try.prog.underlying t = some (.map k e)) {z : Value} (hz : (zeroValue e).run Try.prog w = .ok z w) (a : α) (ha : K.ok a) :
    (Instr.lookup t (.map (some b)) (K.val a) true).run Try.prog w = .ok (.tuple #[if a ∈ ks then f a else z, .bool (decide (a ∈ ks))]) w := by
  obtain ⟨D, ho, _, hok, hk, hat, _⟩ := h
  obtain ⟨v, ps, hrun, hv⟩ := ho.look_ok (R := heldR) K.law ht hz (zd := .held z) (zp := []) rfl (K.key a ha)
  rw [hrun]
  simp only [heldR, Option.some.injEq, Prod.mk.injEq] at hv
  by_cases hm : a ∈ ks
  · rw [if_pos hm, decide_eq_true hm, has_true_of_atKey (hat a hm)]
    have := hv.1
    rw [hat a hm] at this
    rw [show v = f a by simpa using this]
  · rw [if_neg hm, decide_eq_false hm]
    have hn : has D (K.lit a) = false := by
      cases hh : has D (K.lit a)
      · rfl
      · obtain ⟨a', ha', e⟩ := hk _ hh
        exact absurd (K.lit_inj ha (hok a' ha') e ▸ ha') hm
    have := hv.1
    rw [atKey_of_not_has hn] at this
    rw [hn, show v = z by simpa using this]
/-- 'm[a] = v' -/
theorem MapIs.put {α : Type} [DecidableEq α] {k : TypeId} {K : KeyEnc α k} {w w' : World} {b n m : Nat} {ks : List α} {f : α → Value} {D : DataW Value} (ho : w.ownsMap Try.prog k heldR b n D) (hnd : ks.Nodup) (hok : ∀ a ∈ ks, K.ok a) (hk : ∀ kl, has D kl = true → ∃ a ∈ ks, kl = K.lit a)
    (hat : ∀ a ∈ ks, ∀ z, D.atKey (K.lit a) z = .held (f a)) (hs : size D = ks.length) (a : α) (ha : K.ok a) (v : Value) (ho' : w'.ownsMap Try.prog k heldR b m (D.put (K.lit a) (.held v))) :
    MapIs K w' b m (if a ∈ ks then ks else ks ++ [a]) (fun x => if x = a then v else f x) := by
  have hkl := K.law.key (K.key a ha)
  refine ⟨_, ho', ?_, ?_, ?_, ?_, ?_⟩
  · split
    · exact hnd
    · rename_i hm
      rw [List.nodup_append]
      refine ⟨hnd, by simp, fun x hx y hy e => ?_⟩
      simp at hy; subst hy; subst e; exact hm hx
  · intro x hx
    split at hx
    · exact hok x hx
    · rw [List.mem_append] at hx
      rcases hx with hx | hx
      · exact hok x hx
      · simp at hx; subst hx; exact ha
  · intro kl hh
    by_cases e : kl = K.lit a
    · refine ⟨a, ?_, e⟩
      split
      · assumption
      · simp
    · rw [has_put_other e] at hh
      obtain ⟨x, hx, e'⟩ := hk kl hh
      refine ⟨x, ?_, e'⟩
      split
      · exact hx
      · simp [hx]
  · intro x hx z
    by_cases e : x = a
    · subst e
      rw [atKey_put_same ho.isMap hkl]
      simp
    · have hx' : x ∈ ks := by
        split at hx
        · exact hx
        · rw [List.mem_append] at hx
          rcases hx with hx | hx
          · exact hx
          · simp at hx; exact absurd hx e
      rw [atKey_put_other (fun e2 => e (K.lit_inj (hok x hx') ha e2)), hat x hx' z]
      simp [e]
  · rw [size_put (ho.tidy K.law)]
    by_cases hm : a ∈ ks
    · rw [if_pos (has_true_of_atKey (hat a hm)), if_pos hm, hs]
    · have hn : has D (K.lit a) = false := by
        cases hh : has D (K.lit a)
        · rfl
        · obtain ⟨a', ha', e⟩ := hk _ hh
          exact absurd (K.lit_inj ha (hok a' ha') e ▸ ha') hm
      rw [hn, if_neg hm, hs]
      simp

def I64r (x : Int) : Prop := -9223372036854775808 ≤ x ∧ x ≤ 9223372036854775807
theorem wf_of {x : Int} (h : I64r x) : (Lit.int .i64 x).wf = true := by
  obtain ⟨h1, h2⟩ := h
  have e1 : IntKind.i64.min = -9223372036854775808 := by decide
  have e2 : IntKind.i64.max = 9223372036854775807 := by decide
  simp [Lit.wf, e1, e2]
  omega
def kInt : KeyEnc Int 3 := { val := fun x => .int .i64 x, ok := I64r, lit := fun x => .int .i64 x, law := int_keyed Try.underlying3, key := fun a ha => keyOf_int_mk Try.underlying3 (wf_of ha), inj := fun a b h => by cases h; rfl }

def litHand (h : Int × Int) : Lit := .string (keyBytes [.int .i64 h.1, .int .i64 h.2])
theorem types_pos : ∃ m, Try.prog.types.size = m + 1 := ⟨Try.prog.types.size - 1, by have : (0 : Nat) < Try.prog.types.size := of_decide_eq_true (by kernel_rfl); omega⟩
theorem hand_key (h : Int × Int) (h1 : I64r h.1) (h2 : I64r h.2) : keyOf Try.prog 38 (.agg #[.int .i64 h.1, .int .i64 h.2]) = some (litHand h) := by
  obtain ⟨m, hm⟩ := types_pos
  have hk : Try.prog.keyType 38 = true := by kernel_rfl
  have hc : Try.prog.cellsOf 38 = 2 := by kernel_rfl
  have hci : Try.prog.cellsOf 3 = 1 := by kernel_rfl
  have hf : (Value.agg #[.int .i64 h.1, .int .i64 h.2]).formed Try.prog 38 = true := by simp [Value.formed, Try.underlying38, hc]
  unfold keyOf
  rw [Try.underlying38]
  simp only [hk, hf, Bool.and_true, if_true]
  rw [hm]
  simp [Program.keyLits, Try.underlying38, Try.underlying3, hc, hci, Value.cells, wf_of h1, wf_of h2, litHand]
theorem hand_law : Keyed Try.prog 38 := Keyed.of_law (deep_law_laid (by kernel_rfl) (m := 3) (by omega) (of_decide_eq_true (by kernel_rfl)) (by kernel_rfl) (by rw [Try.underlying38]))
def kHand : KeyEnc (Int × Int) 38 := { val := fun h => .agg #[.int .i64 h.1, .int .i64 h.2], ok := fun h => I64r h.1 ∧ I64r h.2, lit := litHand, law := hand_law, key := fun a ha => hand_key a ha.1 ha.2, inj := fun a b h => by simp at h; exact Prod.ext h.1 h.2 }
end Go.Proofs.Ytakoejopgdaknaa

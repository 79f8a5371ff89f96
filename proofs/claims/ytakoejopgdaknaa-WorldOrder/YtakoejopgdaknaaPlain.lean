/- Plain facts on lists of component numbers and their sets: no Go in sight. -/
import Derived.Test.YtakoejopgdaknaaBits
namespace Go.Proofs.Ytakoejopgdaknaa

theorem getD_mem {zs : List Int} {k : Nat} (h : k < zs.length) : zs.getD k 0 ∈ zs := by
  rw [List.getD_eq_getElem?_getD, List.getElem?_eq_getElem h]; exact List.getElem_mem _
theorem not_mem_of {zs : List Int} {x : Int} (h : ∀ j, j < zs.length → zs.getD j 0 ≠ x) : x ∉ zs := by
  intro hx
  obtain ⟨j, hj, e⟩ := List.getElem_of_mem hx
  exact h j hj (by rw [List.getD_eq_getElem?_getD, List.getElem?_eq_getElem hj]; simpa using e)
theorem take_snoc {zs : List Int} {k : Nat} (h : k < zs.length) : zs.take (k + 1) = zs.take k ++ [zs.getD k 0] := by
  rw [List.take_succ_eq_append_getElem h, List.getD_eq_getElem?_getD, List.getElem?_eq_getElem h]; rfl
theorem getD_take {zs : List Int} {k j : Nat} (h : j < k) : (zs.take k).getD j 0 = zs.getD j 0 := by
  simp [List.getD_eq_getElem?_getD, h]

/-- is it a component? -/
def isK (z : Int) : Bool := decide (0 ≤ z) && decide (z ≤ 7)
theorem isK_iff {z : Int} : isK z = true ↔ 0 ≤ z ∧ z ≤ 7 := by simp [isK]

/-- the set of a list of components -/
def setOf (l : List Int) : Int := l.foldl (fun m z => bits .or .i64 m (2 ^ z.toNat)) 0
theorem setOf_snoc (l : List Int) (z : Int) : setOf (l ++ [z]) = bits .or .i64 (setOf l) (2 ^ z.toNat) := by simp [setOf]

/-- what Of returns: the set and the error's number -/
def ofR (l : List Int) : Int × Int := if l.all isK then (if l.Nodup then (setOf l, 0) else (0, 6)) else (0, 1)

theorem tb_pow (z j : Nat) (hz : z < 8) (hj : j < 64) : tb (2 ^ z) j = decide (j = z) := by
  have : ∀ z : Fin 8, ∀ j : Fin 64, tb (2 ^ z.val) j.val = decide (j.val = z.val) := by decide +kernel
  exact this ⟨z, hz⟩ ⟨j, hj⟩

theorem or_small (m : Int) (z : Nat) (h0 : 0 ≤ m) (h1 : m ≤ 255) (hz : z < 8) :
    0 ≤ bits .or .i64 m (2 ^ z) ∧ bits .or .i64 m (2 ^ z) ≤ 255 ∧ (tb m z = false → bits .or .i64 m (2 ^ z) = m + 2 ^ z) := by
  have : ∀ m : Fin 256, ∀ z : Fin 8, 0 ≤ bits .or .i64 (m.val : Int) (2 ^ z.val) ∧ bits .or .i64 (m.val : Int) (2 ^ z.val) ≤ 255 ∧ (tb (m.val : Int) z.val = false → bits .or .i64 (m.val : Int) (2 ^ z.val) = (m.val : Int) + 2 ^ z.val) := by decide +kernel
  obtain ⟨n, rfl⟩ := Int.eq_ofNat_of_zero_le h0
  exact this ⟨n, by omega⟩ ⟨z, hz⟩

theorem setOf_facts (l : List Int) (h : ∀ z ∈ l, 0 ≤ z ∧ z ≤ 7) : 0 ≤ setOf l ∧ setOf l ≤ 255 ∧ ∀ j, j < 64 → tb (setOf l) j = decide ((j : Int) ∈ l) := by
  have key : ∀ n, ∀ l : List Int, l.length = n → (∀ z ∈ l, 0 ≤ z ∧ z ≤ 7) → 0 ≤ setOf l ∧ setOf l ≤ 255 ∧ ∀ j, j < 64 → tb (setOf l) j = decide ((j : Int) ∈ l) := by
    intro n
    induction n with
    | zero =>
      intro l hl _
      obtain rfl : l = [] := List.length_eq_zero_iff.1 hl
      exact ⟨by decide, by decide, fun j _ => by simp [setOf, tb_zero]⟩
    | succ n ih =>
      intro l hl h
      have hne : l ≠ [] := by intro e; subst e; simp at hl
      have e := List.dropLast_concat_getLast hne
      generalize l.dropLast = d at e
      generalize l.getLast hne = z at e
      subst e
      simp at hl
      obtain ⟨a, b, c⟩ := ih d hl (fun x hx => h x (by simp [hx]))
      obtain ⟨z0, z7⟩ := h z (by simp)
      rw [setOf_snoc]
      obtain ⟨o0, o1, _⟩ := or_small (setOf d) z.toNat a b (by omega)
      refine ⟨o0, o1, fun j hj => ?_⟩
      rw [tb_or _ _ j hj, c j hj, tb_pow _ j (by omega) hj]
      have hjz : j = z.toNat ↔ (j : Int) = z := by omega
      rw [Bool.eq_iff_iff]; simp [hjz]
  exact key l.length l rfl h

theorem setOf_add (l : List Int) (z : Int) (h : ∀ x ∈ l, 0 ≤ x ∧ x ≤ 7) (h0 : 0 ≤ z) (h7 : z ≤ 7) (hz : z ∉ l) : bits .or .i64 (setOf l) (2 ^ z.toNat) = setOf l + 2 ^ z.toNat := by
  obtain ⟨a, b, c⟩ := setOf_facts l h
  refine (or_small (setOf l) z.toNat a b (by omega)).2.2 ?_
  rw [c _ (by omega)]
  simp only [decide_eq_false_iff_not]
  rwa [Int.toNat_of_nonneg h0]

theorem all_of {l : List Int} (h : ∀ j, j < l.length → isK (l.getD j 0) = true) : l.all isK = true := by
  rw [List.all_eq_true]
  intro x hx
  obtain ⟨j, hj, e⟩ := List.getElem_of_mem hx
  have := h j hj
  rw [List.getD_eq_getElem?_getD, List.getElem?_eq_getElem hj] at this
  simpa [e] using this
theorem all_take {l : List Int} (h : l.all isK = true) (k : Nat) : ∀ z ∈ l.take k, 0 ≤ z ∧ z ≤ 7 := fun z hz =>
  isK_iff.1 (List.all_eq_true.1 h z (List.mem_of_mem_take hz))
theorem ofR_arg {l : List Int} {k : Nat} (hk : k < l.length) (h : isK (l.getD k 0) = false) : ofR l = (0, 1) := by
  unfold ofR
  rw [if_neg]
  intro e
  have := List.all_eq_true.1 e _ (getD_mem hk)
  rw [h] at this; cases this
theorem nodup_snoc {l : List Int} {z : Int} (h : l.Nodup) (hz : z ∉ l) : (l ++ [z]).Nodup := by
  rw [List.nodup_append]
  refine ⟨h, by simp, fun a ha b hb => ?_⟩
  simp at hb; subst hb
  intro e; subst e; exact hz ha
theorem ofR_twice {l : List Int} {k : Nat} (ha : l.all isK = true) (hk : k < l.length) (h : l.getD k 0 ∈ l.take k) : ofR l = (0, 6) := by
  unfold ofR
  rw [if_pos ha, if_neg]
  intro e
  have : (l.take (k + 1)).Nodup := e.sublist (List.take_sublist _ _)
  rw [take_snoc hk, List.nodup_append] at this
  exact this.2.2 _ h (l.getD k 0) (by simp) rfl
theorem ofR_ok {l : List Int} (ha : l.all isK = true) (h : l.Nodup) : ofR l = (setOf l, 0) := by
  unfold ofR
  rw [if_pos ha, if_pos h]

/-- what has answers at a component, of the set of the first k -/
theorem tb_setOf {l : List Int} (h : ∀ x ∈ l, 0 ≤ x ∧ x ≤ 7) {z : Int} (h0 : 0 ≤ z) (h7 : z ≤ 7) : tb (setOf l) z.toNat = decide (z ∈ l) := by
  rw [(setOf_facts l h).2.2 _ (by omega), Int.toNat_of_nonneg h0]

theorem wrap_small (z : Nat) (h : z < 8) : IntKind.i64.wrap (2 ^ z) = 2 ^ z := by
  have : ∀ z : Fin 8, IntKind.i64.wrap (2 ^ z.val) = 2 ^ z.val := by decide +kernel
  exact this ⟨z, h⟩
theorem pow_le7 (z : Nat) (h : z < 8) : (2 : Int) ^ z ≤ 128 ∧ (1 : Int) ≤ 2 ^ z := by
  have : ∀ z : Fin 8, (2 : Int) ^ z.val ≤ 128 ∧ (1 : Int) ≤ 2 ^ z.val := by decide +kernel
  exact this ⟨z, h⟩

/-- the components of a set, in increasing order -/
def kindsTo (m : Int) : Nat → List Int
  | 0 => []
  | k + 1 => if tb m k then kindsTo m k ++ [(k : Int)] else kindsTo m k
def kinds (m : Int) : List Int := kindsTo m 8
/-- how many there are -/
def cnt (m : Int) : Int := (kinds m).length

theorem mod256 (m : Int) (k : Nat) (h : k < 64) : tb (m % 256) k = (decide (k < 8) && tb m k) := by
  unfold tb
  by_cases hk : k < 8
  · have e : m % 256 / 2 ^ k % 2 = m / 2 ^ k % 2 := by
      match k, hk with
      | 0, _ => omega
      | 1, _ => omega
      | 2, _ => omega
      | 3, _ => omega
      | 4, _ => omega
      | 5, _ => omega
      | 6, _ => omega
      | 7, _ => omega
    rw [e]; simp [hk]
  · have h2 : (256 : Int) ≤ 2 ^ k := by
      have : (2 : Nat) ^ 8 ≤ 2 ^ k := Nat.pow_le_pow_right (by decide) (by omega)
      have e : ((2 ^ k : Nat) : Int) = (2 : Int) ^ k := by simp
      omega
    rw [Int.ediv_eq_zero_of_lt (by omega) (by omega)]; simp [hk]

theorem tb_255 (k : Nat) (h : k < 64) : tb 255 k = decide (k < 8) := by
  have : ∀ k : Fin 64, tb 255 k.val = decide (k.val < 8) := by decide +kernel
  exact this ⟨k, h⟩
theorem and_255 (m : Int) : bits .and .i64 m 255 = m % 256 := by
  refine i64_ext (and_I64 _ _) ⟨by omega, by omega⟩ fun k hk => ?_
  rw [tb_and _ _ k hk, mod256 m k hk, tb_255 k hk, Bool.and_comm]
theorem kindsTo_mod (m : Int) (k : Nat) (h : k ≤ 8) : kindsTo (m % 256) k = kindsTo m k := by
  induction k with
  | zero => rfl
  | succ k ih => rw [kindsTo, kindsTo, ih (by omega), mod256 m k (by omega)]; simp [show k < 8 by omega]
theorem kinds_mod (m : Int) : kinds (m % 256) = kinds m := kindsTo_mod m 8 (by omega)
theorem cnt_mod (m : Int) : cnt (m % 256) = cnt m := by rw [cnt, kinds_mod]; rfl
theorem kindsTo_len (m : Int) (k : Nat) : (kindsTo m k).length ≤ k := by
  induction k with
  | zero => simp [kindsTo]
  | succ k ih =>
    rw [kindsTo]
    split
    · rw [List.length_append]; simp; omega
    · omega
theorem of_fin256 {p : Int → Prop} (h : ∀ n : Fin 256, p (n.val : Int)) (x : Int) (h0 : 0 ≤ x) (h1 : x ≤ 255) : p x := by
  obtain ⟨n, rfl⟩ := Int.eq_ofNat_of_zero_le h0
  exact h ⟨n, by omega⟩
/-- what OnesCount64 reckons -/
def oc (x : Int) : Int :=
  let a := IntKind.u64.wrap (bits .and .u64 (x / 2) 6148914691236517205 + bits .and .u64 x 6148914691236517205)
  let b := IntKind.u64.wrap (bits .and .u64 (a / 4) 3689348814741910323 + bits .and .u64 a 3689348814741910323)
  let c := bits .and .u64 (IntKind.u64.wrap (b / 16 + b)) 1085102592571150095
  let d := IntKind.u64.wrap (c + c / 256)
  let e := IntKind.u64.wrap (d + d / 65536)
  let f := IntKind.u64.wrap (e + e / 4294967296)
  bits .and .i64 (RowKit.wrap64 f) 127
theorem oc_eq (x : Int) (h0 : 0 ≤ x) (h1 : x ≤ 255) : oc x = cnt x := of_fin256 (p := fun x => oc x = cnt x) (by decide +kernel) x h0 h1

theorem mem_kindsTo {m : Int} {k : Nat} {z : Int} : z ∈ kindsTo m k ↔ ∃ j, j < k ∧ z = (j : Int) ∧ tb m j = true := by
  induction k with
  | zero => simp [kindsTo]
  | succ k ih =>
    rw [kindsTo]
    constructor
    · intro h
      split at h
      · rename_i hb
        rw [List.mem_append] at h
        rcases h with h | h
        · obtain ⟨j, hj, e⟩ := ih.1 h; exact ⟨j, by omega, e⟩
        · simp at h; exact ⟨k, by omega, h, hb⟩
      · obtain ⟨j, hj, e⟩ := ih.1 h; exact ⟨j, by omega, e⟩
    · rintro ⟨j, hj, e, hb⟩
      by_cases hk : j = k
      · subst hk; rw [if_pos hb]; simp [e]
      · have := ih.2 ⟨j, by omega, e, hb⟩
        split <;> simp [this]
theorem nodup_kindsTo (m : Int) (k : Nat) : (kindsTo m k).Nodup := by
  induction k with
  | zero => simp [kindsTo]
  | succ k ih =>
    rw [kindsTo]
    split
    · refine nodup_snoc ih ?_
      intro h
      obtain ⟨j, hj, e, _⟩ := mem_kindsTo.1 h
      omega
    · exact ih
end Go.Proofs.Ytakoejopgdaknaa

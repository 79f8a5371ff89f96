/- Bonds of children and parents as a plain list in the order of children: who is under whom, no loops, what each call leaves. -/
import Derived.Test.YtlclceiebnnpgaaGroundA
namespace Go.Proofs.Ytlclceiebnnpgaa

abbrev Hd := Int × Int
abbrev Bd := Hd × Hd
/-- Handles are ordered by slot, then by generation. -/
def hlt (a b : Hd) : Prop := a.1 < b.1 ∨ (a.1 = b.1 ∧ a.2 < b.2)
instance (a b : Hd) : Decidable (hlt a b) := by unfold hlt; exact inferInstance
theorem hlt_irrefl (a : Hd) : ¬ hlt a a := by unfold hlt; omega
theorem hlt_trans {a b c : Hd} (h : hlt a b) (k : hlt b c) : hlt a c := by unfold hlt at *; omega
theorem hlt_tri (a b : Hd) : hlt a b ∨ a = b ∨ hlt b a := by
  unfold hlt
  by_cases h1 : a.1 = b.1
  · by_cases h2 : a.2 = b.2
    · exact .inr (.inl (Prod.ext h1 h2))
    · omega
  · omega
abbrev SortedB (bs : List Bd) : Prop := bs.Pairwise (fun x y => hlt x.1 y.1)

theorem SortedB.filter {bs : List Bd} (h : SortedB bs) (q : Bd → Bool) : SortedB (bs.filter q) := List.Pairwise.filter q h
theorem SortedB.fn {bs : List Bd} (h : SortedB bs) {c p q : Hd} (h1 : (c, p) ∈ bs) (h2 : (c, q) ∈ bs) : p = q := by
  induction bs with
  | nil => simp at h1
  | cons b bs ih =>
    obtain ⟨hb, hs⟩ := List.pairwise_cons.1 h
    rcases List.mem_cons.1 h1 with e1 | m1 <;> rcases List.mem_cons.1 h2 with e2 | m2
    · rw [← e1] at e2; exact (Prod.ext_iff.1 e2).2.symm
    · have := hb _ m2; rw [← e1] at this; exact absurd this (hlt_irrefl _)
    · have := hb _ m1; rw [← e2] at this; exact absurd this (hlt_irrefl _)
    · exact ih hs m1 m2
theorem SortedB.keys {bs : List Bd} (h : SortedB bs) : (bs.map (·.1)).Nodup := by
  unfold List.Nodup
  rw [List.pairwise_map]
  exact List.Pairwise.imp (fun {a b} hab e => by rw [e] at hab; exact hlt_irrefl _ hab) h
theorem SortedB.nodup {bs : List Bd} (h : SortedB bs) : bs.Nodup :=
  List.Pairwise.imp (fun {a b} hab e => by rw [e] at hab; exact hlt_irrefl _ hab) h
/-- Two lists in order with the same members are one. -/
theorem SortedB.ext : ∀ {xs ys : List Bd}, SortedB xs → SortedB ys → (∀ b, b ∈ xs ↔ b ∈ ys) → xs = ys
  | [], [], _, _, _ => rfl
  | [], y :: ys, _, _, h => by have := (h y).2 (by simp); simp at this
  | x :: xs, [], _, _, h => by have := (h x).1 (by simp); simp at this
  | x :: xs, y :: ys, hx, hy, h => by
    obtain ⟨hx1, hx2⟩ := List.pairwise_cons.1 hx
    obtain ⟨hy1, hy2⟩ := List.pairwise_cons.1 hy
    have e : x = y := by
      rcases List.mem_cons.1 ((h x).1 (by simp)) with e | m
      · exact e
      · rcases List.mem_cons.1 ((h y).2 (by simp)) with e' | m'
        · exact e'.symm
        · exact absurd (hlt_trans (hx1 _ m') (hy1 _ m)) (hlt_irrefl _)
    subst e
    rw [SortedB.ext hx2 hy2 (fun b => ?_)]
    refine ⟨fun hb => ?_, fun hb => ?_⟩
    · rcases List.mem_cons.1 ((h b).1 (List.mem_cons_of_mem _ hb)) with e | m
      · subst e; exact absurd (hx1 _ hb) (hlt_irrefl _)
      · exact m
    · rcases List.mem_cons.1 ((h b).2 (List.mem_cons_of_mem _ hb)) with e | m
      · subst e; exact absurd (hy1 _ hb) (hlt_irrefl _)
      · exact m
theorem SortedB.ofPerm {xs : List Bd} (hn : (xs.map (·.1)).Nodup) (hs : xs.Pairwise (fun x y => ¬ hlt y.1 x.1)) : SortedB xs := by
  unfold List.Nodup at hn
  rw [List.pairwise_map] at hn
  exact (hn.and hs).imp (fun {a b} hab => by
    rcases hlt_tri a.1 b.1 with h | h | h
    · exact h
    · exact absurd h hab.1
    · exact absurd h hab.2)

/-- A bond put in its place. -/
def insB : List Bd → Bd → List Bd
  | [], x => [x]
  | y :: bs, x => if hlt y.1 x.1 then y :: insB bs x else x :: y :: bs
theorem mem_insB {b x : Bd} : ∀ {bs : List Bd}, b ∈ insB bs x ↔ b = x ∨ b ∈ bs
  | [] => by simp [insB]
  | y :: bs => by
    unfold insB
    split
    · simp only [List.mem_cons, mem_insB (bs := bs)]
      constructor
      · rintro (h | h | h) <;> simp [h]
      · rintro (h | h | h) <;> simp [h]
    · simp
theorem insB_sorted {x : Bd} : ∀ {bs : List Bd}, SortedB bs → (∀ b ∈ bs, b.1 ≠ x.1) → SortedB (insB bs x)
  | [], _, _ => by simp [insB, SortedB]
  | y :: bs, h, hne => by
    obtain ⟨h1, h2⟩ := List.pairwise_cons.1 h
    unfold insB
    split
    · rename_i hy
      refine List.pairwise_cons.2 ⟨fun b hb => ?_, insB_sorted h2 (fun b hb => hne b (List.mem_cons_of_mem _ hb))⟩
      rcases mem_insB.1 hb with rfl | hb
      · exact hy
      · exact h1 b hb
    · rename_i hy
      have hxy : hlt x.1 y.1 := by
        rcases hlt_tri y.1 x.1 with h' | h' | h'
        · exact absurd h' hy
        · exact absurd h' (hne y (by simp))
        · exact h'
      refine List.pairwise_cons.2 ⟨fun b hb => ?_, h⟩
      rcases List.mem_cons.1 hb with rfl | hb
      · exact hxy
      · exact hlt_trans hxy (h1 b hb)
theorem insB_len {x : Bd} : ∀ {bs : List Bd}, (insB bs x).length = bs.length + 1
  | [] => rfl
  | y :: bs => by unfold insB; split <;> simp [insB_len]
theorem insB_at : ∀ {bs : List Bd} {x : Bd} {t : Nat}, t ≤ bs.length → (∀ j, j < t → hlt (bs.getD j ((0, 0), (0, 0))).1 x.1) → (t < bs.length → ¬ hlt (bs.getD t ((0, 0), (0, 0))).1 x.1) → insB bs x = bs.take t ++ x :: bs.drop t
  | [], x, t, ht, _, _ => by simp at ht; simp [insB]
  | y :: bs, x, 0, _, _, h2 => by
    have := h2 (by simp)
    simp at this
    simp [insB, this]
  | y :: bs, x, t + 1, ht, h1, h2 => by
    have hy := h1 0 (by omega)
    simp at hy
    have ih := insB_at (bs := bs) (x := x) (t := t) (by simpa using ht) (fun j hj => by simpa using h1 (j + 1) (by omega)) (fun h => by simpa using h2 (by simpa using h))
    have ei : insB (y :: bs) x = y :: insB bs x := by simp [insB, hy]
    rw [ei, ih]; simp

/-- x is under h. -/
inductive Und (bs : List Bd) : Hd → Hd → Prop where
  | base {x h : Hd} : (x, h) ∈ bs → Und bs x h
  | step {x y h : Hd} : (x, y) ∈ bs → Und bs y h → Und bs x h
theorem Und.mono {bs0 bs : List Bd} (hs : ∀ b ∈ bs0, b ∈ bs) {x h : Hd} (u : Und bs0 x h) : Und bs x h := by
  induction u with
  | base h => exact .base (hs _ h)
  | step h _ ih => exact .step (hs _ h) ih
theorem Und.trans {bs : List Bd} {x y z : Hd} (u : Und bs x y) (v : Und bs y z) : Und bs x z := by
  induction u with
  | base h => exact .step h v
  | step h _ ih => exact .step h (ih v)
/-- From above: a child of h, or under a child of h. -/
theorem Und.top {bs : List Bd} {x h : Hd} (u : Und bs x h) : ∃ c, (c, h) ∈ bs ∧ (x = c ∨ Und bs x c) := by
  induction u with
  | base h => exact ⟨_, h, .inl rfl⟩
  | step h _ ih =>
    obtain ⟨c, hc, e | e⟩ := ih
    · exact ⟨c, hc, .inr (.base (e ▸ h))⟩
    · exact ⟨c, hc, .inr (.step h e)⟩
theorem Und.line {bs : List Bd} (hs : SortedB bs) {x a b : Hd} (u : Und bs x a) (v : Und bs x b) : a = b ∨ Und bs a b ∨ Und bs b a := by
  induction u with
  | base h =>
    cases v with
    | base h' => exact .inl (hs.fn h h')
    | step h' v' => rw [← hs.fn h h'] at v'; exact .inr (.inl v')
  | step h u ih =>
    cases v with
    | base h' => rw [hs.fn h' h]; exact .inr (.inr u)
    | step h' v' => rw [hs.fn h' h] at v'; exact ih v'

/-- No loops: a depth that grows from child to parent, up to a bound. -/
structure AcyBy (bs : List Bd) (d : Hd → Nat) (M : Nat) : Prop where
  up : ∀ b ∈ bs, d b.1 < d b.2
  le : ∀ b ∈ bs, d b.2 ≤ M
def Acy (bs : List Bd) : Prop := ∃ d M, AcyBy bs d M
theorem AcyBy.und {bs : List Bd} {d : Hd → Nat} {M : Nat} (h : AcyBy bs d M) {x y : Hd} (u : Und bs x y) : d x < d y := by
  induction u with
  | base hb => exact h.up _ hb
  | step hb _ ih => exact Nat.lt_trans (h.up _ hb) ih
theorem Acy.sub {bs0 bs : List Bd} (h : Acy bs) (hs : ∀ b ∈ bs0, b ∈ bs) : Acy bs0 := by
  obtain ⟨d, M, h⟩ := h
  exact ⟨d, M, fun b hb => h.up b (hs b hb), fun b hb => h.le b (hs b hb)⟩
theorem Acy.irrefl {bs : List Bd} (h : Acy bs) (x : Hd) : ¬ Und bs x x := fun u => by
  obtain ⟨d, M, h⟩ := h
  exact Nat.lt_irrefl _ (h.und u)
theorem Acy.nil : Acy [] := ⟨fun _ => 0, 0, by simp, by simp⟩

/-- Adopt of child c by parent p would close a loop. -/
def Loops (bs : List Bd) (c p : Hd) : Prop := c = p ∨ Und bs p c
open Classical in
theorem Acy.adopt {bs bs0 : List Bd} (h : Acy bs) {c p : Hd} (hl : ¬ Loops bs c p) (hs : ∀ b ∈ bs0, b = (c, p) ∨ (b ∈ bs ∧ b.1 ≠ c)) : Acy bs0 := by
  obtain ⟨d, M, h⟩ := h
  refine ⟨fun x => if x = p ∨ Und bs p x then d x + d c + 1 else d x, M + d c + d p + 1, fun b hb => ?_, fun b hb => ?_⟩
  · rcases hs b hb with rfl | ⟨hm, hne⟩
    · have hc : ¬ (c = p ∨ Und bs p c) := hl
      simp only [if_neg hc, true_or, if_true]
      omega
    · have hu := h.up b hm
      by_cases h2 : b.2 = p ∨ Und bs p b.2
      · simp only [if_pos h2]
        split <;> omega
      · have h1 : ¬ (b.1 = p ∨ Und bs p b.1) := fun h1 => h2 (h1.elim (fun e => .inr (.base (by rw [← e]; exact hm))) (fun u => .inr (u.trans (.base hm))))
        simp only [if_neg h2, if_neg h1]
        exact hu
  · rcases hs b hb with rfl | ⟨hm, hne⟩
    · simp only [true_or, if_true]
      omega
    · have hu := h.le b hm
      split <;> omega

/-- The children of h, in order; all that are under h, n generations deep. -/
def kids (bs : List Bd) (h : Hd) : List Hd := (bs.filter (fun b => decide (b.2 = h))).map (·.1)
def unf (bs : List Bd) : Nat → Hd → List Hd
  | 0, _ => []
  | n + 1, h => (kids bs h).flatMap (fun c => c :: unf bs n c)
theorem mem_kids {bs : List Bd} {h c : Hd} : c ∈ kids bs h ↔ (c, h) ∈ bs := by
  unfold kids
  simp only [List.mem_map, List.mem_filter, decide_eq_true_eq]
  constructor
  · rintro ⟨⟨x, y⟩, ⟨hb, rfl⟩, rfl⟩; exact hb
  · intro hb; exact ⟨(c, h), ⟨hb, rfl⟩, rfl⟩
theorem kids_nodup {bs : List Bd} (hs : SortedB bs) (h : Hd) : (kids bs h).Nodup := (hs.filter _).keys
theorem AcyBy.unf_eq {bs : List Bd} {d : Hd → Nat} {M : Nat} (h : AcyBy bs d M) : ∀ (n m : Nat) (x : Hd), d x ≤ n → d x ≤ m → unf bs n x = unf bs m x := by
  intro n
  induction n with
  | zero =>
    intro m x hn hm
    have hk : kids bs x = [] := List.eq_nil_iff_forall_not_mem.2 fun c hc => by have := h.up _ (mem_kids.1 hc); simp at this; omega
    cases m with
    | zero => rfl
    | succ m => simp [unf, hk]
  | succ n ih =>
    intro m x hn hm
    have go : ∀ (m : Nat), d x ≤ m + 1 → unf bs (n + 1) x = unf bs (m + 1) x := fun m hm => by
      unfold unf
      rw [List.flatMap_def, List.flatMap_def]
      congr 1
      refine List.map_congr_left fun c hc => ?_
      have hu := h.up _ (mem_kids.1 hc)
      simp only at hu
      rw [ih m c (by omega) (by omega)]
    cases m with
    | zero =>
      have hk : kids bs x = [] := List.eq_nil_iff_forall_not_mem.2 fun c hc => by have := h.up _ (mem_kids.1 hc); simp at this; omega
      simp [unf, hk]
    | succ m => exact go m hm
/-- All that are under h, each child followed by those under it. -/
def under (bs : List Bd) (M : Nat) (h : Hd) : List Hd := unf bs (M + 1) h
theorem AcyBy.kid {bs : List Bd} {d : Hd → Nat} {M : Nat} (h : AcyBy bs d M) {c x : Hd} (hc : c ∈ kids bs x) : d c < d x ∧ d x ≤ M := ⟨h.up _ (mem_kids.1 hc), h.le _ (mem_kids.1 hc)⟩
theorem AcyBy.under_eq {bs : List Bd} {d : Hd → Nat} {M : Nat} (h : AcyBy bs d M) (x : Hd) : under bs M x = (kids bs x).flatMap (fun c => c :: under bs M c) := by
  show unf bs (M + 1) x = _
  rw [unf, List.flatMap_def, List.flatMap_def]
  congr 1
  refine List.map_congr_left fun c hc => ?_
  have := h.kid hc
  show c :: unf bs M c = c :: unf bs (M + 1) c
  rw [h.unf_eq M (M + 1) c (by omega) (by omega)]
theorem AcyBy.mem_under {bs : List Bd} {d : Hd → Nat} {M : Nat} (h : AcyBy bs d M) : ∀ (n : Nat) (x y : Hd), d y ≤ n → (x ∈ under bs M y ↔ Und bs x y) := by
  intro n
  induction n with
  | zero =>
    intro x y hy
    rw [h.under_eq]
    refine ⟨fun hx => ?_, fun u => ?_⟩
    · obtain ⟨c, hc, _⟩ := List.mem_flatMap.1 hx
      have := h.kid hc; omega
    · have := h.und u; omega
  | succ n ih =>
    intro x y hy
    rw [h.under_eq]
    refine ⟨fun hx => ?_, fun u => ?_⟩
    · obtain ⟨c, hc, hx⟩ := List.mem_flatMap.1 hx
      have hk := h.kid hc
      rcases List.mem_cons.1 hx with rfl | hx
      · exact .base (mem_kids.1 hc)
      · exact ((ih x c (by omega)).1 hx).trans (.base (mem_kids.1 hc))
    · obtain ⟨c, hc, e⟩ := u.top
      have hk := h.kid (mem_kids.2 hc)
      refine List.mem_flatMap.2 ⟨c, mem_kids.2 hc, List.mem_cons.2 (e.imp id fun u => (ih x c (by omega)).2 u)⟩
theorem AcyBy.in_under {bs : List Bd} {d : Hd → Nat} {M : Nat} (h : AcyBy bs d M) {x y : Hd} : x ∈ under bs M y ↔ Und bs x y := h.mem_under _ x y (Nat.le_refl _)
theorem nodup_flatMap' {α β : Type} {f : α → List β} : ∀ {l : List α}, l.Nodup → (∀ a ∈ l, (f a).Nodup) → (∀ a ∈ l, ∀ b ∈ l, a ≠ b → ∀ x ∈ f a, x ∉ f b) → (l.flatMap f).Nodup
  | [], _, _, _ => by simp
  | a :: l, hn, h1, h2 => by
    obtain ⟨ha, hl⟩ := List.nodup_cons.1 hn
    rw [List.flatMap_cons, List.nodup_append]
    refine ⟨h1 a (by simp), nodup_flatMap' hl (fun b hb => h1 b (by simp [hb])) (fun x hx y hy => h2 x (by simp [hx]) y (by simp [hy])), fun x hx y hy e => ?_⟩
    obtain ⟨b, hb, hy⟩ := List.mem_flatMap.1 hy
    exact h2 a (by simp) b (by simp [hb]) (fun e => ha (e ▸ hb)) x hx (e ▸ hy)
theorem AcyBy.under_nodup {bs : List Bd} {d : Hd → Nat} {M : Nat} (h : AcyBy bs d M) (hs : SortedB bs) : ∀ (n : Nat) (y : Hd), d y ≤ n → (under bs M y).Nodup := by
  intro n
  induction n with
  | zero =>
    intro y hy
    have hk : kids bs y = [] := List.eq_nil_iff_forall_not_mem.2 fun c hc => by have := h.kid hc; omega
    rw [h.under_eq, hk]; simp
  | succ n ih =>
    intro y hy
    rw [h.under_eq]
    refine nodup_flatMap' (kids_nodup hs y) (fun c hc => ?_) (fun a ha b hb hne x hxa hxb => ?_)
    · have hk := h.kid hc
      refine List.nodup_cons.2 ⟨fun hm => ?_, ih c (by omega)⟩
      exact Nat.lt_irrefl _ (h.und (h.in_under.1 hm))
    · have ka := h.kid ha
      have kb := h.kid hb
      have up : ∀ {c z : Hd}, c ∈ kids bs y → Und bs c z → d y ≤ d z := fun {c z} hc u => by
        cases u with
        | base hb' => rw [hs.fn (mem_kids.1 hc) hb']; exact Nat.le_refl _
        | step hb' u' => rw [← hs.fn (mem_kids.1 hc) hb'] at u'; exact Nat.le_of_lt (h.und u')
      have ua : x = a ∨ Und bs x a := (List.mem_cons.1 hxa).imp id h.in_under.1
      have ub : x = b ∨ Und bs x b := (List.mem_cons.1 hxb).imp id h.in_under.1
      have key : a = b ∨ Und bs a b ∨ Und bs b a := by
        rcases ua with rfl | ua <;> rcases ub with rfl | ub
        · exact .inl rfl
        · exact .inr (.inl ub)
        · exact .inr (.inr ua)
        · exact ua.line hs ub
      rcases key with e | u | u
      · exact hne e
      · have := up ha u; omega
      · have := up hb u; omega
theorem nodup_sub_len {α : Type} [BEq α] [LawfulBEq α] : ∀ {xs ys : List α}, xs.Nodup → (∀ x ∈ xs, x ∈ ys) → xs.length ≤ ys.length
  | [], ys, _, _ => by simp
  | x :: xs, ys, hn, hs => by
    obtain ⟨h1, h2⟩ := List.nodup_cons.1 hn
    have hx := hs x (by simp)
    have := nodup_sub_len (ys := ys.erase x) h2 (fun y hy => by
      have hne : y ≠ x := fun e => h1 (e ▸ hy)
      exact (List.mem_erase_of_ne hne).2 (hs y (by simp [hy])))
    rw [List.length_erase_of_mem hx] at this
    have : 0 < ys.length := List.length_pos_of_mem hx
    simp; omega
theorem AcyBy.under_len {bs : List Bd} {d : Hd → Nat} {M : Nat} (h : AcyBy bs d M) (hs : SortedB bs) (y : Hd) : (under bs M y).length ≤ bs.length := by
  have := nodup_sub_len (ys := bs.map (·.1)) (h.under_nodup hs _ y (Nat.le_refl _)) (fun x hx => by
    cases h.in_under.1 hx with
    | base hb => exact List.mem_map.2 ⟨_, hb, rfl⟩
    | step hb _ => exact List.mem_map.2 ⟨_, hb, rfl⟩)
  simpa using this
/-- All above x, from its parent on. -/
def IsAnc (bs : List Bd) : Hd → List Hd → Prop
  | x, [] => ∀ p, (x, p) ∉ bs
  | x, p :: r => (x, p) ∈ bs ∧ IsAnc bs p r
theorem AcyBy.anc {bs : List Bd} {d : Hd → Nat} {M : Nat} (h : AcyBy bs d M) : ∀ (n : Nat) (x : Hd), M - d x ≤ n → ∃ A, IsAnc bs x A := by
  intro n
  induction n with
  | zero =>
    intro x hx
    refine ⟨[], fun p hp => ?_⟩
    have := h.up _ hp; have := h.le _ hp; simp at *; omega
  | succ n ih =>
    intro x hx
    by_cases hp : ∃ p, (x, p) ∈ bs
    · obtain ⟨p, hp⟩ := hp
      have h1 := h.up _ hp
      have h2 := h.le _ hp
      simp only at h1 h2
      obtain ⟨A, hA⟩ := ih p (by omega)
      exact ⟨p :: A, hp, hA⟩
    · exact ⟨[], fun p h => hp ⟨p, h⟩⟩
theorem IsAnc.mem {bs : List Bd} (hs : SortedB bs) : ∀ {A : List Hd} {x y : Hd}, IsAnc bs x A → (y ∈ A ↔ Und bs x y)
  | [], x, y, h => by
    simp only [List.not_mem_nil, false_iff]
    intro u
    cases u with
    | base hb => exact h _ hb
    | step hb _ => exact h _ hb
  | p :: r, x, y, ⟨h1, h2⟩ => by
    rw [List.mem_cons, h2.mem hs]
    constructor
    · rintro (rfl | u)
      · exact .base h1
      · exact .step h1 u
    · intro u
      cases u with
      | base hb => exact .inl (hs.fn hb h1)
      | step hb u => rw [hs.fn hb h1] at u; exact .inr u

/-- What the calls leave. -/
def rmB (bs : List Bd) (c : Hd) : List Bd := bs.filter (fun b => !decide (b.1 = c))
def goneB (bs : List Bd) (h : Hd) : List Bd := bs.filter (fun b => !(decide (b.1 = h) || decide (b.2 = h)))
open Classical in
noncomputable def adoptB (bs : List Bd) (c p : Hd) : List Bd := if Loops bs c p then bs else insB (rmB bs c) (c, p)
open Classical in
noncomputable def adoptE (bs : List Bd) (c p : Hd) : Int := if Loops bs c p then 8 else 0
def hasP (bs : List Bd) (c : Hd) : Bool := bs.any (fun b => decide (b.1 = c))
def parB (bs : List Bd) (c : Hd) : Hd := ((bs.find? (fun b => decide (b.1 = c))).map (·.2)).getD (0, 0)
theorem mem_rmB {bs : List Bd} {c : Hd} {b : Bd} : b ∈ rmB bs c ↔ b ∈ bs ∧ b.1 ≠ c := by unfold rmB; rw [List.mem_filter]; simp
theorem mem_goneB {bs : List Bd} {h : Hd} {b : Bd} : b ∈ goneB bs h ↔ b ∈ bs ∧ b.1 ≠ h ∧ b.2 ≠ h := by unfold goneB; rw [List.mem_filter]; simp
theorem adoptB_yes {bs : List Bd} {c p : Hd} (h : Loops bs c p) : adoptB bs c p = bs ∧ adoptE bs c p = 8 := by unfold adoptB adoptE; rw [if_pos h, if_pos h]; exact ⟨rfl, rfl⟩
theorem adoptB_no {bs : List Bd} {c p : Hd} (h : ¬ Loops bs c p) : adoptB bs c p = insB (rmB bs c) (c, p) ∧ adoptE bs c p = 0 := by unfold adoptB adoptE; rw [if_neg h, if_neg h]; exact ⟨rfl, rfl⟩
theorem mem_adoptB {bs : List Bd} {c p : Hd} (h : ¬ Loops bs c p) {b : Bd} : b ∈ adoptB bs c p ↔ b = (c, p) ∨ (b ∈ bs ∧ b.1 ≠ c) := by rw [(adoptB_no h).1, mem_insB, mem_rmB]
theorem hasP_iff {bs : List Bd} {c : Hd} : hasP bs c = true ↔ ∃ p, (c, p) ∈ bs := by
  unfold hasP
  rw [List.any_eq_true]
  constructor
  · rintro ⟨⟨x, y⟩, hb, e⟩; obtain rfl := of_decide_eq_true e; exact ⟨y, hb⟩
  · rintro ⟨p, hp⟩; exact ⟨(c, p), hp, decide_eq_true rfl⟩
theorem hasP_no {bs : List Bd} {c : Hd} (h : ∀ p, (c, p) ∉ bs) : hasP bs c = false := by
  cases e : hasP bs c
  · rfl
  · obtain ⟨p, hp⟩ := hasP_iff.1 e; exact absurd hp (h p)
theorem hasP_some {bs : List Bd} {c : Hd} (h : hasP bs c = true) : (c, parB bs c) ∈ bs := by
  unfold hasP at h
  unfold parB
  cases e : bs.find? (fun b => decide (b.1 = c)) with
  | none =>
    rw [List.find?_eq_none] at e
    obtain ⟨b, hb, hc⟩ := List.any_eq_true.1 h
    exact absurd hc (e b hb)
  | some b =>
    have h1 := List.find?_some e
    have h2 := List.mem_of_find?_eq_some e
    obtain rfl := of_decide_eq_true h1
    exact h2
theorem hasP_none {bs : List Bd} {c : Hd} (h : hasP bs c = false) : parB bs c = (0, 0) ∧ ∀ p, (c, p) ∉ bs := by
  have hn : ∀ p, (c, p) ∉ bs := fun p hp => by rw [hasP_iff.2 ⟨p, hp⟩] at h; cases h
  refine ⟨?_, hn⟩
  unfold parB
  cases e : bs.find? (fun b => decide (b.1 = c)) with
  | none => rfl
  | some b =>
    have h1 := List.find?_some e
    obtain rfl := of_decide_eq_true h1
    exact absurd (List.mem_of_find?_eq_some e) (hn b.2)
theorem parB_of {bs : List Bd} (hs : SortedB bs) {c p : Hd} (h : (c, p) ∈ bs) : hasP bs c = true ∧ parB bs c = p := by
  have h1 := hasP_iff.2 ⟨p, h⟩
  exact ⟨h1, hs.fn (hasP_some h1) h⟩

def okH (h : Hd) : Prop := I64r h.1 ∧ I64r h.2
/-- What every family keeps to. -/
structure FOk (bs : List Bd) : Prop where
  sorted : SortedB bs
  acy : Acy bs
  ok : ∀ b ∈ bs, okH b.1 ∧ okH b.2
theorem FOk.nil : FOk [] := ⟨by simp [SortedB], Acy.nil, by simp⟩
theorem FOk.filter {bs : List Bd} (h : FOk bs) (q : Bd → Bool) : FOk (bs.filter q) := ⟨h.sorted.filter q, h.acy.sub (fun _ hb => (List.mem_filter.1 hb).1), fun b hb => h.ok b (List.mem_filter.1 hb).1⟩
theorem FOk.rm {bs : List Bd} (h : FOk bs) (c : Hd) : FOk (rmB bs c) := h.filter _
theorem FOk.gone {bs : List Bd} (h : FOk bs) (c : Hd) : FOk (goneB bs c) := h.filter _
theorem FOk.adopt {bs : List Bd} (h : FOk bs) {c p : Hd} (hc : okH c) (hp : okH p) : FOk (adoptB bs c p) := by
  by_cases hl : Loops bs c p
  · rw [(adoptB_yes hl).1]; exact h
  · have hm := fun b => mem_adoptB (b := b) hl
    refine ⟨?_, h.acy.adopt hl (fun b hb => (hm b).1 hb), fun b hb => ?_⟩
    · rw [(adoptB_no hl).1]
      exact insB_sorted (h.rm c).sorted (fun _ hb => (mem_rmB.1 hb).2)
    · rcases (hm b).1 hb with rfl | ⟨hb, _⟩
      · exact ⟨hc, hp⟩
      · exact h.ok b hb
theorem rmB_len (bs : List Bd) (c : Hd) : (rmB bs c).length ≤ bs.length := List.length_filter_le _ _
theorem goneB_len (bs : List Bd) (c : Hd) : (goneB bs c).length ≤ bs.length := List.length_filter_le _ _
theorem adoptB_len (bs : List Bd) (c p : Hd) : (adoptB bs c p).length ≤ bs.length + 1 := by
  by_cases hl : Loops bs c p
  · rw [(adoptB_yes hl).1]; omega
  · rw [(adoptB_no hl).1, insB_len]; have := rmB_len bs c; omega
theorem IsAnc.len {bs : List Bd} (hs : SortedB bs) (ha : Acy bs) {A : List Hd} {x : Hd} (h : IsAnc bs x A) : A.length ≤ bs.length := by
  obtain ⟨d, M, ha⟩ := ha
  have hn : ∀ {A : List Hd} {x : Hd}, IsAnc bs x A → A.Nodup := by
    intro A
    induction A with
    | nil => intro x _; simp
    | cons p r ih =>
      rintro x ⟨h1, h2⟩
      refine List.nodup_cons.2 ⟨fun hm => ?_, ih h2⟩
      exact Nat.lt_irrefl _ (ha.und ((h2.mem hs).1 hm))
  have hs' : ∀ {A : List Hd} {x : Hd}, IsAnc bs x A → ∀ y ∈ A, y ∈ bs.map (·.2) := by
    intro A
    induction A with
    | nil => intro x _ y hy; simp at hy
    | cons p r ih =>
      rintro x ⟨h1, h2⟩ y hy
      rcases List.mem_cons.1 hy with rfl | hy
      · exact List.mem_map.2 ⟨_, h1, rfl⟩
      · exact ih h2 y hy
  have := nodup_sub_len (hn h) (hs' h)
  simpa using this
theorem FOk.anc {bs : List Bd} (h : FOk bs) (x : Hd) : ∃ A, IsAnc bs x A ∧ A.length ≤ bs.length ∧ ∀ y, y ∈ A ↔ Und bs x y := by
  obtain ⟨d, M, ha⟩ := h.acy
  obtain ⟨A, hA⟩ := ha.anc _ x (Nat.le_refl _)
  exact ⟨A, hA, hA.len h.sorted ⟨d, M, ha⟩, fun y => hA.mem h.sorted⟩
end Go.Proofs.Ytlclceiebnnpgaa

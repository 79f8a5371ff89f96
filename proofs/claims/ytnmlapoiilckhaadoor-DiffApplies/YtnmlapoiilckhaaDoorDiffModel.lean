/- Rows by handles, and what changes do to them: plain lists in the order of handles, and the maps that they are. -/
import Derived.Test.YtnmlapoiilckhaaDoorGroundD
import Derived.Test.YtnmlapoiilckhaaDoorGroundA
namespace Go.Proofs.YtnmlapoiilckhaaDoor

/-- An entity: its set, its eight values. -/
abbrev Be := Int × Int × Int × Int × Int × Int × Int × Int × Int
instance decBe : DecidableEq Be := @instDecidableEqProd _ _ _ (@instDecidableEqProd _ _ _ (@instDecidableEqProd _ _ _ (@instDecidableEqProd _ _ _ (@instDecidableEqProd _ _ _ (@instDecidableEqProd _ _ _ (@instDecidableEqProd _ _ _ (@instDecidableEqProd Int Int _ _)))))))
def noB : Be := (-1, 0, 0, 0, 0, 0, 0, 0, 0)
/-- the values of an entity -/
def beL (b : Be) : List Int := [b.2.1, b.2.2.1, b.2.2.2.1, b.2.2.2.2.1, b.2.2.2.2.2.1, b.2.2.2.2.2.2.1, b.2.2.2.2.2.2.2.1, b.2.2.2.2.2.2.2.2]
abbrev Ro := Hd × Be
/-- A change: a handle, what was, what is. -/
abbrev Ch := Hd × Be × Be

/-- In the order of handles, each once. -/
abbrev Ups {β : Type} (l : List (Hd × β)) : Prop := l.Pairwise (fun x y => hlt x.1 y.1)
section
variable {β : Type}
theorem Ups.fn {l : List (Hd × β)} (h : Ups l) {k : Hd} {p q : β} (h1 : (k, p) ∈ l) (h2 : (k, q) ∈ l) : p = q := by
  induction l with
  | nil => simp at h1
  | cons b l ih =>
    obtain ⟨hb, hs⟩ := List.pairwise_cons.1 h
    rcases List.mem_cons.1 h1 with e1 | m1 <;> rcases List.mem_cons.1 h2 with e2 | m2
    · rw [← e1] at e2; exact (Prod.ext_iff.1 e2).2.symm
    · have := hb _ m2; rw [← e1] at this; exact absurd this (hlt_irrefl _)
    · have := hb _ m1; rw [← e2] at this; exact absurd this (hlt_irrefl _)
    · exact ih hs m1 m2
theorem Ups.keys {l : List (Hd × β)} (h : Ups l) : (l.map (·.1)).Nodup := by
  unfold List.Nodup
  rw [List.pairwise_map]
  exact List.Pairwise.imp (fun {a b} hab e => by rw [e] at hab; exact hlt_irrefl _ hab) h
theorem Ups.ext : ∀ {xs ys : List (Hd × β)}, Ups xs → Ups ys → (∀ b, b ∈ xs ↔ b ∈ ys) → xs = ys
  | [], [], _, _, _ => rfl
  | [], y :: ys, _, _, h => by have := (h y).2 (by simp); simp at this
  | x :: xs, [], _, _, h => by have := (h x).1 (by simp); simp at this
  | x :: xs, y :: ys, hx, hy, h => by
    obtain ⟨hx1, hx2⟩ := List.pairwise_cons.1 hx
    obtain ⟨hy1, hy2⟩ := List.pairwise_cons.1 hy
    have e : x = y := by
      rcases List.mem_cons.1 ((h x).1 (by simp)) with e | m
      · exact e
      · rcases List.mem_cons.1 ((h y).2 (by simp)) with e' | m'
        · exact e'.symm
        · exact absurd (hlt_trans (hx1 _ m') (hy1 _ m)) (hlt_irrefl _)
    subst e
    rw [Ups.ext hx2 hy2 (fun b => ?_)]
    refine ⟨fun hb => ?_, fun hb => ?_⟩
    · rcases List.mem_cons.1 ((h b).1 (List.mem_cons_of_mem _ hb)) with e | m
      · subst e; exact absurd (hx1 _ hb) (hlt_irrefl _)
      · exact m
    · rcases List.mem_cons.1 ((h b).2 (List.mem_cons_of_mem _ hb)) with e | m
      · subst e; exact absurd (hy1 _ hb) (hlt_irrefl _)
      · exact m
theorem Ups.ofPerm {l : List (Hd × β)} (hn : (l.map (·.1)).Nodup) (hs : l.Pairwise (fun x y => ¬ hlt y.1 x.1)) : Ups l := by
  unfold List.Nodup at hn
  rw [List.pairwise_map] at hn
  exact (hn.and hs).imp (fun {a b} hab => by
    rcases hlt_tri a.1 b.1 with h | h | h
    · exact h
    · exact absurd h hab.1
    · exact absurd h hab.2)
theorem Ups.filter {l : List (Hd × β)} (h : Ups l) (q : Hd × β → Bool) : Ups (l.filter q) := List.Pairwise.filter q h
/-- A row put in its place. -/
def insH : List (Hd × β) → Hd × β → List (Hd × β)
  | [], x => [x]
  | y :: l, x => if hlt y.1 x.1 then y :: insH l x else x :: y :: l
theorem mem_insH {b x : Hd × β} : ∀ {l : List (Hd × β)}, b ∈ insH l x ↔ b = x ∨ b ∈ l
  | [] => by simp [insH]
  | y :: l => by
    unfold insH
    split
    · simp only [List.mem_cons, mem_insH (l := l)]
      constructor
      · rintro (h | h | h) <;> simp [h]
      · rintro (h | h | h) <;> simp [h]
    · simp
theorem insH_ups {x : Hd × β} : ∀ {l : List (Hd × β)}, Ups l → (∀ b ∈ l, b.1 ≠ x.1) → Ups (insH l x)
  | [], _, _ => by simp [insH, Ups]
  | y :: l, h, hne => by
    obtain ⟨h1, h2⟩ := List.pairwise_cons.1 h
    unfold insH
    split
    · rename_i hy
      refine List.pairwise_cons.2 ⟨fun b hb => ?_, insH_ups h2 (fun b hb => hne b (List.mem_cons_of_mem _ hb))⟩
      rcases mem_insH.1 hb with rfl | hb
      · exact hy
      · exact h1 b hb
    · rename_i hy
      have hxy : hlt x.1 y.1 := by
        rcases hlt_tri y.1 x.1 with h' | h' | h'
        · exact absurd h' hy
        · exact absurd h' (hne y (by simp))
        · exact h'
      refine List.pairwise_cons.2 ⟨fun b hb => ?_, h⟩
      rcases List.mem_cons.1 hb with rfl | hb
      · exact hxy
      · exact hlt_trans hxy (h1 b hb)
theorem insH_len {x : Hd × β} : ∀ {l : List (Hd × β)}, (insH l x).length = l.length + 1
  | [] => rfl
  | y :: l => by unfold insH; split <;> simp [insH_len]
theorem insH_at {x d : Hd × β} : ∀ {l : List (Hd × β)} {t : Nat}, t ≤ l.length → (∀ j, j < t → hlt (l.getD j d).1 x.1) → (t < l.length → ¬ hlt (l.getD t d).1 x.1) → insH l x = l.take t ++ x :: l.drop t
  | [], t, ht, _, _ => by simp at ht; simp [insH]
  | y :: l, 0, _, _, h2 => by
    have := h2 (by simp)
    simp at this
    simp [insH, this]
  | y :: l, t + 1, ht, h1, h2 => by
    have hy := h1 0 (by omega)
    simp at hy
    have ih := insH_at (l := l) (x := x) (t := t) (by simpa using ht) (fun j hj => by simpa using h1 (j + 1) (by omega)) (fun h => by simpa using h2 (by simpa using h))
    have ei : insH (y :: l) x = y :: insH l x := by simp [insH, hy]
    rw [ei, ih]; simp
end

/-- the entity of a handle -/
def atB : List Ro → Hd → Be
  | [], _ => noB
  | r :: l, h => if r.1 = h then r.2 else atB l h
/-- no row bears the entity that is none -/
abbrev Some' (l : List Ro) : Prop := ∀ r ∈ l, r.2 ≠ noB
theorem atB_none {l : List Ro} {h : Hd} (hn : ∀ r ∈ l, r.1 ≠ h) : atB l h = noB := by
  induction l with
  | nil => rfl
  | cons r l ih => rw [atB, if_neg (hn r (by simp)), ih (fun x hx => hn x (by simp [hx]))]
theorem atB_mem {l : List Ro} (hu : Ups l) {h : Hd} {b : Be} (hm : (h, b) ∈ l) : atB l h = b := by
  induction l with
  | nil => simp at hm
  | cons r l ih =>
    obtain ⟨h1, h2⟩ := List.pairwise_cons.1 hu
    rw [atB]
    split
    · rename_i e
      rcases List.mem_cons.1 hm with e1 | m
      · rw [← e1]
      · have := h1 _ m; rw [e] at this; exact absurd this (hlt_irrefl _)
    · rename_i e
      rcases List.mem_cons.1 hm with e1 | m
      · exact absurd (by rw [← e1]) e
      · exact ih h2 m
theorem atB_some {l : List Ro} {h : Hd} (hb : atB l h ≠ noB) : (h, atB l h) ∈ l := by
  induction l with
  | nil => exact absurd rfl hb
  | cons r l ih =>
    rw [atB] at hb ⊢
    split
    · rename_i e; rw [← e]; simp
    · rename_i e; rw [if_neg e] at hb; exact List.mem_cons_of_mem _ (ih hb)
theorem mem_iff {l : List Ro} (hu : Ups l) (hs : Some' l) {h : Hd} {b : Be} : (h, b) ∈ l ↔ atB l h = b ∧ b ≠ noB :=
  ⟨fun hm => ⟨atB_mem hu hm, hs _ hm⟩, fun ⟨e, hn⟩ => by rw [← e]; exact atB_some (by rw [e]; exact hn)⟩
/-- rows are what their map is -/
theorem ups_at {l m : List Ro} (hl : Ups l) (hsl : Some' l) (hm : Ups m) (hsm : Some' m) (h : ∀ x, atB l x = atB m x) : l = m :=
  Ups.ext hl hm (fun ⟨k, b⟩ => by rw [mem_iff hl hsl, mem_iff hm hsm, h])

/-- a row put, or taken away -/
def dropH (l : List Ro) (h : Hd) : List Ro := l.filter (fun r => !decide (r.1 = h))
def putH (l : List Ro) (h : Hd) (b : Be) : List Ro := if b = noB then dropH l h else insH (dropH l h) (h, b)
theorem mem_dropH {l : List Ro} {h : Hd} {r : Ro} : r ∈ dropH l h ↔ r ∈ l ∧ r.1 ≠ h := by simp [dropH]
theorem dropH_ups {l : List Ro} (hu : Ups l) (h : Hd) : Ups (dropH l h) := hu.filter _
theorem putH_ups {l : List Ro} (hu : Ups l) (h : Hd) (b : Be) : Ups (putH l h b) := by
  unfold putH
  split
  · exact dropH_ups hu h
  · exact insH_ups (dropH_ups hu h) (fun r hr => (mem_dropH.1 hr).2)
theorem putH_some {l : List Ro} (hs : Some' l) (h : Hd) (b : Be) : Some' (putH l h b) := by
  unfold putH
  split
  · exact fun r hr => hs r (mem_dropH.1 hr).1
  · rename_i e
    intro r hr
    rcases mem_insH.1 hr with rfl | hr
    · exact e
    · exact hs r (mem_dropH.1 hr).1
theorem putH_len {l : List Ro} (h : Hd) (b : Be) : (putH l h b).length ≤ l.length + 1 := by
  have := List.length_filter_le (fun r : Ro => !decide (r.1 = h)) l
  unfold putH
  split
  · unfold dropH; omega
  · rw [insH_len]; unfold dropH; omega
theorem atB_ofMem {l : List Ro} (hu : Ups l) {h : Hd} {b : Be} (hm : b ≠ noB → (h, b) ∈ l) (hn : b = noB → ∀ r ∈ l, r.1 ≠ h) : atB l h = b := by
  by_cases e : b = noB
  · rw [atB_none (hn e), e]
  · exact atB_mem hu (hm e)
theorem atB_putH {l : List Ro} (hu : Ups l) (hs : Some' l) (h : Hd) (b : Be) (x : Hd) : atB (putH l h b) x = if x = h then b else atB l x := by
  refine atB_ofMem (putH_ups hu h b) ?_ ?_
  · intro hb
    split at hb
    · rename_i e; subst e
      rw [if_pos rfl]
      unfold putH
      rw [if_neg hb]
      exact mem_insH.2 (.inl rfl)
    · rename_i e
      rw [if_neg e]
      have := mem_dropH.2 ⟨atB_some hb, e⟩
      unfold putH
      split
      · exact this
      · exact mem_insH.2 (.inr this)
  · intro hb r hr e
    subst e
    by_cases hx : r.1 = h
    · rw [if_pos hx] at hb
      subst hb
      unfold putH at hr
      rw [if_pos rfl] at hr
      exact (mem_dropH.1 hr).2 hx
    · rw [if_neg hx] at hb
      have hr' : r ∈ l := by
        unfold putH at hr
        split at hr
        · exact (mem_dropH.1 hr).1
        · rcases mem_insH.1 hr with e | hr
          · exact absurd (by rw [e]) hx
          · exact (mem_dropH.1 hr).1
      exact hs r hr' ((atB_mem hu (h := r.1) (b := r.2) hr').symm.trans hb)

-- what may be
def roOk (r : Ro) : Bool := inB r.1.1 0 59 && inB r.1.2 0 1000000 && decide (bErr r.2.1 (beL r.2) = 0)
def valT : Int → List Ro → Bool
  | _, [] => true
  | s, r :: l => decide (s < r.1.1) && roOk r && valT r.1.1 l
def valid (l : List Ro) : Bool := valT (-1) l
theorem roOk_none {r : Ro} (h : roOk r = true) : r.2 ≠ noB := fun e => by
  unfold roOk at h
  rw [e] at h
  have : decide (bErr noB.1 (beL noB) = 0) = false := by decide
  rw [this, Bool.and_false] at h
  cases h
theorem roOk_hd {r : Ro} (h : roOk r = true) : (0 ≤ r.1.1 ∧ r.1.1 ≤ 59) ∧ 0 ≤ r.1.2 ∧ r.1.2 ≤ 1000000 := by
  unfold roOk at h
  simp only [Bool.and_eq_true] at h
  exact ⟨inB_t h.1.1, inB_t h.1.2⟩
theorem valT_cons {s : Int} {r : Ro} {l : List Ro} (h : valT s (r :: l) = true) : s < r.1.1 ∧ roOk r = true ∧ valT r.1.1 l = true := by
  unfold valT at h
  simp only [Bool.and_eq_true, decide_eq_true_eq] at h
  exact ⟨h.1.1, h.1.2, h.2⟩
theorem valT_all : ∀ {l : List Ro} {s : Int}, valT s l = true → ∀ r ∈ l, s < r.1.1 ∧ roOk r = true
  | [], _, _, r, hr => by simp at hr
  | x :: l, s, h, r, hr => by
    obtain ⟨h1, h2, h3⟩ := valT_cons h
    rcases List.mem_cons.1 hr with rfl | hr
    · exact ⟨h1, h2⟩
    · have := valT_all h3 r hr; exact ⟨by omega, this.2⟩
theorem valT_ups : ∀ {l : List Ro} {s : Int}, valT s l = true → Ups l
  | [], _, _ => List.Pairwise.nil
  | x :: l, s, h => by
    obtain ⟨h1, h2, h3⟩ := valT_cons h
    exact List.pairwise_cons.2 ⟨fun r hr => .inl (valT_all h3 r hr).1, valT_ups h3⟩
theorem valT_len : ∀ {l : List Ro} {s : Int}, valT s l = true → -1 ≤ s → s ≤ 59 → s + l.length ≤ 59
  | [], s, _, _, h => by simpa using h
  | x :: l, s, h, hs, _ => by
    obtain ⟨h1, h2, h3⟩ := valT_cons h
    have hb := (roOk_hd h2).1
    have := valT_len h3 (by omega) hb.2
    simp only [List.length_cons]; omega
theorem valid_ups {l : List Ro} (h : valid l = true) : Ups l := valT_ups h
theorem valid_some {l : List Ro} (h : valid l = true) : Some' l := fun r hr => roOk_none (valT_all h r hr).2
theorem valid_len {l : List Ro} (h : valid l = true) : l.length ≤ 60 := by
  have := valT_len h (by omega) (by omega); omega

-- what has changed
/-- c is what has changed from fa to fb, in order -/
def Spec (fa fb : Hd → Be) (c : List Ch) : Prop := Ups c ∧ ∀ x : Ch, x ∈ c ↔ (x.2.1 = fa x.1 ∧ x.2.2 = fb x.1 ∧ x.2.1 ≠ x.2.2)
theorem Spec.unique {fa fb : Hd → Be} {c d : List Ch} (h : Spec fa fb c) (k : Spec fa fb d) : c = d := Ups.ext h.1 k.1 (fun x => (h.2 x).trans (k.2 x).symm)
def consC (c : Ch) (l : List Ch) : List Ch := if c.2.1 = c.2.2 then l else c :: l
theorem Spec.cons {fa fb ga gb : Hd → Be} {c : List Ch} {k : Hd} {o n : Be} (h : Spec fa fb c) (hk : ∀ x, ¬ hlt k x → fa x = noB ∧ fb x = noB) (ha : ∀ x, ga x = if k = x then o else fa x) (hb : ∀ x, gb x = if k = x then n else fb x) : Spec ga gb (consC (k, o, n) c) := by
  have hup : ∀ x ∈ c, hlt k x.1 := fun x hx => by
    by_cases e : hlt k x.1
    · exact e
    · obtain ⟨e1, e2⟩ := hk x.1 e
      obtain ⟨a1, a2, a3⟩ := (h.2 x).1 hx
      rw [e1] at a1; rw [e2] at a2
      exact absurd (a1.trans a2.symm) a3
  have hmem : ∀ x : Ch, (x.2.1 = ga x.1 ∧ x.2.2 = gb x.1 ∧ x.2.1 ≠ x.2.2) ↔ (x ∈ c ∨ (x = (k, o, n) ∧ o ≠ n)) := fun x => by
    rw [ha, hb]
    by_cases e : k = x.1
    · rw [if_pos e, if_pos e]
      have hx : ¬ x ∈ c := fun hx => hlt_irrefl _ (e ▸ hup x hx)
      constructor
      · rintro ⟨a1, a2, a3⟩
        exact .inr ⟨Prod.ext e.symm (Prod.ext a1 a2), by rw [← a1, ← a2]; exact a3⟩
      · rintro (hx' | ⟨rfl, hn⟩)
        · exact absurd hx' hx
        · exact ⟨rfl, rfl, hn⟩
    · rw [if_neg e, if_neg e, ← h.2 x]
      exact ⟨.inl, fun hx => hx.elim id (fun ⟨e', _⟩ => absurd (by rw [e']) e)⟩
  unfold consC
  split
  · rename_i e
    exact ⟨h.1, fun x => by rw [hmem]; exact ⟨.inl, fun hx => hx.elim id (fun ⟨_, hn⟩ => absurd e hn)⟩⟩
  · rename_i e
    refine ⟨List.pairwise_cons.2 ⟨hup, h.1⟩, fun x => ?_⟩
    rw [hmem, List.mem_cons]
    exact ⟨fun hx => hx.elim (fun e' => .inr ⟨e', e⟩) .inl, fun hx => hx.elim .inr (fun ⟨e', _⟩ => .inl e')⟩
/-- two lists side by side -/
def mrg : List Ro → List Ro → List Ch
  | [], [] => []
  | r :: a, [] => consC (r.1, r.2, noB) (mrg a [])
  | [], s :: b => consC (s.1, noB, s.2) (mrg [] b)
  | r :: a, s :: b => if hlt r.1 s.1 then consC (r.1, r.2, noB) (mrg a (s :: b)) else if hlt s.1 r.1 then consC (s.1, noB, s.2) (mrg (r :: a) b) else consC (r.1, r.2, s.2) (mrg a b)
termination_by a b => a.length + b.length
theorem above {l : List Ro} {k x : Hd} (hk : ∀ r ∈ l, hlt k r.1) (hx : ¬ hlt k x) : atB l x = noB := atB_none (fun r hr e => hx (e ▸ hk r hr))
theorem mrg_spec : ∀ (n : Nat) (a b : List Ro), a.length + b.length ≤ n → Ups a → Ups b → Spec (atB a) (atB b) (mrg a b)
  | _, [], [], _, _, _ => by rw [mrg]; exact ⟨List.Pairwise.nil, fun x => ⟨fun h => by simp at h, fun ⟨a1, a2, a3⟩ => absurd (a1.trans a2.symm) a3⟩⟩
  | 0, r :: a, [], h, _, _ => by simp at h
  | 0, [], s :: b, h, _, _ => by simp at h
  | 0, r :: a, s :: b, h, _, _ => by simp at h
  | n + 1, r :: a, [], h, ha, _ => by
    obtain ⟨h1, h2⟩ := List.pairwise_cons.1 ha
    rw [mrg]
    refine (mrg_spec n a [] (by simp at h ⊢; omega) h2 List.Pairwise.nil).cons (fun x hx => ⟨above h1 hx, rfl⟩) (fun x => rfl) (fun x => ?_)
    split <;> rfl
  | n + 1, [], s :: b, h, _, hb => by
    obtain ⟨h1, h2⟩ := List.pairwise_cons.1 hb
    rw [mrg]
    refine (mrg_spec n [] b (by simp at h ⊢; omega) List.Pairwise.nil h2).cons (fun x hx => ⟨rfl, above h1 hx⟩) (fun x => ?_) (fun x => rfl)
    split <;> rfl
  | n + 1, r :: a, s :: b, h, ha, hb => by
    obtain ⟨a1, a2⟩ := List.pairwise_cons.1 ha
    obtain ⟨b1, b2⟩ := List.pairwise_cons.1 hb
    rw [mrg]
    split
    · rename_i e
      have hs : ∀ x ∈ s :: b, hlt r.1 x.1 := fun x hx => by
        rcases List.mem_cons.1 hx with rfl | hx
        · exact e
        · exact hlt_trans e (b1 x hx)
      refine (mrg_spec n a (s :: b) (by simp at h ⊢; omega) a2 hb).cons (fun x hx => ⟨above a1 hx, above hs hx⟩) (fun x => rfl) (fun x => ?_)
      split
      · rename_i e'; subst e'; exact above hs (hlt_irrefl _)
      · rfl
    · rename_i e
      split
      · rename_i e2
        have hs : ∀ x ∈ r :: a, hlt s.1 x.1 := fun x hx => by
          rcases List.mem_cons.1 hx with rfl | hx
          · exact e2
          · exact hlt_trans e2 (a1 x hx)
        refine (mrg_spec n (r :: a) b (by simp at h ⊢; omega) ha b2).cons (fun x hx => ⟨above hs hx, above b1 hx⟩) (fun x => ?_) (fun x => rfl)
        split
        · rename_i e'; subst e'; exact above hs (hlt_irrefl _)
        · rfl
      · rename_i e2
        have e3 : r.1 = s.1 := ((hlt_tri r.1 s.1).resolve_left e).resolve_right e2
        refine (mrg_spec n a b (by simp at h ⊢; omega) a2 b2).cons (fun x hx => ⟨above a1 hx, above (e3 ▸ b1) hx⟩) (fun x => rfl) (fun x => by rw [e3]; rfl)
theorem consC_len (c : Ch) (l : List Ch) : (consC c l).length ≤ l.length + 1 := by unfold consC; split <;> simp
theorem mrg_len : ∀ (n : Nat) (a b : List Ro), a.length + b.length ≤ n → (mrg a b).length ≤ a.length + b.length
  | _, [], [], _ => by rw [mrg]; simp
  | 0, r :: a, [], h => by simp at h
  | 0, [], s :: b, h => by simp at h
  | 0, r :: a, s :: b, h => by simp at h
  | n + 1, r :: a, [], h => by
    rw [mrg]
    have := mrg_len n a [] (by simp at h ⊢; omega)
    refine Nat.le_trans (consC_len _ _) ?_
    simp at this ⊢; omega
  | n + 1, [], s :: b, h => by
    rw [mrg]
    have := mrg_len n [] b (by simp at h ⊢; omega)
    refine Nat.le_trans (consC_len _ _) ?_
    simp at this ⊢; omega
  | n + 1, r :: a, s :: b, h => by
    rw [mrg]
    split
    · have := mrg_len n a (s :: b) (by simp at h ⊢; omega)
      refine Nat.le_trans (consC_len _ _) ?_
      simp at this ⊢; omega
    · split
      · have := mrg_len n (r :: a) b (by simp at h ⊢; omega)
        refine Nat.le_trans (consC_len _ _) ?_
        simp at this ⊢; omega
      · have := mrg_len n a b (by simp at h; omega)
        refine Nat.le_trans (consC_len _ _) ?_
        simp at this ⊢; omega
theorem mrgS {a b : List Ro} (ha : Ups a) (hb : Ups b) : Spec (atB a) (atB b) (mrg a b) := mrg_spec _ a b (Nat.le_refl _) ha hb
def swapC (c : Ch) : Ch := (c.1, c.2.2, c.2.1)
def invC (l : List Ch) : List Ch := (l.map swapC).reverse
theorem swap_swap (c : Ch) : swapC (swapC c) = c := rfl
theorem inv_inv (l : List Ch) : invC (invC l) = l := by
  unfold invC
  rw [List.map_reverse, List.reverse_reverse, List.map_map]
  exact (List.map_congr_left (fun c _ => swap_swap c)).trans (List.map_id _)
theorem inv_len (l : List Ch) : (invC l).length = l.length := by simp [invC]
theorem inv_cons (c : Ch) (l : List Ch) : invC (c :: l) = invC l ++ [swapC c] := by simp [invC]
theorem mrg_swap {a b : List Ro} (ha : Ups a) (hb : Ups b) : (mrg a b).length = (mrg b a).length := by
  have h := mrgS ha hb
  have e : mrg b a = (mrg a b).map swapC := (mrgS hb ha).unique ⟨by
    unfold Ups
    rw [List.pairwise_map]
    exact h.1, fun x => by
    rw [show x ∈ (mrg a b).map swapC ↔ swapC x ∈ mrg a b from ⟨fun hx => by obtain ⟨y, hy, rfl⟩ := List.mem_map.1 hx; exact hy, fun hx => List.mem_map.2 ⟨_, hx, rfl⟩⟩, h.2]
    exact ⟨fun ⟨a1, a2, a3⟩ => ⟨a2, a1, fun e => a3 e.symm⟩, fun ⟨a1, a2, a3⟩ => ⟨a2, a1, fun e => a3 e.symm⟩⟩⟩
  rw [e, List.length_map]
theorem mrg_none {a b : List Ro} (ha : valid a = true) (hb : valid b = true) : mrg a b = [] ↔ a = b := by
  have h := mrgS (valid_ups ha) (valid_ups hb)
  constructor
  · intro e
    rw [e] at h
    refine ups_at (valid_ups ha) (valid_some ha) (valid_ups hb) (valid_some hb) (fun x => ?_)
    by_cases e' : atB a x = atB b x
    · exact e'
    · have := (h.2 (x, atB a x, atB b x)).2 ⟨rfl, rfl, e'⟩
      simp at this
  · rintro rfl
    refine List.eq_nil_iff_forall_not_mem.2 (fun x hx => ?_)
    obtain ⟨a1, a2, a3⟩ := (h.2 x).1 hx
    exact a3 (a1.trans a2.symm)

-- changes done
def stepE (l : List Ro) (c : Ch) : Int := if c.2.1 = c.2.2 then 4 else if atB l c.1 = c.2.1 then 0 else 5
def runL : List Ro → List Ch → Int × List Ro
  | l, [] => (0, l)
  | l, c :: cs => if stepE l c = 0 then runL (putH l c.1 c.2.2) cs else (stepE l c, l)
theorem stepE_zero {l : List Ro} {c : Ch} : stepE l c = 0 ↔ c.2.1 ≠ c.2.2 ∧ atB l c.1 = c.2.1 := by
  unfold stepE
  split
  · rename_i e; simp [e]
  · rename_i e
    split
    · rename_i e2; simp [e, e2]
    · rename_i e2; simp [e2]
theorem run_cons {l : List Ro} {c : Ch} {cs : List Ch} (h : stepE l c = 0) : runL l (c :: cs) = runL (putH l c.1 c.2.2) cs := by rw [runL, if_pos h]
theorem run_stop {l : List Ro} {c : Ch} {cs : List Ch} (h : stepE l c ≠ 0) : runL l (c :: cs) = (stepE l c, l) := by rw [runL, if_neg h]
theorem run_app : ∀ {xs ys : List Ch} {l m : List Ro}, runL l xs = (0, m) → runL l (xs ++ ys) = runL m ys
  | [], ys, l, m, h => by rw [runL] at h; obtain rfl := (Prod.ext_iff.1 h).2; rfl
  | x :: xs, ys, l, m, h => by
    by_cases e : stepE l x = 0
    · rw [run_cons e] at h
      rw [List.cons_append, run_cons e]
      exact run_app h
    · rw [run_stop e] at h
      exact absurd (Prod.ext_iff.1 h).1 e
theorem run_keeps : ∀ {xs : List Ch} {l : List Ro}, Ups l → Some' l → Ups (runL l xs).2 ∧ Some' (runL l xs).2 ∧ (runL l xs).2.length ≤ l.length + xs.length
  | [], l, hu, hs => by rw [runL]; exact ⟨hu, hs, by simp⟩
  | x :: xs, l, hu, hs => by
    by_cases e : stepE l x = 0
    · rw [run_cons e]
      obtain ⟨h1, h2, h3⟩ := run_keeps (xs := xs) (putH_ups hu x.1 x.2.2) (putH_some hs x.1 x.2.2)
      have := putH_len (l := l) x.1 x.2.2
      exact ⟨h1, h2, by simp only [List.length_cons]; omega⟩
    · rw [run_stop e]; exact ⟨hu, hs, by simp⟩
theorem run_spec : ∀ {c : List Ch} {a : List Ro} {fb : Hd → Be}, Ups a → Some' a → Spec (atB a) fb c → (runL a c).1 = 0 ∧ ∀ x, atB (runL a c).2 x = fb x
  | [], a, fb, _, _, h => by
    rw [runL]
    refine ⟨rfl, fun x => ?_⟩
    by_cases e : atB a x = fb x
    · exact e
    · have := (h.2 (x, atB a x, fb x)).2 ⟨rfl, rfl, e⟩
      simp at this
  | c :: cs, a, fb, hu, hs, h => by
    obtain ⟨h1, h2⟩ := List.pairwise_cons.1 h.1
    obtain ⟨c1, c2, c3⟩ := (h.2 c).1 (by simp)
    rw [run_cons (stepE_zero.2 ⟨c3, c1.symm⟩)]
    refine run_spec (putH_ups hu _ _) (putH_some hs _ _) ⟨h2, fun x => ?_⟩
    rw [atB_putH hu hs]
    by_cases e : x.1 = c.1
    · rw [if_pos e]
      constructor
      · intro hx
        have := h1 x hx
        rw [e] at this
        exact absurd this (hlt_irrefl _)
      · rintro ⟨a1, a2, a3⟩
        rw [e, ← c2] at a2
        exact absurd (a1.trans a2.symm) a3
    · rw [if_neg e, ← h.2 x, List.mem_cons]
      exact ⟨.inr, fun hx => hx.resolve_left (fun e' => e (by rw [e']))⟩
theorem run_inv : ∀ {c : List Ch} {l m : List Ro}, Ups l → Some' l → runL l c = (0, m) → runL m (invC c) = (0, l)
  | [], l, m, _, _, h => by rw [runL] at h; obtain rfl := (Prod.ext_iff.1 h).2; rfl
  | c :: cs, l, m, hu, hs, h => by
    by_cases e : stepE l c = 0
    · rw [run_cons e] at h
      obtain ⟨e1, e2⟩ := stepE_zero.1 e
      have hu1 := putH_ups hu c.1 c.2.2
      have hs1 := putH_some hs c.1 c.2.2
      rw [inv_cons, run_app (run_inv hu1 hs1 h)]
      have e3 : stepE (putH l c.1 c.2.2) (swapC c) = 0 := stepE_zero.2 ⟨fun x => e1 x.symm, by rw [atB_putH hu hs]; exact if_pos rfl⟩
      rw [run_cons e3, runL]
      refine Prod.ext rfl (ups_at (putH_ups hu1 (swapC c).1 (swapC c).2.2) (putH_some hs1 (swapC c).1 (swapC c).2.2) hu hs (fun x => ?_))
      rw [atB_putH hu1 hs1, atB_putH hu hs]
      split
      · rename_i e4; rw [e4]; exact e2.symm
      · rename_i e4; exact if_neg e4
    · rw [run_stop e] at h
      exact absurd (Prod.ext_iff.1 h).1 e

/-- what Apply answers -/
def appE (l : List Ro) (c : List Ch) : Int := if valid l = true then (if c.length ≤ 120 then (if (runL l c).1 = 0 then (if valid (runL l c).2 = true then 0 else 4) else (runL l c).1) else 2) else 4
def appR (l : List Ro) (c : List Ch) : List Ro := if appE l c = 0 then (runL l c).2 else []
theorem run_err : ∀ {c : List Ch} {l : List Ro}, (runL l c).1 = 0 ∨ (runL l c).1 = 4 ∨ (runL l c).1 = 5
  | [], l => .inl rfl
  | c :: cs, l => by
    by_cases e : stepE l c = 0
    · rw [run_cons e]; exact run_err
    · rw [run_stop e]
      unfold stepE at e ⊢
      split
      · exact .inr (.inl rfl)
      · split
        · exact .inl rfl
        · exact .inr (.inr rfl)
theorem appE_zero {l : List Ro} {c : List Ch} : appE l c = 0 ↔ valid l = true ∧ c.length ≤ 120 ∧ (runL l c).1 = 0 ∧ valid (runL l c).2 = true := by
  unfold appE
  split
  · split
    · split
      · split
        · rename_i a b c d; simp [a, b, c, d]
        · rename_i a b c d; simp [d]
      · rename_i a b c; simp [c]
    · rename_i a b; simp [b]
  · rename_i a; simp [a]
theorem appE_ok {l m : List Ro} {c : List Ch} (hl : valid l = true) (hc : c.length ≤ 120) (h : runL l c = (0, m)) (hm : valid m = true) : appE l c = 0 ∧ appR l c = m := by
  have h0 : appE l c = 0 := appE_zero.2 ⟨hl, hc, by rw [h], by rw [h]; exact hm⟩
  exact ⟨h0, by unfold appR; rw [if_pos h0, h]⟩
theorem run_mrg {a b : List Ro} (ha : valid a = true) (hb : valid b = true) : runL a (mrg a b) = (0, b) := by
  have h := run_spec (valid_ups ha) (valid_some ha) (mrgS (valid_ups ha) (valid_ups hb))
  have k := run_keeps (xs := mrg a b) (valid_ups ha) (valid_some ha)
  exact Prod.ext h.1 (ups_at k.1 k.2.1 (valid_ups hb) (valid_some hb) h.2)
theorem mrg_120 {a b : List Ro} (ha : valid a = true) (hb : valid b = true) : (mrg a b).length ≤ 120 := by
  have := mrg_len _ a b (Nat.le_refl _)
  have h1 := valid_len ha
  have h2 := valid_len hb
  omega
/-- from the first to the second, and back -/
theorem app_mrg {a b : List Ro} (ha : valid a = true) (hb : valid b = true) : (appE a (mrg a b) = 0 ∧ appR a (mrg a b) = b) ∧ appE b (invC (mrg a b)) = 0 ∧ appR b (invC (mrg a b)) = a :=
  ⟨appE_ok ha (mrg_120 ha hb) (run_mrg ha hb) hb, appE_ok hb (by rw [inv_len]; exact mrg_120 ha hb) (run_inv (valid_ups ha) (valid_some ha) (run_mrg ha hb)) ha⟩
theorem app_through {a b c : List Ro} (ha : valid a = true) (hb : valid b = true) (hc : valid c = true) (hl : (mrg a b).length + (mrg b c).length ≤ 120) : appE a (mrg a b ++ mrg b c) = 0 ∧ appR a (mrg a b ++ mrg b c) = c :=
  appE_ok ha (by rw [List.length_append]; exact hl) (by rw [run_app (run_mrg ha hb)]; exact run_mrg hb hc) hc
theorem app_twice {l : List Ro} {c : List Ch} (h : appE l c = 0) : appE (appR l c) (invC c) = 0 ∧ appR (appR l c) (invC c) = l := by
  obtain ⟨h1, h2, h3, h4⟩ := appE_zero.1 h
  unfold appR
  rw [if_pos h]
  have := appE_ok (m := l) h4 (by rw [inv_len]; exact h2) (run_inv (valid_ups h1) (valid_some h1) (Prod.ext h3 rfl)) h1
  exact this
end Go.Proofs.YtnmlapoiilckhaaDoor

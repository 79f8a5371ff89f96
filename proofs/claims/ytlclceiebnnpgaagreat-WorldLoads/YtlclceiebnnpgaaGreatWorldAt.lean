/- A world in memory: its object, the two maps, the tables; and what stays true of it. -/
import Derived.Test.YtlclceiebnnpgaaGreatPlaces
import Derived.Test.YtlclceiebnnpgaaGreatTables
import Derived.Test.YtlclceiebnnpgaaGreatGroundA
import Derived.Test.YtlclceiebnnpgaaGreatGroundB
namespace Go.Proofs.YtlclceiebnnpgaaGreat
open Go.RowKit

def plV (tb : Int → Nat) (pl : Int × Int → Int × Nat) (h : Int × Int) : Value := .agg #[.pointer (some ⟨tb (pl h).1, 0, none⟩), .int .i64 (pl h).2]

/-- The two maps: none yet, or in blocks of their own. -/
def MapsAt (w : World) (F : Nat → Prop) (c : Nat → Int) (tm pm : Value) (ks : List Int) (tb : Int → Nat) (hk : List (Int × Int)) (pl : Int × Int → Int × Nat) : Prop :=
  (tm = .map none ∧ pm = .map none ∧ ks = [] ∧ hk = []) ∨ ∃ mt mp, tm = .map (some mt) ∧ pm = .map (some mp) ∧ MapIs kInt w mt ks.length ks (ptrOf tb) ∧ MapIs kHand w mp hk.length hk (plV tb pl) ∧ (F mt ∧ c mt = -2) ∧ (F mp ∧ c mp = -3)

/-- A world at block p, in the blocks F; c: to which part each block belongs. -/
structure WldIs (w : World) (p : Nat) (F : Nat → Prop) (c : Nat → Int) (l : List (Int × Bool)) (tm pm : Value) (ks : List Int) (tb : Int → Nat) (tr : Int → List Rw) (hk : List (Int × Int)) (pl : Int × Int → Int × Nat) (R : Rw → Prop) : Prop where
  slots : SlotsIn w p 65 [tm, pm] (fun b => F b ∧ c b = -1) l
  maps : MapsAt w F c tm pm ks tb hk pl
  tabs : Fam w ks tb F c tr
  laid : Laid ks tr hk pl R
  lt : ∀ b, F b → b < w.heap.size
/-- At block p lies a world with these slots and rows, in the blocks F. -/
def WldAt (w : World) (p : Nat) (F : Nat → Prop) (l : List (Int × Bool)) (R : Rw → Prop) : Prop := ∃ c tm pm ks tb tr hk pl, WldIs w p F c l tm pm ks tb tr hk pl R

section
variable {w w' : World} {p : Nat} {F : Nat → Prop} {c : Nat → Int} {l : List (Int × Bool)} {tm pm : Value} {ks : List Int} {tb : Int → Nat} {tr : Int → List Rw} {hk : List (Int × Int)} {pl : Int × Int → Int × Nat} {R : Rw → Prop}

theorem MapsAt.kept {H : Nat → Prop} (h : MapsAt w F c tm pm ks tb hk pl) (hkp : Kept H w w') (h2 : ∀ b, F b → c b = -2 → ¬ H b) (h3 : ∀ b, F b → c b = -3 → ¬ H b) : MapsAt w' F c tm pm ks tb hk pl := by
  rcases h with h | ⟨mt, mp, rfl, rfl, m1, m2, e1, e2⟩
  · exact .inl h
  · exact .inr ⟨mt, mp, rfl, rfl, m1.kept hkp (h2 mt e1.1 e1.2), m2.kept hkp (h3 mp e2.1 e2.2), e1, e2⟩
theorem MapsAt.mono {G : Nat → Prop} {d : Nat → Int} (h : MapsAt w F c tm pm ks tb hk pl) (hg : ∀ b, b < w.heap.size → F b → G b ∧ d b = c b) : MapsAt w G d tm pm ks tb hk pl := by
  rcases h with h | ⟨mt, mp, rfl, rfl, m1, m2, e1, e2⟩
  · exact .inl h
  · exact .inr ⟨mt, mp, rfl, rfl, m1, m2, ⟨(hg mt m1.lt e1.1).1, (hg mt m1.lt e1.1).2.trans e1.2⟩, ⟨(hg mp m2.lt e2.1).1, (hg mp m2.lt e2.1).2.trans e2.2⟩⟩
theorem SlotsIn.mono {T : TypeId} {rest : List Value} {G : Nat → Prop} (h : SlotsIn w p T rest F l) (hg : ∀ b, F b → G b) (hl : ∀ b, G b → b < w.heap.size) : SlotsIn w p T rest G l := by
  obtain ⟨v, hp, ho, hF, hv, hlt⟩ := h
  exact ⟨v, hp, ho, hg p hF, fun k e => ⟨hg k (hv k e).1, (hv k e).2⟩, hl⟩
theorem SlotsIn.at_ {T : TypeId} {rest : List Value} (h : SlotsIn w p T rest F l) : F p := by obtain ⟨v, hp, ho, hF, hv, hlt⟩ := h; exact hF
theorem SlotsIn.cell {T : TypeId} {tm pm : Value} (h : SlotsIn w p T [tm, pm] F l) : w.cell? ⟨p, 1, none⟩ = some tm ∧ w.cell? ⟨p, 2, none⟩ = some pm := by
  obtain ⟨v, hp, _⟩ := h
  exact ⟨by rw [cell_of_row _ _ _ _ _ _ hp]; rfl, by rw [cell_of_row _ _ _ _ _ _ hp]; rfl⟩
theorem Fam.mono {G : Nat → Prop} {d : Nat → Int} (h : Fam w ks tb F c tr) (hg : ∀ b, b < w.heap.size → F b → G b ∧ d b = c b) (hl : ∀ b, G b → b < w.heap.size) : Fam w ks tb G d tr := fun k hk =>
  (h k hk).mono (fun b hb => ⟨(hg b ((h k hk).lt b hb) hb.1).1, (hg b ((h k hk).lt b hb) hb.1).2.trans hb.2⟩) (fun b hb => hl b hb.1)

theorem WldIs.kept {H : Nat → Prop} (h : WldIs w p F c l tm pm ks tb tr hk pl R) (hkp : Kept H w w') (hf : ∀ b, F b → ¬ H b) : WldIs w' p F c l tm pm ks tb tr hk pl R :=
  ⟨h.slots.kept hkp (fun b hb => hf b hb.1), h.maps.kept hkp (fun b hb _ => hf b hb) (fun b hb _ => hf b hb), h.tabs.kept hkp hf, h.laid, fun b hb => Nat.lt_of_lt_of_le (h.lt b hb) hkp.size⟩
theorem WldIs.later (h : WldIs w p F c l tm pm ks tb tr hk pl R) (hb : Below w.heap.size w w') : WldIs w' p F c l tm pm ks tb tr hk pl R :=
  h.kept (H := fun _ => False) (Kept.ofBelow hb) (fun _ _ => id)
theorem WldIs.congr {R' : Rw → Prop} (h : WldIs w p F c l tm pm ks tb tr hk pl R) (e : ∀ r, R r ↔ R' r) : WldIs w p F c l tm pm ks tb tr hk pl R' := ⟨h.slots, h.maps, h.tabs, h.laid.congr e, h.lt⟩
theorem WldIs.at_ (h : WldIs w p F c l tm pm ks tb tr hk pl R) : F p ∧ c p = -1 := h.slots.at_
theorem WldIs.cell1 (h : WldIs w p F c l tm pm ks tb tr hk pl R) : w.cell? ⟨p, 1, none⟩ = some tm := h.slots.cell.1
theorem WldIs.cell2 (h : WldIs w p F c l tm pm ks tb tr hk pl R) : w.cell? ⟨p, 2, none⟩ = some pm := h.slots.cell.2
theorem WldIs.plt (h : WldIs w p F c l tm pm ks tb tr hk pl R) : p < w.heap.size := h.lt p h.at_.1
theorem WldAt.kept {H : Nat → Prop} (h : WldAt w p F l R) (hkp : Kept H w w') (hf : ∀ b, F b → ¬ H b) : WldAt w' p F l R := by
  obtain ⟨c, tm, pm, ks, tb, tr, hk, pl, h⟩ := h
  exact ⟨c, tm, pm, ks, tb, tr, hk, pl, h.kept hkp hf⟩
theorem WldAt.later (h : WldAt w p F l R) (hb : Below w.heap.size w w') : WldAt w' p F l R := h.kept (H := fun _ => False) (Kept.ofBelow hb) (fun _ _ => id)
theorem WldAt.congr {R' : Rw → Prop} (h : WldAt w p F l R) (e : ∀ r, R r ↔ R' r) : WldAt w p F l R' := by
  obtain ⟨c, tm, pm, ks, tb, tr, hk, pl, h⟩ := h
  exact ⟨c, tm, pm, ks, tb, tr, hk, pl, h.congr e⟩
theorem WldAt.lt (h : WldAt w p F l R) : ∀ b, F b → b < w.heap.size := by
  obtain ⟨c, tm, pm, ks, tb, tr, hk, pl, h⟩ := h; exact h.lt
theorem WldAt.at_ (h : WldAt w p F l R) : F p := by
  obtain ⟨c, tm, pm, ks, tb, tr, hk, pl, h⟩ := h; exact h.at_.1
theorem growF_lt (hl : ∀ b, F b → b < w.heap.size) (hs : w.heap.size ≤ w'.heap.size) : ∀ b, growF F w w' b → b < w'.heap.size := fun b hb => by
  rcases hb with hb | hb
  · exact Nat.lt_of_lt_of_le (hl b hb) hs
  · exact hb.2
theorem grow_old (hl : ∀ b, F b → b < w.heap.size) (k : Int) : ∀ b, F b → growF F w w' b ∧ growC c w k b = c b := fun b hb => ⟨.inl hb, growC_old (hl b hb)⟩

/-- The slots have been turned. -/
theorem WldIs.slotStep {l' : List (Int × Bool)} {F' : Nat → Prop} (h : WldIs w p F c l tm pm ks tb tr hk pl R) (hs : SlotsIn w' p 65 [tm, pm] F' l') (hkp : Kept (fun b => F b ∧ c b = -1) w w') (hm : Moves w (fun b => F b ∧ c b = -1) F') :
    WldIs w' p (growF F w w') (growC c w (-1)) l' tm pm ks tb tr hk pl R ∧ Kept F w w' := by
  have hl := growF_lt h.lt hkp.size
  refine ⟨⟨hs.mono (fun b hb => ?_) (fun b hb => hl b hb.1), ?_, ?_, h.laid, hl⟩, hkp.mono (fun b hb => .inl hb.1)⟩
  · rcases hm b hb with h1 | h1
    · exact ⟨.inl h1.1, (growC_old (h.lt b h1.1)).trans h1.2⟩
    · exact ⟨.inr ⟨h1, hs.lt b hb⟩, growC_new h1⟩
  · exact (h.maps.kept hkp (fun b _ e hb => by rw [e] at hb; exact absurd hb.2 (by decide)) (fun b _ e hb => by rw [e] at hb; exact absurd hb.2 (by decide))).mono (fun b _ hb => grow_old h.lt _ b hb)
  · refine Fam.mono (F := F) (c := c) (fun k hk' => (h.tabs k hk').kept hkp (fun b hb hb' => ?_)) (fun b _ hb => grow_old h.lt _ b hb) hl
    have := (h.laid.key k hk').1
    rw [hb.2] at hb'
    exact absurd hb'.2 (by omega)
/-- The maps are made. -/
theorem WldIs.make {mt mp : Nat} (h : WldIs w p F c l (.map none) (.map none) ks tb tr hk pl R) (hkp : Kept (fun b => b = p) w w') (hp : ∀ v, w.heap[p]? = some (.cells #[v, .map none, .map none] 65 (0, 0)) → w'.heap[p]? = some (.cells #[v, .map (some mt), .map (some mp)] 65 (0, 0)))
    (h1 : MapIs kInt w' mt 0 [] (ptrOf tb)) (h2 : MapIs kHand w' mp 0 [] (plV tb pl)) (e1 : w.heap.size ≤ mt) (e2 : w.heap.size ≤ mp) (e3 : mt ≠ mp) :
    ∃ F' c', WldIs w' p F' c' l (.map (some mt)) (.map (some mp)) ks tb tr hk pl R ∧ Kept F w w' ∧ Moves w F F' := by
  have hks : ks = [] ∧ hk = [] := by
    rcases h.maps with ⟨_, _, e, e'⟩ | ⟨_, _, e, _⟩
    · exact ⟨e, e'⟩
    · cases e
  obtain ⟨rfl, rfl⟩ := hks
  have hl := growF_lt h.lt hkp.size
  have hpF := h.at_
  obtain ⟨v, hpv, ho, hF, hv, hlt⟩ := h.slots
  have hold : ∀ b, F b → (fun b => if b = mt then (-2 : Int) else if b = mp then -3 else c b) b = c b := fun b hb => by
    have := h.lt b hb
    simp only
    rw [if_neg (by omega), if_neg (by omega)]
  refine ⟨growF F w w', fun b => if b = mt then -2 else if b = mp then -3 else c b, ⟨⟨v, hp v (by simpa using hpv), ?_, ⟨.inl hF.1, (hold p hF.1).trans hF.2⟩, fun k e => ⟨⟨.inl (hv k e).1.1, (hold k (hv k e).1.1).trans (hv k e).1.2⟩, (hv k e).2⟩, fun b hb => hl b hb.1⟩, .inr ⟨mt, mp, rfl, rfl, h1, h2, ⟨.inr ⟨e1, h1.lt⟩, by simp⟩, ⟨.inr ⟨e2, h2.lt⟩, by simp [Ne.symm e3]⟩⟩, fun k hk' => by simp at hk', h.laid, hl⟩, hkp.mono (fun b e => .inl (by rw [e]; exact hpF.1)), growF_moves F w w'⟩
  exact ho.kept hkp (fun k e => (hv k e).2)
/-- A set gets its table. -/
theorem WldIs.newTab {k : Int} {q mt : Nat} {F' : Nat → Prop} {w'' : World} (h : WldIs w p F c l (.map (some mt)) pm ks tb tr hk pl R) (hn : ¬ k ∈ ks) (h0 : 0 ≤ k) (h1 : k ≤ 255) (ht : TableAt w' q F' k []) (hb : Below w.heap.size w w') (hF' : ∀ b, F' b → w.heap.size ≤ b)
    (hkp : Kept (fun b => b = mt) w' w'') (hmt : MapIs kInt w'' mt (ks ++ [k]).length (ks ++ [k]) (fun j => if j = k then .pointer (some ⟨q, 0, none⟩) else ptrOf tb j)) :
    ∃ F'' c'', WldIs w'' p F'' c'' l (.map (some mt)) pm (ks ++ [k]) (fun j => if j = k then q else tb j) tr hk pl R ∧ Kept F w w'' ∧ Moves w F F'' := by
  obtain ⟨hfam, hl⟩ := h.tabs.add h.lt hn ht hb hF'
  have hmaps := h.maps
  rcases hmaps with ⟨e, _⟩ | ⟨mt', mp, e, rfl, m1, m2, c1, c2⟩
  · cases e
  obtain rfl : mt = mt' := by simpa using e
  have hmtF : F mt := c1.1
  have hnot : ∀ b, F b → b = mt → c b = -2 := fun b _ e => by rw [e]; exact c1.2
  have hgt : ¬ growF F w w' mt → False := fun h => h (.inl hmtF)
  have hl2 : ∀ b, growF F w w' b → b < w''.heap.size := fun b hb' => Nat.lt_of_lt_of_le (hl b hb') hkp.size
  have hold := grow_old (w' := w') (c := c) h.lt k
  refine ⟨growF F w w', growC c w k, ⟨?_, ?_, ?_, h.laid.addK hn h0 h1, hl2⟩, (Kept.ofBelow hb).trans hkp (fun b e => .inl (by rw [e]; exact hmtF)), growF_moves F w w'⟩
  · refine ((h.slots.later hb).kept hkp (fun b hb' e => ?_)).mono (fun b hb' => ⟨(hold b hb'.1).1, (hold b hb'.1).2.trans hb'.2⟩) (fun b hb' => hl2 b hb'.1)
    rw [e, c1.2] at hb'; exact absurd hb'.2 (by decide)
  · refine .inr ⟨mt, mp, rfl, rfl, hmt.congr (fun j _ => ?_), ?_, ⟨(hold mt c1.1).1, (hold mt c1.1).2.trans c1.2⟩, ⟨(hold mp c2.1).1, (hold mp c2.1).2.trans c2.2⟩⟩
    · by_cases e : j = k <;> simp [ptrOf, e]
    · refine ((m2.later hb).kept hkp (fun e => ?_)).congr (fun x hx => ?_)
      · rw [e, c1.2] at c2; exact absurd c2.2 (by decide)
      · have hne : ¬ (pl x).1 = k := fun e => hn (by rw [← e]; exact (h.laid.at_ x hx).1)
        simp [plV, hne]
  · refine Fam.congr (rows := fun j => if j = k then [] else tr j) (fun j hj => ?_) (fun j _ => ?_)
    · refine ((hfam j hj).kept hkp (fun b hb' e => ?_))
      rw [e, growC_old (h.lt mt hmtF), c1.2] at hb'
      have : 0 ≤ j := by
        rcases List.mem_append.1 hj with h1 | h1
        · exact (h.laid.key j h1).1
        · simp at h1; omega
      omega
    · split
      · rename_i e; subst e; exact (h.laid.out _ hn).symm
      · rfl
/-- A row has come into its table and got its place. -/
theorem WldIs.addRow {r : Rw} {mp : Nat} {F' : Nat → Prop} {w'' : World} (h : WldIs w p F c l tm (.map (some mp)) ks tb tr hk pl R) (hm : r.m ∈ ks) (hb : bErr r.m [r.f 0, r.f 1, r.f 2, r.f 3, r.f 4, r.f 5, r.f 6, r.f 7] = 0) (hn : ¬ hd r ∈ hk)
    (ht : TableAt w' (tb r.m) F' r.m (tr r.m ++ [r])) (hk1 : Kept (fun b => F b ∧ c b = r.m) w w') (hm1 : Moves w (fun b => F b ∧ c b = r.m) F')
    (hk2 : Kept (fun b => b = mp) w' w'') (hmp : MapIs kHand w'' mp (hk ++ [hd r]).length (hk ++ [hd r]) (fun x => if x = hd r then .agg #[.pointer (some ⟨tb r.m, 0, none⟩), .int .i64 (tr r.m).length] else plV tb pl x)) :
    ∃ F'' c'', WldIs w'' p F'' c'' l tm (.map (some mp)) ks tb (fun j => if j = r.m then tr r.m ++ [r] else tr j) (hk ++ [hd r]) (fun x => if x = hd r then (r.m, (tr r.m).length) else pl x) (fun x => x = r ∨ R x) ∧ Kept F w w'' ∧ Moves w F F'' := by
  obtain ⟨hfam, hkF, hl⟩ := h.tabs.step h.lt ht hk1 hm1
  have h0 := (h.laid.key _ hm).1
  rcases h.maps with ⟨_, e, _⟩ | ⟨mt, mp', rfl, e, m1, m2, c1, c2⟩
  · cases e
  obtain rfl : mp = mp' := by simpa using e
  have hold := grow_old (w' := w') (c := c) h.lt r.m
  have hl2 : ∀ b, growF F w w' b → b < w''.heap.size := fun b hb' => Nat.lt_of_lt_of_le (hl b hb') hk2.size
  refine ⟨growF F w w', growC c w r.m, ⟨?_, ?_, ?_, h.laid.add hm hb hn, hl2⟩, hkF.trans hk2 (fun b e => .inl (by rw [e]; exact c2.1)), growF_moves F w w'⟩
  · refine ((h.slots.kept hk1 (fun b hb' e => ?_)).kept hk2 (fun b hb' e => ?_)).mono (fun b hb' => ⟨(hold b hb'.1).1, (hold b hb'.1).2.trans hb'.2⟩) (fun b hb' => hl2 b hb'.1)
    · rw [hb'.2] at e; omega
    · rw [e, c2.2] at hb'; exact absurd hb'.2 (by decide)
  · refine .inr ⟨mt, mp, rfl, rfl, ?_, hmp.congr (fun x _ => ?_), ⟨(hold mt c1.1).1, (hold mt c1.1).2.trans c1.2⟩, ⟨(hold mp c2.1).1, (hold mp c2.1).2.trans c2.2⟩⟩
    · refine (m1.kept hk1 (fun e => ?_)).kept hk2 (fun e => ?_)
      · rw [c1.2] at e; omega
      · rw [e, c2.2] at c1; exact absurd c1.2 (by decide)
    · by_cases e : x = hd r <;> simp [plV, e]
  · intro j hj
    refine (hfam j hj).kept hk2 (fun b hb' e => ?_)
    rw [e, growC_old (h.lt mp c2.1), c2.2] at hb'
    have := (h.laid.key j hj).1
    omega
/-- A row has been changed in its table. -/
theorem WldIs.setRow {x : Int × Int} {k : Int} {i : Nat} {r' : Rw} {F' : Nat → Prop} (h : WldIs w p F c l tm pm ks tb tr hk pl R) (hx : x ∈ hk) (hp : pl x = (k, i)) (hr' : hd r' = x) (hm : r'.m = k) (hb : bErr r'.m [r'.f 0, r'.f 1, r'.f 2, r'.f 3, r'.f 4, r'.f 5, r'.f 6, r'.f 7] = 0)
    (ht : TableAt w' (tb k) F' k ((tr k).set i r')) (hk1 : Kept (fun b => F b ∧ c b = k) w w') (hm1 : Moves w (fun b => F b ∧ c b = k) F') :
    ∃ F'' c'', WldIs w' p F'' c'' l tm pm ks tb (fun j => if j = k then (tr k).set i r' else tr j) hk pl (fun r => r = r' ∨ (R r ∧ hd r ≠ x)) ∧ Kept F w w' ∧ Moves w F F'' := by
  obtain ⟨hfam, hkF, hl⟩ := h.tabs.step h.lt ht hk1 hm1
  have hkk : k ∈ ks := by have := (h.laid.at_ x hx).1; rw [hp] at this; exact this
  have h0 := (h.laid.key _ hkk).1
  have hold := grow_old (w' := w') (c := c) h.lt k
  refine ⟨growF F w w', growC c w k, ⟨?_, ?_, hfam, h.laid.set hx hp hr' hm hb, hl⟩, hkF, growF_moves F w w'⟩
  · refine (h.slots.kept hk1 (fun b hb' e => ?_)).mono (fun b hb' => ⟨(hold b hb'.1).1, (hold b hb'.1).2.trans hb'.2⟩) (fun b hb' => hl b hb'.1)
    rw [hb'.2] at e; omega
  · refine (h.maps.kept hk1 (fun b _ e hb' => ?_) (fun b _ e hb' => ?_)).mono (fun b _ hb' => hold b hb')
    · rw [e] at hb'; omega
    · rw [e] at hb'; omega
/-- A row has been taken out of its table, and the place of the one that took its place set anew. -/
theorem WldIs.delRow {x : Int × Int} {k : Int} {i : Nat} {mp : Nat} {F' : Nat → Prop} {w'' : World} {pl' : Int × Int → Int × Nat} (h : WldIs w p F c l tm (.map (some mp)) ks tb tr hk pl R) (hx : x ∈ hk) (hp : pl x = (k, i))
    (hpl : ∀ y, y ≠ x → pl' y = if i < (tr k).length - 1 ∧ y = hd ((tr k).getD ((tr k).length - 1) rowZ) then (k, i) else pl y)
    (ht : TableAt w' (tb k) F' k (rmL (tr k) i rowZ)) (hk1 : Kept (fun b => F b ∧ c b = k) w w') (hm1 : Moves w (fun b => F b ∧ c b = k) F')
    (hk2 : Kept (fun b => b = mp) w' w'') (hmp : MapIs kHand w'' mp (hk.filter (fun y => !decide (y = x))).length (hk.filter (fun y => !decide (y = x))) (plV tb pl')) :
    ∃ F'' c'', WldIs w'' p F'' c'' l tm (.map (some mp)) ks tb (fun j => if j = k then rmL (tr k) i rowZ else tr j) (hk.filter (fun y => !decide (y = x))) pl' (fun r => R r ∧ hd r ≠ x) ∧ Kept F w w'' ∧ Moves w F F'' := by
  obtain ⟨hfam, hkF, hl⟩ := h.tabs.step h.lt ht hk1 hm1
  have hkk : k ∈ ks := by have := (h.laid.at_ x hx).1; rw [hp] at this; exact this
  have h0 := (h.laid.key _ hkk).1
  rcases h.maps with ⟨_, e, _⟩ | ⟨mt, mp', rfl, e, m1, m2, c1, c2⟩
  · cases e
  obtain rfl : mp = mp' := by simpa using e
  have hold := grow_old (w' := w') (c := c) h.lt k
  have hl2 : ∀ b, growF F w w' b → b < w''.heap.size := fun b hb' => Nat.lt_of_lt_of_le (hl b hb') hk2.size
  refine ⟨growF F w w', growC c w k, ⟨?_, ?_, ?_, h.laid.del hx hp hpl, hl2⟩, hkF.trans hk2 (fun b e => .inl (by rw [e]; exact c2.1)), growF_moves F w w'⟩
  · refine ((h.slots.kept hk1 (fun b hb' e => ?_)).kept hk2 (fun b hb' e => ?_)).mono (fun b hb' => ⟨(hold b hb'.1).1, (hold b hb'.1).2.trans hb'.2⟩) (fun b hb' => hl2 b hb'.1)
    · rw [hb'.2] at e; omega
    · rw [e, c2.2] at hb'; exact absurd hb'.2 (by decide)
  · refine .inr ⟨mt, mp, rfl, rfl, ?_, hmp, ⟨(hold mt c1.1).1, (hold mt c1.1).2.trans c1.2⟩, ⟨(hold mp c2.1).1, (hold mp c2.1).2.trans c2.2⟩⟩
    refine (m1.kept hk1 (fun e => ?_)).kept hk2 (fun e => ?_)
    · rw [c1.2] at e; omega
    · rw [e, c2.2] at c1; exact absurd c1.2 (by decide)
  · intro j hj
    refine (hfam j hj).kept hk2 (fun b hb' e => ?_)
    rw [e, growC_old (h.lt mp c2.1), c2.2] at hb'
    have := (h.laid.key j hj).1
    omega
end
end Go.Proofs.YtlclceiebnnpgaaGreat

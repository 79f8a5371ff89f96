
/- Contracts and plain facts, several texts in one. -/
import Derived.Deep.Cut
import Derived.Test.YtndhomjfjhohoaaGreatDoorGroundA
import Derived.Test.YtndhomjfjhohoaaGreatDoorGroundB
import Derived.Test.YtndhomjfjhohoaaGreatDoorGroundC
import Derived.Test.YtndhomjfjhohoaaGreatDoorGroundD
/- Tables behind the keys of a map, each in blocks of its own. -/
namespace Go.Proofs.YtndhomjfjhohoaaGreatDoor
open Go.RowKit

theorem TabIs.mono {w : World} {p mb n : Nat} {F G : Nat → Prop} {m : Int} {hs : List (Int × Int)} {xs : Int → List Int} {v : Value} {cb : Int → Nat} {c : Nat → Int} (h : TabIs w p F m hs xs v mb n cb c) (hg : ∀ b, F b → G b) (hl : ∀ b, G b → b < w.heap.size) : TabIs w p G m hs xs v mb n cb c :=
  ⟨h.obj, h.own, h.map, fun k hk => (h.cols k hk).mono (fun b _ hb => ⟨hg b hb.1, hb.2⟩), ⟨hg _ h.fp.1, h.fp.2⟩, ⟨hg _ h.fm.1, h.fm.2⟩, fun b e => ⟨hg _ (h.fv b e).1, (h.fv b e).2⟩, hl⟩
theorem TableAt.mono {w : World} {p : Nat} {F G : Nat → Prop} {m : Int} {rows : List Rw} (h : TableAt w p F m rows) (hg : ∀ b, F b → G b) (hl : ∀ b, G b → b < w.heap.size) : TableAt w p G m rows := by
  obtain ⟨v, mb, n, cb, c, h⟩ := h
  exact ⟨v, mb, n, cb, c, h.mono hg hl⟩
theorem TableAt.at_ {w : World} {p : Nat} {F : Nat → Prop} {m : Int} {rows : List Rw} (h : TableAt w p F m rows) : F p := by
  obtain ⟨v, mb, n, cb, c, h⟩ := h; exact h.fp.1

/-- A table at each key, at block tb k, in the blocks of F of colour k. -/
def Fam (w : World) (ks : List Int) (tb : Int → Nat) (F : Nat → Prop) (c : Nat → Int) (rows : Int → List Rw) : Prop := ∀ k ∈ ks, TableAt w (tb k) (fun b => F b ∧ c b = k) k (rows k)
section
variable {w w' : World} {ks : List Int} {tb : Int → Nat} {F : Nat → Prop} {c : Nat → Int} {rows : Int → List Rw}
theorem Fam.kept {H : Nat → Prop} (h : Fam w ks tb F c rows) (hk : Kept H w w') (hf : ∀ b, F b → ¬ H b) : Fam w' ks tb F c rows := fun k hk' => (h k hk').kept hk (fun b hb => hf b hb.1)
theorem Fam.later (h : Fam w ks tb F c rows) (hb : Below w.heap.size w w') : Fam w' ks tb F c rows := h.kept (H := fun _ => False) (Kept.ofBelow hb) (fun _ _ => id)
theorem Fam.congr {rows' : Int → List Rw} (h : Fam w ks tb F c rows) (e : ∀ k ∈ ks, rows k = rows' k) : Fam w ks tb F c rows' := fun k hk => by rw [← e k hk]; exact h k hk
/-- The table at key k has been turned. -/
theorem Fam.step {k : Int} {F' : Nat → Prop} {rk : List Rw} (h : Fam w ks tb F c rows) (hF : ∀ b, F b → b < w.heap.size) (ht : TableAt w' (tb k) F' k rk) (hk : Kept (fun b => F b ∧ c b = k) w w') (hm : Moves w (fun b => F b ∧ c b = k) F') :
    Fam w' ks tb (growF F w w') (growC c w k) (fun j => if j = k then rk else rows j) ∧ Kept F w w' ∧ ∀ b, growF F w w' b → b < w'.heap.size := by
  have hl : ∀ b, growF F w w' b → b < w'.heap.size := fun b hb => by
    rcases hb with hb | hb
    · exact Nat.lt_of_lt_of_le (hF b hb) hk.size
    · exact hb.2
  refine ⟨fun j hj => ?_, hk.mono (fun b hb => .inl hb.1), hl⟩
  by_cases e : j = k
  · subst e
    simp only [if_pos]
    refine ht.mono (fun b hb => ?_) (fun b hb => hl b hb.1)
    rcases hm b hb with h1 | h1
    · exact ⟨.inl h1.1, by rw [growC_old (hF b h1.1)]; exact h1.2⟩
    · exact ⟨.inr ⟨h1, ht.lt b hb⟩, growC_new h1⟩
  · simp only [if_neg e]
    refine ((h j hj).kept hk (fun b hb hb' => e (hb.2.symm.trans hb'.2))).mono (fun b hb => ⟨.inl hb.1, by rw [growC_old (hF b hb.1)]; exact hb.2⟩) (fun b hb => hl b hb.1)
/-- A table has been made for a new key. -/
theorem Fam.add {k : Int} {p : Nat} {F' : Nat → Prop} {rk : List Rw} (h : Fam w ks tb F c rows) (hF : ∀ b, F b → b < w.heap.size) (hn : ¬ k ∈ ks) (ht : TableAt w' p F' k rk) (hb : Below w.heap.size w w') (hF' : ∀ b, F' b → w.heap.size ≤ b) :
    Fam w' (ks ++ [k]) (fun j => if j = k then p else tb j) (growF F w w') (growC c w k) (fun j => if j = k then rk else rows j) ∧ ∀ b, growF F w w' b → b < w'.heap.size := by
  have hl : ∀ b, growF F w w' b → b < w'.heap.size := fun b hb' => by
    rcases hb' with hb' | hb'
    · exact Nat.lt_of_lt_of_le (hF b hb') hb.size
    · exact hb'.2
  refine ⟨fun j hj => ?_, hl⟩
  by_cases e : j = k
  · subst e
    simp only [if_pos]
    exact ht.mono (fun b hb' => ⟨.inr ⟨hF' b hb', ht.lt b hb'⟩, growC_new (hF' b hb')⟩) (fun b hb' => hl b hb'.1)
  · have hj' : j ∈ ks := by
      rcases List.mem_append.1 hj with h1 | h1
      · exact h1
      · simp at h1; exact absurd h1 e
    simp only [if_neg e]
    exact ((h j hj').later hb).mono (fun b hb' => ⟨.inl hb'.1, by rw [growC_old (hF b hb'.1)]; exact hb'.2⟩) (fun b hb' => hl b hb'.1)
end
end Go.Proofs.YtndhomjfjhohoaaGreatDoor

/- A world in memory: its object, the two maps, the tables; and what stays true of it. -/
namespace Go.Proofs.YtndhomjfjhohoaaGreatDoor
open Go.RowKit
variable {ZT : TypeId} {zr : List Value}

def plV (tb : Int → Nat) (pl : Int × Int → Int × Nat) (h : Int × Int) : Value := .agg #[.pointer (some ⟨tb (pl h).1, 0, none⟩), .int .i64 (pl h).2]

/-- The two maps: none yet, or in blocks of their own. -/
def MapsAt (w : World) (F : Nat → Prop) (c : Nat → Int) (tm pm : Value) (ks : List Int) (tb : Int → Nat) (hk : List (Int × Int)) (pl : Int × Int → Int × Nat) : Prop :=
  (tm = .map none ∧ pm = .map none ∧ ks = [] ∧ hk = []) ∨ ∃ mt mp, tm = .map (some mt) ∧ pm = .map (some mp) ∧ MapIs kInt w mt ks.length ks (ptrOf tb) ∧ MapIs kHand w mp hk.length hk (plV tb pl) ∧ (F mt ∧ c mt = -2) ∧ (F mp ∧ c mp = -3)

/-- A world at block p, in the blocks F; c: to which part each block belongs. -/
structure WldIs (ZT : TypeId) (zr : List Value) (w : World) (p : Nat) (F : Nat → Prop) (c : Nat → Int) (l : List (Int × Bool)) (tm pm : Value) (ks : List Int) (tb : Int → Nat) (tr : Int → List Rw) (hk : List (Int × Int)) (pl : Int × Int → Int × Nat) (R : Rw → Prop) : Prop where
  slots : SlotsIn w p ZT (tm :: pm :: zr) (fun b => F b ∧ c b = -1) l
  maps : MapsAt w F c tm pm ks tb hk pl
  tabs : Fam w ks tb F c tr
  laid : Laid ks tr hk pl R
  lt : ∀ b, F b → b < w.heap.size
/-- At block p lies a world with these slots and rows, in the blocks F. -/
def WldIn (ZT : TypeId) (zr : List Value) (w : World) (p : Nat) (F : Nat → Prop) (l : List (Int × Bool)) (R : Rw → Prop) : Prop := ∃ c tm pm ks tb tr hk pl, WldIs ZT zr w p F c l tm pm ks tb tr hk pl R
/-- A world in a block of its own. -/
abbrev WldAt (w : World) (p : Nat) (F : Nat → Prop) (l : List (Int × Bool)) (R : Rw → Prop) : Prop := WldIn 119 [] w p F l R

section
variable {w w' : World} {p : Nat} {F : Nat → Prop} {c : Nat → Int} {l : List (Int × Bool)} {tm pm : Value} {ks : List Int} {tb : Int → Nat} {tr : Int → List Rw} {hk : List (Int × Int)} {pl : Int × Int → Int × Nat} {R : Rw → Prop}

theorem MapsAt.kept {H : Nat → Prop} (h : MapsAt w F c tm pm ks tb hk pl) (hkp : Kept H w w') (h2 : ∀ b, F b → c b = -2 → ¬ H b) (h3 : ∀ b, F b → c b = -3 → ¬ H b) : MapsAt w' F c tm pm ks tb hk pl := by
  rcases h with h | ⟨mt, mp, rfl, rfl, m1, m2, e1, e2⟩
  · exact .inl h
  · exact .inr ⟨mt, mp, rfl, rfl, m1.kept hkp (h2 mt e1.1 e1.2), m2.kept hkp (h3 mp e2.1 e2.2), e1, e2⟩
theorem MapsAt.mono {G : Nat → Prop} {d : Nat → Int} (h : MapsAt w F c tm pm ks tb hk pl) (hg : ∀ b, b < w.heap.size → F b → G b ∧ d b = c b) : MapsAt w G d tm pm ks tb hk pl := by
  rcases h with h | ⟨mt, mp, rfl, rfl, m1, m2, e1, e2⟩
  · exact .inl h
  · exact .inr ⟨mt, mp, rfl, rfl, m1, m2, ⟨(hg mt m1.lt e1.1).1, (hg mt m1.lt e1.1).2.trans e1.2⟩, ⟨(hg mp m2.lt e2.1).1, (hg mp m2.lt e2.1).2.trans e2.2⟩⟩
theorem SlotsIn.mono {T : TypeId} {rest : List Value} {G : Nat → Prop} (h : SlotsIn w p T rest F l) (hg : ∀ b, F b → G b) (hl : ∀ b, G b → b < w.heap.size) : SlotsIn w p T rest G l := by
  obtain ⟨v, hp, ho, hF, hv, hlt⟩ := h
  exact ⟨v, hp, ho, hg p hF, fun k e => ⟨hg k (hv k e).1, (hv k e).2⟩, hl⟩
theorem SlotsIn.at_ {T : TypeId} {rest : List Value} (h : SlotsIn w p T rest F l) : F p := by obtain ⟨v, hp, ho, hF, hv, hlt⟩ := h; exact hF
theorem SlotsIn.cell {T : TypeId} {tm pm : Value} {rest : List Value} (h : SlotsIn w p T (tm :: pm :: rest) F l) : w.cell? ⟨p, 1, none⟩ = some tm ∧ w.cell? ⟨p, 2, none⟩ = some pm := by
  obtain ⟨v, hp, _⟩ := h
  exact ⟨by rw [cell_of_row _ _ _ _ _ _ hp]; rfl, by rw [cell_of_row _ _ _ _ _ _ hp]; rfl⟩
theorem Fam.mono {G : Nat → Prop} {d : Nat → Int} (h : Fam w ks tb F c tr) (hg : ∀ b, b < w.heap.size → F b → G b ∧ d b = c b) (hl : ∀ b, G b → b < w.heap.size) : Fam w ks tb G d tr := fun k hk =>
  (h k hk).mono (fun b hb => ⟨(hg b ((h k hk).lt b hb) hb.1).1, (hg b ((h k hk).lt b hb) hb.1).2.trans hb.2⟩) (fun b hb => hl b hb.1)

theorem WldIs.kept {H : Nat → Prop} (h : WldIs ZT zr w p F c l tm pm ks tb tr hk pl R) (hkp : Kept H w w') (hf : ∀ b, F b → ¬ H b) : WldIs ZT zr w' p F c l tm pm ks tb tr hk pl R :=
  ⟨h.slots.kept hkp (fun b hb => hf b hb.1), h.maps.kept hkp (fun b hb _ => hf b hb) (fun b hb _ => hf b hb), h.tabs.kept hkp hf, h.laid, fun b hb => Nat.lt_of_lt_of_le (h.lt b hb) hkp.size⟩
theorem WldIs.later (h : WldIs ZT zr w p F c l tm pm ks tb tr hk pl R) (hb : Below w.heap.size w w') : WldIs ZT zr w' p F c l tm pm ks tb tr hk pl R :=
  h.kept (H := fun _ => False) (Kept.ofBelow hb) (fun _ _ => id)
theorem WldIs.congr {R' : Rw → Prop} (h : WldIs ZT zr w p F c l tm pm ks tb tr hk pl R) (e : ∀ r, R r ↔ R' r) : WldIs ZT zr w p F c l tm pm ks tb tr hk pl R' := ⟨h.slots, h.maps, h.tabs, h.laid.congr e, h.lt⟩
theorem WldIs.at_ (h : WldIs ZT zr w p F c l tm pm ks tb tr hk pl R) : F p ∧ c p = -1 := h.slots.at_
theorem WldIs.cell1 (h : WldIs ZT zr w p F c l tm pm ks tb tr hk pl R) : w.cell? ⟨p, 1, none⟩ = some tm := h.slots.cell.1
theorem WldIs.cell2 (h : WldIs ZT zr w p F c l tm pm ks tb tr hk pl R) : w.cell? ⟨p, 2, none⟩ = some pm := h.slots.cell.2
theorem WldIs.plt (h : WldIs ZT zr w p F c l tm pm ks tb tr hk pl R) : p < w.heap.size := h.lt p h.at_.1
theorem WldIn.kept {H : Nat → Prop} (h : WldIn ZT zr w p F l R) (hkp : Kept H w w') (hf : ∀ b, F b → ¬ H b) : WldIn ZT zr w' p F l R := by
  obtain ⟨c, tm, pm, ks, tb, tr, hk, pl, h⟩ := h
  exact ⟨c, tm, pm, ks, tb, tr, hk, pl, h.kept hkp hf⟩
theorem WldIn.later (h : WldIn ZT zr w p F l R) (hb : Below w.heap.size w w') : WldIn ZT zr w' p F l R := h.kept (H := fun _ => False) (Kept.ofBelow hb) (fun _ _ => id)
theorem WldIn.congr {R' : Rw → Prop} (h : WldIn ZT zr w p F l R) (e : ∀ r, R r ↔ R' r) : WldIn ZT zr w p F l R' := by
  obtain ⟨c, tm, pm, ks, tb, tr, hk, pl, h⟩ := h
  exact ⟨c, tm, pm, ks, tb, tr, hk, pl, h.congr e⟩
theorem WldIn.lt (h : WldIn ZT zr w p F l R) : ∀ b, F b → b < w.heap.size := by
  obtain ⟨c, tm, pm, ks, tb, tr, hk, pl, h⟩ := h; exact h.lt
theorem WldIn.at_ (h : WldIn ZT zr w p F l R) : F p := by
  obtain ⟨c, tm, pm, ks, tb, tr, hk, pl, h⟩ := h; exact h.at_.1
theorem growF_lt (hl : ∀ b, F b → b < w.heap.size) (hs : w.heap.size ≤ w'.heap.size) : ∀ b, growF F w w' b → b < w'.heap.size := fun b hb => by
  rcases hb with hb | hb
  · exact Nat.lt_of_lt_of_le (hl b hb) hs
  · exact hb.2
theorem grow_old (hl : ∀ b, F b → b < w.heap.size) (k : Int) : ∀ b, F b → growF F w w' b ∧ growC c w k b = c b := fun b hb => ⟨.inl hb, growC_old (hl b hb)⟩

/-- The maps are made. -/
theorem WldIs.make {mt mp : Nat} (h : WldIs ZT zr w p F c l (.map none) (.map none) ks tb tr hk pl R) (hkp : Kept (fun b => b = p) w w') (hp : ∀ v, w.heap[p]? = some (.cells (v :: .map none :: .map none :: zr).toArray ZT (0, 0)) → w'.heap[p]? = some (.cells (v :: .map (some mt) :: .map (some mp) :: zr).toArray ZT (0, 0)))
    (h1 : MapIs kInt w' mt 0 [] (ptrOf tb)) (h2 : MapIs kHand w' mp 0 [] (plV tb pl)) (e1 : w.heap.size ≤ mt) (e2 : w.heap.size ≤ mp) (e3 : mt ≠ mp) :
    ∃ F' c', WldIs ZT zr w' p F' c' l (.map (some mt)) (.map (some mp)) ks tb tr hk pl R ∧ Kept F w w' ∧ Moves w F F' := by
  have hks : ks = [] ∧ hk = [] := by
    rcases h.maps with ⟨_, _, e, e'⟩ | ⟨_, _, e, _⟩
    · exact ⟨e, e'⟩
    · cases e
  obtain ⟨rfl, rfl⟩ := hks
  have hl := growF_lt h.lt hkp.size
  have hpF := h.at_
  obtain ⟨v, hpv, ho, hF, hv, hlt⟩ := h.slots
  have hold : ∀ b, F b → (fun b => if b = mt then (-2 : Int) else if b = mp then -3 else c b) b = c b := fun b hb => by
    have := h.lt b hb
    simp only
    rw [if_neg (by omega), if_neg (by omega)]
  refine ⟨growF F w w', fun b => if b = mt then -2 else if b = mp then -3 else c b, ⟨⟨v, hp v (by simpa using hpv), ?_, ⟨.inl hF.1, (hold p hF.1).trans hF.2⟩, fun k e => ⟨⟨.inl (hv k e).1.1, (hold k (hv k e).1.1).trans (hv k e).1.2⟩, (hv k e).2⟩, fun b hb => hl b hb.1⟩, .inr ⟨mt, mp, rfl, rfl, h1, h2, ⟨.inr ⟨e1, h1.lt⟩, by simp⟩, ⟨.inr ⟨e2, h2.lt⟩, by simp [Ne.symm e3]⟩⟩, fun k hk' => by simp at hk', h.laid, hl⟩, hkp.mono (fun b e => .inl (by rw [e]; exact hpF.1)), growF_moves F w w'⟩
  exact ho.kept hkp (fun k e => (hv k e).2)
/-- A set gets its table. -/
theorem WldIs.newTab {k : Int} {q mt : Nat} {F' : Nat → Prop} {w'' : World} (h : WldIs ZT zr w p F c l (.map (some mt)) pm ks tb tr hk pl R) (hn : ¬ k ∈ ks) (h0 : 0 ≤ k) (h1 : k ≤ 255) (ht : TableAt w' q F' k []) (hb : Below w.heap.size w w') (hF' : ∀ b, F' b → w.heap.size ≤ b)
    (hkp : Kept (fun b => b = mt) w' w'') (hmt : MapIs kInt w'' mt (ks ++ [k]).length (ks ++ [k]) (fun j => if j = k then .pointer (some ⟨q, 0, none⟩) else ptrOf tb j)) :
    ∃ F'' c'', WldIs ZT zr w'' p F'' c'' l (.map (some mt)) pm (ks ++ [k]) (fun j => if j = k then q else tb j) tr hk pl R ∧ Kept F w w'' ∧ Moves w F F'' := by
  obtain ⟨hfam, hl⟩ := h.tabs.add h.lt hn ht hb hF'
  have hmaps := h.maps
  rcases hmaps with ⟨e, _⟩ | ⟨mt', mp, e, rfl, m1, m2, c1, c2⟩
  · cases e
  obtain rfl : mt = mt' := by simpa using e
  have hmtF : F mt := c1.1
  have hnot : ∀ b, F b → b = mt → c b = -2 := fun b _ e => by rw [e]; exact c1.2
  have hgt : ¬ growF F w w' mt → False := fun h => h (.inl hmtF)
  have hl2 : ∀ b, growF F w w' b → b < w''.heap.size := fun b hb' => Nat.lt_of_lt_of_le (hl b hb') hkp.size
  have hold := grow_old (w' := w') (c := c) h.lt k
  refine ⟨growF F w w', growC c w k, ⟨?_, ?_, ?_, h.laid.addK hn h0 h1, hl2⟩, (Kept.ofBelow hb).trans hkp (fun b e => .inl (by rw [e]; exact hmtF)), growF_moves F w w'⟩
  · refine ((h.slots.later hb).kept hkp (fun b hb' e => ?_)).mono (fun b hb' => ⟨(hold b hb'.1).1, (hold b hb'.1).2.trans hb'.2⟩) (fun b hb' => hl2 b hb'.1)
    rw [e, c1.2] at hb'; exact absurd hb'.2 (by decide)
  · refine .inr ⟨mt, mp, rfl, rfl, hmt.congr (fun j _ => ?_), ?_, ⟨(hold mt c1.1).1, (hold mt c1.1).2.trans c1.2⟩, ⟨(hold mp c2.1).1, (hold mp c2.1).2.trans c2.2⟩⟩
    · by_cases e : j = k <;> simp [ptrOf, e]
    · refine ((m2.later hb).kept hkp (fun e => ?_)).congr (fun x hx => ?_)
      · rw [e, c1.2] at c2; exact absurd c2.2 (by decide)
      · have hne : ¬ (pl x).1 = k := fun e => hn (by rw [← e]; exact (h.laid.at_ x hx).1)
        simp [plV, hne]
  · refine Fam.congr (rows := fun j => if j = k then [] else tr j) (fun j hj => ?_) (fun j _ => ?_)
    · refine ((hfam j hj).kept hkp (fun b hb' e => ?_))
      rw [e, growC_old (h.lt mt hmtF), c1.2] at hb'
      have : 0 ≤ j := by
        rcases List.mem_append.1 hj with h1 | h1
        · exact (h.laid.key j h1).1
        · simp at h1; omega
      omega
    · split
      · rename_i e; subst e; exact (h.laid.out _ hn).symm
      · rfl
/-- A row has come into its table and got its place. -/
theorem WldIs.addRow {r : Rw} {mp : Nat} {F' : Nat → Prop} {w'' : World} (h : WldIs ZT zr w p F c l tm (.map (some mp)) ks tb tr hk pl R) (hm : r.m ∈ ks) (hb : bErr r.m [r.f 0, r.f 1, r.f 2, r.f 3, r.f 4, r.f 5, r.f 6, r.f 7] = 0) (hn : ¬ hd r ∈ hk)
    (ht : TableAt w' (tb r.m) F' r.m (tr r.m ++ [r])) (hk1 : Kept (fun b => F b ∧ c b = r.m) w w') (hm1 : Moves w (fun b => F b ∧ c b = r.m) F')
    (hk2 : Kept (fun b => b = mp) w' w'') (hmp : MapIs kHand w'' mp (hk ++ [hd r]).length (hk ++ [hd r]) (fun x => if x = hd r then .agg #[.pointer (some ⟨tb r.m, 0, none⟩), .int .i64 (tr r.m).length] else plV tb pl x)) :
    ∃ F'' c'', WldIs ZT zr w'' p F'' c'' l tm (.map (some mp)) ks tb (fun j => if j = r.m then tr r.m ++ [r] else tr j) (hk ++ [hd r]) (fun x => if x = hd r then (r.m, (tr r.m).length) else pl x) (fun x => x = r ∨ R x) ∧ Kept F w w'' ∧ Moves w F F'' := by
  obtain ⟨hfam, hkF, hl⟩ := h.tabs.step h.lt ht hk1 hm1
  have h0 := (h.laid.key _ hm).1
  rcases h.maps with ⟨_, e, _⟩ | ⟨mt, mp', rfl, e, m1, m2, c1, c2⟩
  · cases e
  obtain rfl : mp = mp' := by simpa using e
  have hold := grow_old (w' := w') (c := c) h.lt r.m
  have hl2 : ∀ b, growF F w w' b → b < w''.heap.size := fun b hb' => Nat.lt_of_lt_of_le (hl b hb') hk2.size
  refine ⟨growF F w w', growC c w r.m, ⟨?_, ?_, ?_, h.laid.add hm hb hn, hl2⟩, hkF.trans hk2 (fun b e => .inl (by rw [e]; exact c2.1)), growF_moves F w w'⟩
  · refine ((h.slots.kept hk1 (fun b hb' e => ?_)).kept hk2 (fun b hb' e => ?_)).mono (fun b hb' => ⟨(hold b hb'.1).1, (hold b hb'.1).2.trans hb'.2⟩) (fun b hb' => hl2 b hb'.1)
    · rw [hb'.2] at e; omega
    · rw [e, c2.2] at hb'; exact absurd hb'.2 (by decide)
  · refine .inr ⟨mt, mp, rfl, rfl, ?_, hmp.congr (fun x _ => ?_), ⟨(hold mt c1.1).1, (hold mt c1.1).2.trans c1.2⟩, ⟨(hold mp c2.1).1, (hold mp c2.1).2.trans c2.2⟩⟩
    · refine (m1.kept hk1 (fun e => ?_)).kept hk2 (fun e => ?_)
      · rw [c1.2] at e; omega
      · rw [e, c2.2] at c1; exact absurd c1.2 (by decide)
    · by_cases e : x = hd r <;> simp [plV, e]
  · intro j hj
    refine (hfam j hj).kept hk2 (fun b hb' e => ?_)
    rw [e, growC_old (h.lt mp c2.1), c2.2] at hb'
    have := (h.laid.key j hj).1
    omega
end
end Go.Proofs.YtndhomjfjhohoaaGreatDoor

/- The contracts of New, Gens and Get of package world. -/
namespace Go.Proofs.YtndhomjfjhohoaaGreatDoor
set_option maxRecDepth 8000
open Go.RowKit
variable {ZT : TypeId} {zr : List Value}

theorem zeroTab (w : World) : (zeroValue 192).run Tryz.prog w = .ok (.pointer none) w := by kernel_rfl

section
variable {w : World} {p : Nat} {F : Nat → Prop} {c : Nat → Int} {l : List (Int × Bool)} {tm pm : Value} {ks : List Int} {tb : Int → Nat} {tr : Int → List Rw} {hk : List (Int × Int)} {pl : Int × Int → Int × Nat} {R : Rw → Prop}
end

theorem WldIn.new (w : World) : WldIn ZT zr (w.alloc (.cells (.slice none 0 0 :: .map none :: .map none :: zr).toArray ZT)) w.heap.size (fun b => b = w.heap.size) [] (fun _ => False) :=
  ⟨fun _ => -1, .map none, .map none, [], fun _ => 0, fun _ => [], [], fun _ => (0, 0), ⟨⟨.slice none 0 0, heap_alloc_new w _, Owns.nil _ _ _, ⟨rfl, rfl⟩, fun k e => by simp [Value.ownBlock] at e, fun k e => by simp [e.1]⟩, .inl ⟨rfl, rfl, rfl, rfl⟩, fun k hk => by simp at hk, Laid.nil _, fun b e => by simp [e]⟩⟩
theorem WldAt.new (w : World) : WldAt (w.alloc (.cells #[.slice none 0 0, .map none, .map none] 119)) w.heap.size (fun b => b = w.heap.size) [] (fun _ => False) := WldIn.new (zr := []) w

end Go.Proofs.YtndhomjfjhohoaaGreatDoor

/- Boxes; what the maps of a world hold. -/
namespace Go.Proofs.YtndhomjfjhohoaaGreatDoor
open Go.RowKit
variable {ZT : TypeId} {zr : List Value}

/-- the boxes of a handle and a beast -/
structure Boxes (n : Nat) (Y : World) (r : Rw) : Prop where
  hb : Y.heap[n]? = some (.cells #[.int .i64 r.s, .int .i64 r.g] 49)
  bb : Y.heap[n + 1]? = some (.cells #[.int .i64 r.m, .int .i64 (r.f 0), .int .i64 (r.f 1), .int .i64 (r.f 2), .int .i64 (r.f 3), .int .i64 (r.f 4), .int .i64 (r.f 5), .int .i64 (r.f 6), .int .i64 (r.f 7)] 52)
theorem Boxes.h0 {n : Nat} {Y : World} {r : Rw} (h : Boxes n Y r) : Y.cell? ⟨n, 0, none⟩ = some (.int .i64 r.s) := by rw [cell_of_row _ _ _ _ _ _ h.hb]; rfl
theorem Boxes.h1 {n : Nat} {Y : World} {r : Rw} (h : Boxes n Y r) : Y.cell? ⟨n, 1, none⟩ = some (.int .i64 r.g) := by rw [cell_of_row _ _ _ _ _ _ h.hb]; rfl
theorem Boxes.b0 {n : Nat} {Y : World} {r : Rw} (h : Boxes n Y r) : Y.cell? ⟨n + 1, 0, none⟩ = some (.int .i64 r.m) := by rw [cell_of_row _ _ _ _ _ _ h.bb]; rfl
theorem Boxes.b {n : Nat} {Y : World} {r : Rw} (h : Boxes n Y r) (j : Nat) (hj : j < 8) : Y.cell? ⟨n + 1, 1 + j, none⟩ = some (.int .i64 (r.f j)) := by rw [cell_of_row _ _ _ _ _ _ h.bb]; exact vals_at r.m r.f j hj
theorem Boxes.lt {n : Nat} {Y : World} {r : Rw} (h : Boxes n Y r) : n + 1 < Y.heap.size := (Array.getElem?_eq_some_iff.1 h.bb).1
theorem Boxes.kept {n : Nat} {Y Z : World} {r : Rw} {F : Nat → Prop} (h : Boxes n Y r) (hk : Kept F Y Z) (h0 : ¬ F n) (h1 : ¬ F (n + 1)) : Boxes n Z r := by
  have := h.lt
  exact ⟨by rw [hk.block n (by omega) h0]; exact h.hb, by rw [hk.block (n + 1) this h1]; exact h.bb⟩

theorem WldIs.lookT {w : World} {p mt : Nat} {F : Nat → Prop} {c : Nat → Int} {l : List (Int × Bool)} {pm : Value} {ks : List Int} {tb : Int → Nat} {tr : Int → List Rw} {hk : List (Int × Int)} {pl : Int × Int → Int × Nat} {R : Rw → Prop} (h : WldIs ZT zr w p F c l (.map (some mt)) pm ks tb tr hk pl R) (k : Int) (hk' : I64r k) :
    (Instr.lookup 116 (.map (some mt)) (.int .i64 k) false).run Tryz.prog w = .ok (if k ∈ ks then ptrOf tb k else .pointer none) w := by
  rcases h.maps with ⟨e, _⟩ | ⟨mt', mp, e, _, m1, m2, _⟩
  · cases e
  · obtain rfl : mt = mt' := by simpa using e
    exact m1.look Tryz.underlying116 (zeroTab w) k hk'
theorem WldIs.mapT {w : World} {p mt : Nat} {F : Nat → Prop} {c : Nat → Int} {l : List (Int × Bool)} {pm : Value} {ks : List Int} {tb : Int → Nat} {tr : Int → List Rw} {hk : List (Int × Int)} {pl : Int × Int → Int × Nat} {R : Rw → Prop} (h : WldIs ZT zr w p F c l (.map (some mt)) pm ks tb tr hk pl R) :
    MapIs kInt w mt ks.length ks (ptrOf tb) ∧ F mt ∧ c mt = -2 ∧ ks.length ≤ 256 := by
  rcases h.maps with ⟨e, _⟩ | ⟨mt', mp, e, _, m1, m2, c1, _⟩
  · cases e
  · obtain rfl : mt = mt' := by simpa using e
    exact ⟨m1, c1.1, c1.2, h.laid.ksLen m1.nodup⟩
theorem WldIs.mapP {w : World} {p mp : Nat} {F : Nat → Prop} {c : Nat → Int} {l : List (Int × Bool)} {tm : Value} {ks : List Int} {tb : Int → Nat} {tr : Int → List Rw} {hk : List (Int × Int)} {pl : Int × Int → Int × Nat} {R : Rw → Prop} (h : WldIs ZT zr w p F c l tm (.map (some mp)) ks tb tr hk pl R) :
    MapIs kHand w mp hk.length hk (plV tb pl) ∧ F mp ∧ c mp = -3 := by
  rcases h.maps with ⟨_, e, _⟩ | ⟨mt, mp', _, e, m1, m2, _, c2⟩
  · cases e
  · obtain rfl : mp = mp' := by simpa using e
    exact ⟨m2, c2.1, c2.2⟩

/-- There are few rows. -/
def Few (R : Rw → Prop) : Prop := ∃ rows : List Rw, rows.length ≤ 60 ∧ ∀ r, R r → r ∈ rows
theorem WOk.few {l : List (Int × Bool)} {rows : List Rw} (h : WOk l rows) : Few (· ∈ rows) := ⟨rows, h.len60, fun _ h => h⟩
theorem Kept.both {F : Nat → Prop} {w w' : World} (h : Kept F w w') (hs : w'.heap.size = w.heap.size) (o : Obj) : Kept F (w.alloc o) (w'.alloc o) ∧ (w'.alloc o).heap.size = (w.alloc o).heap.size := by
  refine ⟨⟨h.os, h.tape, h.output, by simp [hs], fun k hk hf => ?_⟩, by simp [hs]⟩
  by_cases e : k < w.heap.size
  · rw [Below.heap_alloc _ _ _ (by rw [hs]; exact e), Below.heap_alloc _ _ _ e]; exact h.block k e hf
  · have e' : k = w.heap.size := by simp at hk; omega
    subst e'
    rw [heap_alloc_new w, ← hs, heap_alloc_new w']
end Go.Proofs.YtndhomjfjhohoaaGreatDoor

/- The contract of add of package world. -/
namespace Go.Proofs.YtndhomjfjhohoaaGreatDoor
set_option maxRecDepth 8000
open Go.RowKit
variable {ZT : TypeId} {zr : List Value}

def AddWPost (ZT : TypeId) (zr : List Value) (w : World) (p : Nat) (F : Nat → Prop) (l : List (Int × Bool)) (R : Rw → Prop) (r : Rw) (e : Ending) (w' : World) : Prop :=
  e = .returned (.tuple #[]) ∧ ∃ F', WldIn ZT zr w' p F' l (fun x => x = r ∨ R x) ∧ Kept F w w' ∧ Moves w F F'

set_option maxHeartbeats 4000000 in
theorem worldAdd_any (p : Nat) (F : Nat → Prop) (l : List (Int × Bool)) (R : Rw → Prop) (r : Rw) (w : World) (h : WldIn ZT zr w p F l R) (hbe : bErr r.m [r.f 0, r.f 1, r.f 2, r.f 3, r.f 4, r.f 5, r.f 6, r.f 7] = 0) (hnew : ∀ x, R x → hd x ≠ hd r) (hok : I64r r.s ∧ I64r r.g) (hfew : Few R) :
    Calls Tryz.prog 90 #[.pointer (some ⟨p, 0, none⟩), .agg #[.int .i64 r.s, .int .i64 r.g], .agg #[.int .i64 r.m, .int .i64 (r.f 0), .int .i64 (r.f 1), .int .i64 (r.f 2), .int .i64 (r.f 3), .int .i64 (r.f 4), .int .i64 (r.f 5), .int .i64 (r.f 6), .int .i64 (r.f 7)]] w (AddWPost ZT zr w p F l R r) := by
  obtain ⟨c, tm, pm, ks, tb, tr, hk, pl, h⟩ := h
  have HX : Hid (Below w.heap.size w ((w.alloc (.cells #[.int .i64 r.s, .int .i64 r.g] 49)).alloc (.cells #[.int .i64 r.m, .int .i64 (r.f 0), .int .i64 (r.f 1), .int .i64 (r.f 2), .int .i64 (r.f 3), .int .i64 (r.f 4), .int .i64 (r.f 5), .int .i64 (r.f 6), .int .i64 (r.f 7)] 52))) := Lib.hid (nb_alloc (nb_alloc (Below.refl _ _) _) _)
  have hbox : Boxes w.heap.size ((w.alloc (.cells #[.int .i64 r.s, .int .i64 r.g] 49)).alloc (.cells #[.int .i64 r.m, .int .i64 (r.f 0), .int .i64 (r.f 1), .int .i64 (r.f 2), .int .i64 (r.f 3), .int .i64 (r.f 4), .int .i64 (r.f 5), .int .i64 (r.f 6), .int .i64 (r.f 7)] 52)) r := ⟨heap_alloc2_old _ _ _, heap_alloc2_new _ _ _⟩
  have hwX := h.later HX.out
  have H0 := Lib.hid h
  have hlt := h.lt
  have HBOX : Hid (∀ Y, Kept F ((w.alloc (.cells #[.int .i64 r.s, .int .i64 r.g] 49)).alloc (.cells #[.int .i64 r.m, .int .i64 (r.f 0), .int .i64 (r.f 1), .int .i64 (r.f 2), .int .i64 (r.f 3), .int .i64 (r.f 4), .int .i64 (r.f 5), .int .i64 (r.f 6), .int .i64 (r.f 7)] 52)) Y → Boxes w.heap.size Y r) := Lib.hid (fun Y hY => hbox.kept hY (fun e => by have := hlt _ e; omega) (fun e => by have := hlt _ e; omega))
  have HBE := Lib.hid hbe
  have HNEW := Lib.hid hnew
  have HOK : Hid (I64r r.s ∧ I64r r.g) := Lib.hid hok
  have HFEW := Lib.hid hfew
  have HMI : Hid (I64r r.m) := Lib.hid (by have := (bErr_zero hbe).1; exact ⟨by omega, by omega⟩)
  clear h hbox hlt hbe hnew hok hfew
  have heq : ∀ x : World, (binOp .eql 116 (.map none) (.map none)).run Tryz.prog x = .ok (.bool true) x := fun x => by kernel_rfl
  go_enter Tryz.func90, Tryz.ntmps90
  rcases hwX.maps with ⟨rfl, rfl, rfl, rfl⟩ | ⟨mt, mp, rfl, rfl, -⟩
  · as_aux_lemma =>
    obtain ⟨v, hpv, -⟩ := H0.out.slots
    have c1 := H0.out.cell1
    have c2 := H0.out.cell2
    have hpl := H0.out.plt
    have hpA : p < w.heap.size + 1 := by omega
    have hpB : p < w.heap.size + 1 + 1 := by omega
    have hpC : p < w.heap.size + 1 + 1 + 1 := by omega
    have fz : ∀ j, w.frozen? ⟨p, j, none⟩ = false := fun j => frozen_of_row _ _ _ _ _ hpv
    have hmk1 : ∀ x : World, (Instr.makeMap 116 none).run Tryz.prog x = .ok (.map (some x.heap.size)) (x.alloc (.map #[] 0)) := run_makeMap 116
    have hmk2 : ∀ x : World, (Instr.makeMap 117 none).run Tryz.prog x = .ok (.map (some x.heap.size)) (x.alloc (.map #[] 0)) := run_makeMap 117
    have HWX := Lib.hid hwX
    have HPV := Lib.hid hpv
    clear hwX hpv
    go_wp2_with fail
    have hW1 : Kept (fun b => b = p) w ((w.setCell ⟨p, 1, none⟩ (.map (some (w.heap.size + 1 + 1)))).setCell ⟨p, 2, none⟩ (.map (some (w.heap.size + 1 + 1 + 1)))) := (Kept.setCell (F := fun b => b = p) w (p := ⟨p, 1, none⟩) rfl _).trans (Kept.setCell (F := fun b => b = p) _ (p := ⟨p, 2, none⟩) rfl _) (fun _ h => .inl h)
    have hs1 : ((w.setCell ⟨p, 1, none⟩ (.map (some (w.heap.size + 1 + 1)))).setCell ⟨p, 2, none⟩ (.map (some (w.heap.size + 1 + 1 + 1)))).heap.size = w.heap.size := by simp [World.setCell]
    obtain ⟨hW2, hs2⟩ := hW1.both hs1 (.cells #[.int .i64 r.s, .int .i64 r.g] 49)
    obtain ⟨hW3, hs3⟩ := hW2.both hs2 (.cells #[.int .i64 r.m, .int .i64 (r.f 0), .int .i64 (r.f 1), .int .i64 (r.f 2), .int .i64 (r.f 3), .int .i64 (r.f 4), .int .i64 (r.f 5), .int .i64 (r.f 6), .int .i64 (r.f 7)] 52)
    have hz : ((((w.setCell ⟨p, 1, none⟩ (.map (some (w.heap.size + 1 + 1)))).setCell ⟨p, 2, none⟩ (.map (some (w.heap.size + 1 + 1 + 1)))).alloc (.cells #[.int .i64 r.s, .int .i64 r.g] 49)).alloc (.cells #[.int .i64 r.m, .int .i64 (r.f 0), .int .i64 (r.f 1), .int .i64 (r.f 2), .int .i64 (r.f 3), .int .i64 (r.f 4), .int .i64 (r.f 5), .int .i64 (r.f 6), .int .i64 (r.f 7)] 52)).heap.size = w.heap.size + 1 + 1 := by rw [hs3]; simp
    obtain ⟨F1, c1', hw1, hkk1, hmm1⟩ := HWX.out.make (mt := w.heap.size + 1 + 1) (mp := w.heap.size + 1 + 1 + 1) (w' := ((((((w.setCell ⟨p, 1, none⟩ (.map (some (w.heap.size + 1 + 1)))).setCell ⟨p, 2, none⟩ (.map (some (w.heap.size + 1 + 1 + 1)))).alloc (.cells #[.int .i64 r.s, .int .i64 r.g] 49)).alloc (.cells #[.int .i64 r.m, .int .i64 (r.f 0), .int .i64 (r.f 1), .int .i64 (r.f 2), .int .i64 (r.f 3), .int .i64 (r.f 4), .int .i64 (r.f 5), .int .i64 (r.f 6), .int .i64 (r.f 7)] 52)).alloc (.map #[] 0)).alloc (.map #[] 0))) ((hW3.trans (Kept.alloc (fun b => b = p) _ _) (fun _ h => .inl h)).trans (Kept.alloc (fun b => b = p) _ _) (fun _ h => .inl h)) (fun v hv => by
      have hpw : w.heap[p]? = some (.cells (v :: .map none :: .map none :: zr).toArray ZT (0, 0)) := by
        rw [HX.out.block p hpl] at hv; exact hv
      rw [Below.heap_alloc _ _ _ (by simp [hz]; omega), Below.heap_alloc _ _ _ (by rw [hz]; omega), Below.heap_alloc _ _ _ (by simp [World.setCell]; omega), Below.heap_alloc _ _ _ (by simp [World.setCell]; omega)]
      rw [heap_setCell_same _ _ _ _ _ _ (heap_setCell_same _ _ _ _ _ _ hpw)]
      rfl) (by
      have := (MapIs.new kInt ((((w.setCell ⟨p, 1, none⟩ (.map (some (w.heap.size + 1 + 1)))).setCell ⟨p, 2, none⟩ (.map (some (w.heap.size + 1 + 1 + 1)))).alloc (.cells #[.int .i64 r.s, .int .i64 r.g] 49)).alloc (.cells #[.int .i64 r.m, .int .i64 (r.f 0), .int .i64 (r.f 1), .int .i64 (r.f 2), .int .i64 (r.f 3), .int .i64 (r.f 4), .int .i64 (r.f 5), .int .i64 (r.f 6), .int .i64 (r.f 7)] 52)) (ptrOf tb))
      rw [hz] at this
      exact this.later (nb_alloc (Below.refl _ _) _)) (by
      have := (MapIs.new kHand (((((w.setCell ⟨p, 1, none⟩ (.map (some (w.heap.size + 1 + 1)))).setCell ⟨p, 2, none⟩ (.map (some (w.heap.size + 1 + 1 + 1)))).alloc (.cells #[.int .i64 r.s, .int .i64 r.g] 49)).alloc (.cells #[.int .i64 r.m, .int .i64 (r.f 0), .int .i64 (r.f 1), .int .i64 (r.f 2), .int .i64 (r.f 3), .int .i64 (r.f 4), .int .i64 (r.f 5), .int .i64 (r.f 6), .int .i64 (r.f 7)] 52)).alloc (.map #[] 0)) (plV tb pl))
      rw [show (((((w.setCell ⟨p, 1, none⟩ (.map (some (w.heap.size + 1 + 1)))).setCell ⟨p, 2, none⟩ (.map (some (w.heap.size + 1 + 1 + 1)))).alloc (.cells #[.int .i64 r.s, .int .i64 r.g] 49)).alloc (.cells #[.int .i64 r.m, .int .i64 (r.f 0), .int .i64 (r.f 1), .int .i64 (r.f 2), .int .i64 (r.f 3), .int .i64 (r.f 4), .int .i64 (r.f 5), .int .i64 (r.f 6), .int .i64 (r.f 7)] 52)).alloc (.map #[] 0)).heap.size = w.heap.size + 1 + 1 + 1 by simp [hz]] at this
      exact this) (by simp) (by simp) (by omega)
    clear hW1 hs1 hW2 hs2 hW3 hs3 hz c1 c2 fz hpA hpB hpC hpl hmk1 hmk2 heq HWX HPV H0
    generalize ((((((w.setCell ⟨p, 1, none⟩ (.map (some (w.heap.size + 1 + 1)))).setCell ⟨p, 2, none⟩ (.map (some (w.heap.size + 1 + 1 + 1)))).alloc (.cells #[.int .i64 r.s, .int .i64 r.g] 49)).alloc (.cells #[.int .i64 r.m, .int .i64 (r.f 0), .int .i64 (r.f 1), .int .i64 (r.f 2), .int .i64 (r.f 3), .int .i64 (r.f 4), .int .i64 (r.f 5), .int .i64 (r.f 6), .int .i64 (r.f 7)] 52)).alloc (.map #[] 0)).alloc (.map #[] 0)) = U at *
    obtain ⟨mt, hmt⟩ : ∃ mt, mt = w.heap.size + 1 + 1 := ⟨_, rfl⟩
    obtain ⟨mp, hmp⟩ : ∃ mp, mp = w.heap.size + 1 + 1 + 1 := ⟨_, rfl⟩
    rw [← hmp, ← hmt] at hw1
    generalize ((w.alloc (.cells #[.int .i64 r.s, .int .i64 r.g] 49)).alloc (.cells #[.int .i64 r.m, .int .i64 (r.f 0), .int .i64 (r.f 1), .int .i64 (r.f 2), .int .i64 (r.f 3), .int .i64 (r.f 4), .int .i64 (r.f 5), .int .i64 (r.f 6), .int .i64 (r.f 7)] 52)) = X at *
    have HW := Lib.hid hw1
    have HK := Lib.hid hkk1
    have HM := Lib.hid hmm1
    obtain ⟨ks, hks⟩ : ∃ ks : List Int, ks = [] := ⟨_, rfl⟩
    obtain ⟨hk, hhk⟩ : ∃ hk : List (Int × Int), hk = [] := ⟨_, rfl⟩
    rw [← hks, ← hhk] at HW
    have HNK : Hid (¬ r.m ∈ ks) := Lib.hid (by rw [hks]; simp)
    clear hw1 hkk1 hmm1 hks hhk hmt hmp
    have hlk : ∀ n, (Instr.lookup 116 (.map (some mt)) (.int .i64 r.m) false).run Tryz.prog (U.drewN n) = .ok (.pointer none) (U.drewN n) := fun n => by
      have := (HW.out.later (nb_drewN (n := n) (Below.refl U.heap.size U))).lookT r.m HMI.out
      rw [if_neg HNK.out] at this; exact this
    have c1 := HW.out.cell1
    have kb0 := (HBOX.out U HK.out).b0
    have hpl := HW.out.plt
    have hBl := (HBOX.out U HK.out).lt
    have hmI := HMI.out
    go_wp2_with fail
    go_quiet (fail)
    go_wp2_with fail
    clear hlk c1 kb0
    have HW2 := Lib.hid (HW.out.later (nb_drewN (n := nq) (Below.refl U.heap.size U)))
    have HK2 : Hid (Kept F X (U.drewN nq)) := Lib.hid (HK.out.trans (Kept.ofBelow (F := F) (nb_drewN (Below.refl _ _))) (fun _ h => .inl h))
    have HM2 := HM
    clear HW HK HM
    replace hpl : p < (U.drewN nq).heap.size := hpl
    replace hBl : w.heap.size + 1 < (U.drewN nq).heap.size := hBl
    generalize U.drewN nq = V at *
    have kb0 := (HBOX.out V HK2.out).b0
    have hB0 := bErr_zero HBE.out
    go_wp2_with fail
    refine (tableNew_yes r.m _ hB0.1.1 hB0.1.2).mono ?_
    rintro e w3 ⟨q, F3, rfl, ht3, hf3, hb3⟩
    have hkX3 : Kept F X w3 := HK2.out.trans (Kept.ofBelow (F := F) hb3) (fun _ h => .inl h)
    have c13 := (HW2.out.later hb3).cell1
    have kb3 := (HBOX.out w3 hkX3).b0
    have hpl3 : p < w3.heap.size := Nat.lt_of_lt_of_le hpl hb3.size
    have hBl3 := (HBOX.out w3 hkX3).lt
    have HMT : Hid (MapIs kInt w3.drew mt ks.length ks (ptrOf tb)) := Lib.hid ((HW2.out.mapT.1.later hb3).kept (Kept.drew (fun _ => False) _) id)
    have HKL : Hid (ks.length < maxLen) := Lib.hid (by have := HW2.out.mapT.2.2.2; unfold maxLen; omega)
    have HT3 := Lib.hid ht3
    have HF3 := Lib.hid hf3
    have HB3 := Lib.hid hb3
    have HX3 := Lib.hid hkX3
    clear ht3 hf3 hb3 hkX3 kb0 hpl hBl hB0
    go_wp2_with fail
    go_still_tail 7, (by kernel_rfl)
    change wpList _ _ _ _ _ w3.drew
    clear c13 kb3
    go_wp2_with (first | (at_mapUpdate; refine wpList_put_new (K := kInt) _ rfl _ _ _ 116 rfl 192 Tryz.underlying116 rfl HMT.out HKL.out r.m HMI.out (.pointer (some ⟨q, 0, none⟩)) rfl rfl HNK.out ?_))
    intro W hmap4 hk4
    have hB0 := bErr_zero HBE.out
    obtain ⟨F4, c4, hw4, hkk4, hmm4⟩ := HW2.out.newTab HNK.out hB0.1.1 hB0.1.2 HT3.out HB3.out HF3.out ((Kept.drew (fun b => b = mt) w3).trans hk4 (fun _ h => .inl h)) hmap4.tight
    obtain ⟨ks4, hks4⟩ : ∃ ks4, ks4 = ks ++ [r.m] := ⟨_, rfl⟩
    obtain ⟨tb1, htb4⟩ : ∃ tb4 : Int → Nat, tb4 = fun j => if j = r.m then q else tb j := ⟨_, rfl⟩
    rw [← hks4, ← htb4] at hw4
    have HKM : Hid (r.m ∈ ks4) := Lib.hid (by rw [hks4]; simp)
    have HQ : Hid (tb1 r.m = q) := Lib.hid (by rw [htb4]; simp)
    have HW := Lib.hid hw4
    have HK : Hid (Kept F X W) := Lib.hid (HK2.out.trans hkk4 HM2.out)
    have HM : Hid (Moves X F F4) := Lib.hid (HM2.out.trans hmm4 HK2.out.size)
    clear hw4 hkk4 hmm4 hks4 htb4 hmap4 hk4 HW2 HK2 HM2 HT3 HF3 HB3 HX3 HMT HKL hB0 hpl3 hBl3 HNK
    have hB := HBOX.out W HK.out
    have kh0 := hB.h0
    have kh1 := hB.h1
    have kb0 := hB.b0
    have kb1 : W.cell? ⟨w.heap.size + 1, 1, none⟩ = some (.int .i64 (r.f 0)) := hB.b 0 (by decide)
    have kb2 : W.cell? ⟨w.heap.size + 1, 2, none⟩ = some (.int .i64 (r.f 1)) := hB.b 1 (by decide)
    have kb3 : W.cell? ⟨w.heap.size + 1, 3, none⟩ = some (.int .i64 (r.f 2)) := hB.b 2 (by decide)
    have kb4 : W.cell? ⟨w.heap.size + 1, 4, none⟩ = some (.int .i64 (r.f 3)) := hB.b 3 (by decide)
    have kb5 : W.cell? ⟨w.heap.size + 1, 5, none⟩ = some (.int .i64 (r.f 4)) := hB.b 4 (by decide)
    have kb6 : W.cell? ⟨w.heap.size + 1, 6, none⟩ = some (.int .i64 (r.f 5)) := hB.b 5 (by decide)
    have kb7 : W.cell? ⟨w.heap.size + 1, 7, none⟩ = some (.int .i64 (r.f 6)) := hB.b 6 (by decide)
    have kb8 : W.cell? ⟨w.heap.size + 1, 8, none⟩ = some (.int .i64 (r.f 7)) := hB.b 7 (by decide)
    have hBl := hB.lt
    obtain ⟨rws, hr60, hrin⟩ := HFEW.out
    have HTL : Hid (((tr r.m).length + 1) * 16 ≤ 140737488355328) := Lib.hid (by have := HW.out.laid.trLen hrin HKM.out; omega)
    have HHL : Hid (hk.length < maxLen) := Lib.hid (by have := HW.out.laid.hkLen HW.out.mapP.1.nodup hrin; unfold maxLen; omega)
    have HNH : Hid (¬ hd r ∈ hk) := Lib.hid (fun e => by obtain ⟨x, hx, e⟩ := (HW.out.laid.has _).1 e; exact HNEW.out x hx e)
    clear hB hr60 hrin
    go_wp2_with fail
    refine (tabAdd_any q _ r.m (tr r.m) r _ (by rw [← HQ.out]; exact HW.out.tabs r.m HKM.out) HTL.out).mono ?_
    rintro e w5 ⟨rfl, F5, ht5, hk5, hm5⟩
    rw [addL, addE, if_pos HBE.out, if_pos rfl, if_pos rfl] at ht5
    rw [addN, addE, if_pos HBE.out, if_pos rfl, if_pos rfl]
    have hk05 : 0 ≤ r.m := (HW.out.laid.key _ HKM.out).1
    have hkX5 : Kept F X w5 := HK.out.trans hk5 (fun b hb => HM.out b hb.1)
    have hB5 := HBOX.out w5 hkX5
    have l0 := hB5.h0
    have l1 := hB5.h1
    have hBl5 := hB5.lt
    have c25 := (HW.out.slots.kept hk5 (fun b hb hb' => by rw [hb.2] at hb'; omega)).cell.2
    have hpl5 : p < w5.heap.size := Nat.lt_of_lt_of_le HW.out.plt hk5.size
    have HMP : Hid (MapIs kHand w5.drew mp hk.length hk (plV tb1 pl)) := Lib.hid ((HW.out.mapP.1.kept hk5 (fun e => by rw [HW.out.mapP.2.2] at e; omega)).kept (Kept.drew (fun _ => False) _) id)
    have HT5 := Lib.hid ht5
    have HK5 := Lib.hid hk5
    have HM5 := Lib.hid hm5
    clear ht5 hk5 hm5 hk05 hkX5 hB5 kh0 kh1 kb0 kb1 kb2 kb3 kb4 kb5 kb6 kb7 kb8 hBl
    go_wp2_with fail
    go_still_tail 8, (by kernel_rfl)
    change wpList _ _ _ _ _ w5.drew
    clear l0 l1 c25
    go_wp2_with (first | (at_mapUpdate; refine wpList_put_new (K := kHand) _ rfl _ _ _ 117 rfl 194 Tryz.underlying117 rfl HMP.out HHL.out (r.s, r.g) HOK.out (.agg #[.pointer (some ⟨q, 0, none⟩), .int .i64 (tr r.m).length]) rfl rfl HNH.out ?_))
    intro w6 hmap6 hk6
    have HEND : Hid (AddWPost ZT zr w p F l R r (.returned (.tuple #[])) w6) := Lib.hid (by
      obtain ⟨F6, c6, hw6, hkk6, hmm6⟩ := HW.out.addRow HKM.out HBE.out HNH.out (by rw [HQ.out]; exact HT5.out) HK5.out HM5.out ((Kept.drew (fun b => b = mp) w5).trans hk6 (fun _ h => .inl h)) (by rw [HQ.out]; exact hmap6.tight)
      have hkk : Kept F X w6 := HK.out.trans hkk6 HM.out
      have hmm : Moves X F F6 := HM.out.trans hmm6 HK.out.size
      have hXs := HX.out.size
      exact ⟨rfl, F6, ⟨c6, _, _, _, _, _, _, _, hw6⟩, (Kept.ofBelow HX.out).trans hkk (fun _ h => .inl h), fun b hb => (hmm b hb).imp id (fun h => by omega)⟩)
    clear hmap6 hk6
    go_wp2
    go_end0
    exact HEND.out
  · have c1 := hwX.cell1
    have heqS : ∀ x : World, (binOp .eql 116 (.map (some mt)) (.map none)).run Tryz.prog x = .ok (.bool false) x := fun x => by kernel_rfl
    have hpl := hwX.plt
    have HWX := Lib.hid hwX
    clear hwX
    go_wp2_with fail
    clear c1 heqS heq hpl
    generalize ((w.alloc (.cells #[.int .i64 r.s, .int .i64 r.g] 49)).alloc (.cells #[.int .i64 r.m, .int .i64 (r.f 0), .int .i64 (r.f 1), .int .i64 (r.f 2), .int .i64 (r.f 3), .int .i64 (r.f 4), .int .i64 (r.f 5), .int .i64 (r.f 6), .int .i64 (r.f 7)] 52)) = X at *
    by_cases hkm : r.m ∈ ks
    · as_aux_lemma =>
      have c1 := HWX.out.cell1
      have kb0 := (HBOX.out X (Kept.refl _ _)).b0
      have hpl := HWX.out.plt
      have hBl := (HBOX.out X (Kept.refl _ _)).lt
      obtain ⟨q, hq⟩ : ∃ q, tb r.m = q := ⟨_, rfl⟩
      have hlk : ∀ n, (Instr.lookup 116 (.map (some mt)) (.int .i64 r.m) false).run Tryz.prog (X.drewN n) = .ok (.pointer (some ⟨q, 0, none⟩)) (X.drewN n) := fun n => by
        have := (HWX.out.later (nb_drewN (n := n) (Below.refl X.heap.size X))).lookT r.m HMI.out
        rw [if_pos hkm, ptrOf, hq] at this; exact this
      have HQ := Lib.hid hq
      have HKM := Lib.hid hkm
      clear hq hkm
      go_quiet (fail)
      clear hlk c1 kb0
      have HW : Hid (WldIs ZT zr (X.drewN nq) p F c l (.map (some mt)) (.map (some mp)) ks tb tr hk pl R) := Lib.hid (HWX.out.later (nb_drewN (Below.refl _ _)))
      have HK : Hid (Kept F X (X.drewN nq)) := Lib.hid (Kept.ofBelow (nb_drewN (Below.refl _ _)))
      have HM : Hid (Moves X F F) := Lib.hid (Moves.refl _ _)
      replace hpl : p < (X.drewN nq).heap.size := hpl
      replace hBl : w.heap.size + 1 < (X.drewN nq).heap.size := hBl
      clear HWX
      generalize X.drewN nq = W at *
      generalize htb : tb = tb1 at *
      clear htb
      have hB := HBOX.out W HK.out
      have kh0 := hB.h0
      have kh1 := hB.h1
      have kb0 := hB.b0
      have kb1 : W.cell? ⟨w.heap.size + 1, 1, none⟩ = some (.int .i64 (r.f 0)) := hB.b 0 (by decide)
      have kb2 : W.cell? ⟨w.heap.size + 1, 2, none⟩ = some (.int .i64 (r.f 1)) := hB.b 1 (by decide)
      have kb3 : W.cell? ⟨w.heap.size + 1, 3, none⟩ = some (.int .i64 (r.f 2)) := hB.b 2 (by decide)
      have kb4 : W.cell? ⟨w.heap.size + 1, 4, none⟩ = some (.int .i64 (r.f 3)) := hB.b 3 (by decide)
      have kb5 : W.cell? ⟨w.heap.size + 1, 5, none⟩ = some (.int .i64 (r.f 4)) := hB.b 4 (by decide)
      have kb6 : W.cell? ⟨w.heap.size + 1, 6, none⟩ = some (.int .i64 (r.f 5)) := hB.b 5 (by decide)
      have kb7 : W.cell? ⟨w.heap.size + 1, 7, none⟩ = some (.int .i64 (r.f 6)) := hB.b 6 (by decide)
      have kb8 : W.cell? ⟨w.heap.size + 1, 8, none⟩ = some (.int .i64 (r.f 7)) := hB.b 7 (by decide)
      have hBl := hB.lt
      obtain ⟨rws, hr60, hrin⟩ := HFEW.out
      have HTL : Hid (((tr r.m).length + 1) * 16 ≤ 140737488355328) := Lib.hid (by have := HW.out.laid.trLen hrin HKM.out; omega)
      have HHL : Hid (hk.length < maxLen) := Lib.hid (by have := HW.out.laid.hkLen HW.out.mapP.1.nodup hrin; unfold maxLen; omega)
      have HNH : Hid (¬ hd r ∈ hk) := Lib.hid (fun e => by obtain ⟨x, hx, e⟩ := (HW.out.laid.has _).1 e; exact HNEW.out x hx e)
      clear hB hr60 hrin
      go_wp2_with fail
      refine (tabAdd_any q _ r.m (tr r.m) r _ (by rw [← HQ.out]; exact HW.out.tabs r.m HKM.out) HTL.out).mono ?_
      rintro e w5 ⟨rfl, F5, ht5, hk5, hm5⟩
      rw [addL, addE, if_pos HBE.out, if_pos rfl, if_pos rfl] at ht5
      rw [addN, addE, if_pos HBE.out, if_pos rfl, if_pos rfl]
      have hk05 : 0 ≤ r.m := (HW.out.laid.key _ HKM.out).1
      have hkX5 : Kept F X w5 := HK.out.trans hk5 (fun b hb => HM.out b hb.1)
      have hB5 := HBOX.out w5 hkX5
      have l0 := hB5.h0
      have l1 := hB5.h1
      have hBl5 := hB5.lt
      have c25 := (HW.out.slots.kept hk5 (fun b hb hb' => by rw [hb.2] at hb'; omega)).cell.2
      have hpl5 : p < w5.heap.size := Nat.lt_of_lt_of_le HW.out.plt hk5.size
      have HMP : Hid (MapIs kHand w5.drew mp hk.length hk (plV tb1 pl)) := Lib.hid ((HW.out.mapP.1.kept hk5 (fun e => by rw [HW.out.mapP.2.2] at e; omega)).kept (Kept.drew (fun _ => False) _) id)
      have HT5 := Lib.hid ht5
      have HK5 := Lib.hid hk5
      have HM5 := Lib.hid hm5
      clear ht5 hk5 hm5 hk05 hkX5 hB5 kh0 kh1 kb0 kb1 kb2 kb3 kb4 kb5 kb6 kb7 kb8 hBl
      go_wp2_with fail
      go_still_tail 8, (by kernel_rfl)
      change wpList _ _ _ _ _ w5.drew
      clear l0 l1 c25
      go_wp2_with (first | (at_mapUpdate; refine wpList_put_new (K := kHand) _ rfl _ _ _ 117 rfl 194 Tryz.underlying117 rfl HMP.out HHL.out (r.s, r.g) HOK.out (.agg #[.pointer (some ⟨q, 0, none⟩), .int .i64 (tr r.m).length]) rfl rfl HNH.out ?_))
      intro w6 hmap6 hk6
      have HEND : Hid (AddWPost ZT zr w p F l R r (.returned (.tuple #[])) w6) := Lib.hid (by
        obtain ⟨F6, c6, hw6, hkk6, hmm6⟩ := HW.out.addRow HKM.out HBE.out HNH.out (by rw [HQ.out]; exact HT5.out) HK5.out HM5.out ((Kept.drew (fun b => b = mp) w5).trans hk6 (fun _ h => .inl h)) (by rw [HQ.out]; exact hmap6.tight)
        have hkk : Kept F X w6 := HK.out.trans hkk6 HM.out
        have hmm : Moves X F F6 := HM.out.trans hmm6 HK.out.size
        have hXs := HX.out.size
        exact ⟨rfl, F6, ⟨c6, _, _, _, _, _, _, _, hw6⟩, (Kept.ofBelow HX.out).trans hkk (fun _ h => .inl h), fun b hb => (hmm b hb).imp id (fun h => by omega)⟩)
      clear hmap6 hk6
      go_wp2
      go_end0
      exact HEND.out
    · as_aux_lemma =>
      obtain ⟨U, hUX⟩ : ∃ U, U = X := ⟨_, rfl⟩
      rw [← hUX]
      have HW : Hid (WldIs ZT zr U p F c l (.map (some mt)) (.map (some mp)) ks tb tr hk pl R) := Lib.hid (by rw [hUX]; exact HWX.out)
      have HK : Hid (Kept F X U) := Lib.hid (by rw [hUX]; exact Kept.refl _ _)
      have HM : Hid (Moves X F F) := Lib.hid (Moves.refl _ _)
      have HNK := Lib.hid hkm
      clear HWX hUX hkm
      have hlk : ∀ n, (Instr.lookup 116 (.map (some mt)) (.int .i64 r.m) false).run Tryz.prog (U.drewN n) = .ok (.pointer none) (U.drewN n) := fun n => by
        have := (HW.out.later (nb_drewN (n := n) (Below.refl U.heap.size U))).lookT r.m HMI.out
        rw [if_neg HNK.out] at this; exact this
      have c1 := HW.out.cell1
      have kb0 := (HBOX.out U HK.out).b0
      have hpl := HW.out.plt
      have hBl := (HBOX.out U HK.out).lt
      have hmI := HMI.out
      go_wp2_with fail
      go_quiet (fail)
      go_wp2_with fail
      clear hlk c1 kb0
      have HW2 := Lib.hid (HW.out.later (nb_drewN (n := nq) (Below.refl U.heap.size U)))
      have HK2 : Hid (Kept F X (U.drewN nq)) := Lib.hid (HK.out.trans (Kept.ofBelow (F := F) (nb_drewN (Below.refl _ _))) (fun _ h => .inl h))
      have HM2 := HM
      clear HW HK HM
      replace hpl : p < (U.drewN nq).heap.size := hpl
      replace hBl : w.heap.size + 1 < (U.drewN nq).heap.size := hBl
      generalize U.drewN nq = V at *
      have kb0 := (HBOX.out V HK2.out).b0
      have hB0 := bErr_zero HBE.out
      go_wp2_with fail
      refine (tableNew_yes r.m _ hB0.1.1 hB0.1.2).mono ?_
      rintro e w3 ⟨q, F3, rfl, ht3, hf3, hb3⟩
      have hkX3 : Kept F X w3 := HK2.out.trans (Kept.ofBelow (F := F) hb3) (fun _ h => .inl h)
      have c13 := (HW2.out.later hb3).cell1
      have kb3 := (HBOX.out w3 hkX3).b0
      have hpl3 : p < w3.heap.size := Nat.lt_of_lt_of_le hpl hb3.size
      have hBl3 := (HBOX.out w3 hkX3).lt
      have HMT : Hid (MapIs kInt w3.drew mt ks.length ks (ptrOf tb)) := Lib.hid ((HW2.out.mapT.1.later hb3).kept (Kept.drew (fun _ => False) _) id)
      have HKL : Hid (ks.length < maxLen) := Lib.hid (by have := HW2.out.mapT.2.2.2; unfold maxLen; omega)
      have HT3 := Lib.hid ht3
      have HF3 := Lib.hid hf3
      have HB3 := Lib.hid hb3
      have HX3 := Lib.hid hkX3
      clear ht3 hf3 hb3 hkX3 kb0 hpl hBl hB0
      go_wp2_with fail
      go_still_tail 7, (by kernel_rfl)
      change wpList _ _ _ _ _ w3.drew
      clear c13 kb3
      go_wp2_with (first | (at_mapUpdate; refine wpList_put_new (K := kInt) _ rfl _ _ _ 116 rfl 192 Tryz.underlying116 rfl HMT.out HKL.out r.m HMI.out (.pointer (some ⟨q, 0, none⟩)) rfl rfl HNK.out ?_))
      intro W hmap4 hk4
      have hB0 := bErr_zero HBE.out
      obtain ⟨F4, c4, hw4, hkk4, hmm4⟩ := HW2.out.newTab HNK.out hB0.1.1 hB0.1.2 HT3.out HB3.out HF3.out ((Kept.drew (fun b => b = mt) w3).trans hk4 (fun _ h => .inl h)) hmap4.tight
      obtain ⟨ks4, hks4⟩ : ∃ ks4, ks4 = ks ++ [r.m] := ⟨_, rfl⟩
      obtain ⟨tb1, htb4⟩ : ∃ tb4 : Int → Nat, tb4 = fun j => if j = r.m then q else tb j := ⟨_, rfl⟩
      rw [← hks4, ← htb4] at hw4
      have HKM : Hid (r.m ∈ ks4) := Lib.hid (by rw [hks4]; simp)
      have HQ : Hid (tb1 r.m = q) := Lib.hid (by rw [htb4]; simp)
      have HW := Lib.hid hw4
      have HK : Hid (Kept F X W) := Lib.hid (HK2.out.trans hkk4 HM2.out)
      have HM : Hid (Moves X F F4) := Lib.hid (HM2.out.trans hmm4 HK2.out.size)
      clear hw4 hkk4 hmm4 hks4 htb4 hmap4 hk4 HW2 HK2 HM2 HT3 HF3 HB3 HX3 HMT HKL hB0 hpl3 hBl3 HNK
      have hB := HBOX.out W HK.out
      have kh0 := hB.h0
      have kh1 := hB.h1
      have kb0 := hB.b0
      have kb1 : W.cell? ⟨w.heap.size + 1, 1, none⟩ = some (.int .i64 (r.f 0)) := hB.b 0 (by decide)
      have kb2 : W.cell? ⟨w.heap.size + 1, 2, none⟩ = some (.int .i64 (r.f 1)) := hB.b 1 (by decide)
      have kb3 : W.cell? ⟨w.heap.size + 1, 3, none⟩ = some (.int .i64 (r.f 2)) := hB.b 2 (by decide)
      have kb4 : W.cell? ⟨w.heap.size + 1, 4, none⟩ = some (.int .i64 (r.f 3)) := hB.b 3 (by decide)
      have kb5 : W.cell? ⟨w.heap.size + 1, 5, none⟩ = some (.int .i64 (r.f 4)) := hB.b 4 (by decide)
      have kb6 : W.cell? ⟨w.heap.size + 1, 6, none⟩ = some (.int .i64 (r.f 5)) := hB.b 5 (by decide)
      have kb7 : W.cell? ⟨w.heap.size + 1, 7, none⟩ = some (.int .i64 (r.f 6)) := hB.b 6 (by decide)
      have kb8 : W.cell? ⟨w.heap.size + 1, 8, none⟩ = some (.int .i64 (r.f 7)) := hB.b 7 (by decide)
      have hBl := hB.lt
      obtain ⟨rws, hr60, hrin⟩ := HFEW.out
      have HTL : Hid (((tr r.m).length + 1) * 16 ≤ 140737488355328) := Lib.hid (by have := HW.out.laid.trLen hrin HKM.out; omega)
      have HHL : Hid (hk.length < maxLen) := Lib.hid (by have := HW.out.laid.hkLen HW.out.mapP.1.nodup hrin; unfold maxLen; omega)
      have HNH : Hid (¬ hd r ∈ hk) := Lib.hid (fun e => by obtain ⟨x, hx, e⟩ := (HW.out.laid.has _).1 e; exact HNEW.out x hx e)
      clear hB hr60 hrin
      go_wp2_with fail
      refine (tabAdd_any q _ r.m (tr r.m) r _ (by rw [← HQ.out]; exact HW.out.tabs r.m HKM.out) HTL.out).mono ?_
      rintro e w5 ⟨rfl, F5, ht5, hk5, hm5⟩
      rw [addL, addE, if_pos HBE.out, if_pos rfl, if_pos rfl] at ht5
      rw [addN, addE, if_pos HBE.out, if_pos rfl, if_pos rfl]
      have hk05 : 0 ≤ r.m := (HW.out.laid.key _ HKM.out).1
      have hkX5 : Kept F X w5 := HK.out.trans hk5 (fun b hb => HM.out b hb.1)
      have hB5 := HBOX.out w5 hkX5
      have l0 := hB5.h0
      have l1 := hB5.h1
      have hBl5 := hB5.lt
      have c25 := (HW.out.slots.kept hk5 (fun b hb hb' => by rw [hb.2] at hb'; omega)).cell.2
      have hpl5 : p < w5.heap.size := Nat.lt_of_lt_of_le HW.out.plt hk5.size
      have HMP : Hid (MapIs kHand w5.drew mp hk.length hk (plV tb1 pl)) := Lib.hid ((HW.out.mapP.1.kept hk5 (fun e => by rw [HW.out.mapP.2.2] at e; omega)).kept (Kept.drew (fun _ => False) _) id)
      have HT5 := Lib.hid ht5
      have HK5 := Lib.hid hk5
      have HM5 := Lib.hid hm5
      clear ht5 hk5 hm5 hk05 hkX5 hB5 kh0 kh1 kb0 kb1 kb2 kb3 kb4 kb5 kb6 kb7 kb8 hBl
      go_wp2_with fail
      go_still_tail 8, (by kernel_rfl)
      change wpList _ _ _ _ _ w5.drew
      clear l0 l1 c25
      go_wp2_with (first | (at_mapUpdate; refine wpList_put_new (K := kHand) _ rfl _ _ _ 117 rfl 194 Tryz.underlying117 rfl HMP.out HHL.out (r.s, r.g) HOK.out (.agg #[.pointer (some ⟨q, 0, none⟩), .int .i64 (tr r.m).length]) rfl rfl HNH.out ?_))
      intro w6 hmap6 hk6
      have HEND : Hid (AddWPost ZT zr w p F l R r (.returned (.tuple #[])) w6) := Lib.hid (by
        obtain ⟨F6, c6, hw6, hkk6, hmm6⟩ := HW.out.addRow HKM.out HBE.out HNH.out (by rw [HQ.out]; exact HT5.out) HK5.out HM5.out ((Kept.drew (fun b => b = mp) w5).trans hk6 (fun _ h => .inl h)) (by rw [HQ.out]; exact hmap6.tight)
        have hkk : Kept F X w6 := HK.out.trans hkk6 HM.out
        have hmm : Moves X F F6 := HM.out.trans hmm6 HK.out.size
        have hXs := HX.out.size
        exact ⟨rfl, F6, ⟨c6, _, _, _, _, _, _, _, hw6⟩, (Kept.ofBelow HX.out).trans hkk (fun _ h => .inl h), fun b hb => (hmm b hb).imp id (fun h => by omega)⟩)
      clear hmap6 hk6
      go_wp2
      go_end0
      exact HEND.out
end Go.Proofs.YtndhomjfjhohoaaGreatDoor

/- The contract of remove of package world. -/
namespace Go.Proofs.YtndhomjfjhohoaaGreatDoor
set_option maxRecDepth 8000
open Go.RowKit
variable {ZT : TypeId} {zr : List Value}

end Go.Proofs.YtndhomjfjhohoaaGreatDoor

/- The contract of move of package world. -/
namespace Go.Proofs.YtndhomjfjhohoaaGreatDoor
set_option maxRecDepth 8000
open Go.RowKit
variable {ZT : TypeId} {zr : List Value}

end Go.Proofs.YtndhomjfjhohoaaGreatDoor

/- The contract of find of package world; sets of one component. -/
namespace Go.Proofs.YtndhomjfjhohoaaGreatDoor
set_option maxRecDepth 8000
open Go.RowKit
variable {ZT : TypeId} {zr : List Value}

theorem Ints.one (w : World) (x : Int) (t : TypeId) : Ints (w.alloc (.cells #[.int .i64 x] t)) (.slice (some ⟨w.heap.size, 0, none⟩) 1 1) [x] := by
  refine ⟨_, 1, rfl, by simp, by simp [maxLen], fun k hk => ⟨_, _, rfl, by simp, ?_⟩⟩
  simp at hk
  subst hk
  simp

end Go.Proofs.YtndhomjfjhohoaaGreatDoor

/- The contract of Kill of package world. -/
namespace Go.Proofs.YtndhomjfjhohoaaGreatDoor
set_option maxRecDepth 8000
open Go.RowKit
variable {ZT : TypeId} {zr : List Value}

end Go.Proofs.YtndhomjfjhohoaaGreatDoor

/- The contract of Drop of package world. -/
namespace Go.Proofs.YtndhomjfjhohoaaGreatDoor
set_option maxRecDepth 8000
open Go.RowKit
variable {ZT : TypeId} {zr : List Value}

end Go.Proofs.YtndhomjfjhohoaaGreatDoor

/- The contract of Put of package world. -/
namespace Go.Proofs.YtndhomjfjhohoaaGreatDoor
set_option maxRecDepth 8000
open Go.RowKit
variable {ZT : TypeId} {zr : List Value}

end Go.Proofs.YtndhomjfjhohoaaGreatDoor

/- The contract of Spawn of package world. -/
namespace Go.Proofs.YtndhomjfjhohoaaGreatDoor
set_option maxRecDepth 8000
open Go.RowKit
variable {ZT : TypeId} {zr : List Value}

end Go.Proofs.YtndhomjfjhohoaaGreatDoor

/- The reference's slots in memory; the contracts of its All, Is and Free. -/
namespace Go.Proofs.YtndhomjfjhohoaaGreatDoor
open Go.RowKit

def livesL (l : List (Int × Bool)) : List Bool := l.map (·.2)
theorem gensL_len (l : List (Int × Bool)) : (gensL l).length = l.length := by simp [gensL]
theorem livesL_len (l : List (Int × Bool)) : (livesL l).length = l.length := by simp [livesL]
theorem gensL_at (l : List (Int × Bool)) (k : Nat) : (gensL l).getD k 0 = (l.getD k slotZ).1 := by
  simp only [gensL, List.getD_eq_getElem?_getD, List.getElem?_map]
  cases l[k]? <;> rfl
theorem livesL_at (l : List (Int × Bool)) (k : Nat) : (livesL l).getD k false = (l.getD k slotZ).2 := by
  simp only [livesL, List.getD_eq_getElem?_getD, List.getElem?_map]
  cases l[k]? <;> rfl

/-- At block q, first in it, lie the reference's slots l, in the blocks G; 'rest': what else lies in block q. -/
def RefAt (w : World) (q : Nat) (T : TypeId) (rest : List Value) (G : Nat → Prop) (l : List (Int × Bool)) : Prop :=
  ∃ vg vl, w.heap[q]? = some (.cells (vg :: vl :: rest).toArray T (0, 0)) ∧ Owns elInt w 3 vg (gensL l) ∧ Owns elBool w 4 vl (livesL l) ∧ G q ∧
    (∀ k, vg.ownBlock = some k → G k ∧ k ≠ q) ∧ (∀ k, vl.ownBlock = some k → G k ∧ k ≠ q ∧ vg.ownBlock ≠ some k) ∧ (∀ k, G k → k < w.heap.size)

theorem RefAt.kept {w w' : World} {q : Nat} {T : TypeId} {rest : List Value} {G F : Nat → Prop} {l : List (Int × Bool)} (h : RefAt w q T rest G l) (hk : Kept F w w') (hf : ∀ k, G k → ¬ F k) : RefAt w' q T rest G l := by
  obtain ⟨vg, vl, hq, hg, hl, hG, hvg, hvl, hlt⟩ := h
  refine ⟨vg, vl, ?_, hg.kept hk (fun k e => hf k (hvg k e).1), hl.kept hk (fun k e => hf k (hvl k e).1), hG, hvg, hvl, fun k hk' => Nat.lt_of_lt_of_le (hlt k hk') hk.size⟩
  rw [hk.block q (hlt q hG) (hf q hG)]; exact hq
theorem RefAt.later {w w' : World} {q : Nat} {T : TypeId} {rest : List Value} {G : Nat → Prop} {l : List (Int × Bool)} (h : RefAt w q T rest G l) (hb : Below w.heap.size w w') : RefAt w' q T rest G l :=
  h.kept (F := fun _ => False) (Kept.ofBelow hb) (fun _ _ f => f)
theorem RefAt.lt {w : World} {q : Nat} {T : TypeId} {rest : List Value} {G : Nat → Prop} {l : List (Int × Bool)} (h : RefAt w q T rest G l) : ∀ k, G k → k < w.heap.size := by
  obtain ⟨vg, vl, hq, hg, hl, hG, hvg, hvl, hlt⟩ := h; exact hlt


/-- What the walks read: the two slices, their cells at k. -/
theorem RefAt.cells {w : World} {q : Nat} {T : TypeId} {rest : List Value} {G : Nat → Prop} {l : List (Int × Bool)} (h : RefAt w q T rest G l) :
    l.length ≤ 0 ∧ (∃ a c a' c', w.cell? ⟨q, 0, none⟩ = some (.slice a l.length c) ∧ w.cell? ⟨q, 1, none⟩ = some (.slice a' l.length c')) ∨
    ∃ b c b' c', w.cell? ⟨q, 0, none⟩ = some (.slice (some ⟨b, 0, none⟩) l.length c) ∧ w.cell? ⟨q, 1, none⟩ = some (.slice (some ⟨b', 0, none⟩) l.length c') ∧ b < w.heap.size ∧ b' < w.heap.size ∧ l.length ≤ c ∧ l.length ≤ c' ∧ c ≤ maxLen ∧ c' ≤ maxLen ∧
      (∀ k, k < l.length → w.cell? ⟨b, k, none⟩ = some (.int .i64 (l.getD k slotZ).1)) ∧ (∀ k, k < l.length → w.cell? ⟨b', k, none⟩ = some (.bool (l.getD k slotZ).2)) := by
  obtain ⟨vg, vl, hq, hg, hl, hG, hvg, hvl, hlt⟩ := h
  have q0 : w.cell? ⟨q, 0, none⟩ = some vg := by rw [cell_of_row _ _ _ _ _ _ hq]; simp
  have q1 : w.cell? ⟨q, 1, none⟩ = some vl := by rw [cell_of_row _ _ _ _ _ _ hq]; simp
  by_cases e : l.length ≤ 0
  · obtain ⟨a, c, rfl, _⟩ := hg.reads
    obtain ⟨a', c', rfl, _⟩ := hl.reads
    rw [gensL_len] at q0; rw [livesL_len] at q1
    exact .inl ⟨e, a, c, a', c', q0, q1⟩
  · rcases hg.form with ⟨rfl, e0⟩ | ⟨b, c, cur, rfl, _, hb, hn, hc, _⟩
    · have := gensL_len l; rw [e0] at this; simp at this; omega
    rcases hl.form with ⟨rfl, e0⟩ | ⟨b', c', cur', rfl, _, hb', hn', hc', _⟩
    · have := livesL_len l; rw [e0] at this; simp at this; omega
    obtain ⟨_, ⟨_, _, ea, e1⟩ | ⟨_, _, _, ea, _, _, _, h1⟩⟩ := hg.reads.open
    · rw [gensL_len] at e1; omega
    obtain ⟨_, ⟨_, _, ea', e1⟩ | ⟨_, _, _, ea', _, _, _, h1'⟩⟩ := hl.reads.open
    · rw [livesL_len] at e1; omega
    simp only [Value.slice.injEq, Option.some.injEq, Addr.mk.injEq] at ea ea'
    obtain ⟨⟨rfl, rfl, _⟩, _, rfl⟩ := ea
    obtain ⟨⟨rfl, rfl, _⟩, _, rfl⟩ := ea'
    rw [gensL_len] at q0 h1 hn
    rw [livesL_len] at q1 h1' hn'
    refine .inr ⟨b, c, b', c', q0, q1, hb, hb', hn, hn', hc, hc', fun k hk => ?_, fun k hk => ?_⟩
    · have := cells1 rfl h1 hk
      rw [show elInt.zero = 0 from rfl, gensL_at, Nat.zero_add] at this; exact this
    · have := cells1 rfl h1' hk
      rw [show elBool.zero = false from rfl, livesL_at, Nat.zero_add] at this; exact this

theorem RefAt.drew {w : World} {q : Nat} {T : TypeId} {rest : List Value} {G : Nat → Prop} {l : List (Int × Bool)} (h : RefAt w q T rest G l) : RefAt w.drew q T rest G l := h.kept (Kept.drew (fun _ => False) w) (fun _ _ f => f)

theorem gensL_set (l : List (Int × Bool)) (i : Nat) (x : Int × Bool) : gensL (l.set i x) = (gensL l).set i x.1 := by simp [gensL, List.map_set]
theorem livesL_set (l : List (Int × Bool)) (i : Nat) (x : Int × Bool) : livesL (l.set i x) = (livesL l).set i x.2 := by simp [livesL, List.map_set]

/-- Where there is a slot i. -/
theorem RefAt.open {w : World} {q : Nat} {T : TypeId} {rest : List Value} {G : Nat → Prop} {l : List (Int × Bool)} (h : RefAt w q T rest G l) {i : Nat} (hi : i < l.length) :
    ∃ g c g' c', w.heap[q]? = some (.cells (.slice (some ⟨g, 0, none⟩) l.length c :: .slice (some ⟨g', 0, none⟩) l.length c' :: rest).toArray T (0, 0)) ∧
      Owns elInt w 3 (.slice (some ⟨g, 0, none⟩) l.length c) (gensL l) ∧ Owns elBool w 4 (.slice (some ⟨g', 0, none⟩) l.length c') (livesL l) ∧ G q ∧ G g ∧ G g' ∧ g ≠ q ∧ g' ≠ q ∧ g ≠ g' ∧ (∀ k, G k → k < w.heap.size) ∧
      w.cell? ⟨q, 0, none⟩ = some (.slice (some ⟨g, 0, none⟩) l.length c) ∧ w.cell? ⟨q, 1, none⟩ = some (.slice (some ⟨g', 0, none⟩) l.length c') ∧
      w.cell? ⟨g, i, none⟩ = some (.int .i64 (l.getD i slotZ).1) ∧ w.cell? ⟨g', i, none⟩ = some (.bool (l.getD i slotZ).2) ∧ w.frozen? ⟨g, i, none⟩ = false ∧ w.frozen? ⟨g', i, none⟩ = false := by
  obtain ⟨vg, vl, hq, hg, hl, hG, hvg, hvl, hlt⟩ := h
  rcases hg.form with ⟨rfl, e0⟩ | ⟨b, c, cur, rfl, _, hb, hn, hc, _⟩
  · have := gensL_len l; rw [e0] at this; simp at this; omega
  rcases hl.form with ⟨rfl, e0⟩ | ⟨b', c', cur', rfl, _, hb', hn', hc', _⟩
  · have := livesL_len l; rw [e0] at this; simp at this; omega
  obtain ⟨x1, x2, _⟩ := OwnsF.open1 (E := elInt) rfl (show OwnsF elInt w 0 3 _ _ from hg) (k := i) (by rw [gensL_len]; exact hi)
  obtain ⟨y1, y2, _⟩ := OwnsF.open1 (E := elBool) rfl (show OwnsF elBool w 0 4 _ _ from hl) (k := i) (by rw [livesL_len]; exact hi)
  rw [show elInt.zero = 0 from rfl, gensL_at] at x1
  rw [show elBool.zero = false from rfl, livesL_at] at y1
  have q0 := cell_of_row w q 0 _ _ _ hq
  have q1 := cell_of_row w q 1 _ _ _ hq
  rw [gensL_len] at hq hg q0 q1
  rw [livesL_len] at hq hl q1
  simp at q0 q1
  exact ⟨b, c, b', c', hq, hg, hl, hG, (hvg b rfl).1, (hvl b' rfl).1, (hvg b rfl).2, (hvl b' rfl).2.1, fun e => (hvl b' rfl).2.2 (by rw [e]; rfl), hlt, q0, q1, x1, y1, x2, y2⟩

theorem Owns.stored1 {α : Type} {E : El α} (hE : E.size = 1) {w : World} {T : TypeId} {g n cap : Nat} {xs : List α} (h : Owns E w T (.slice (some ⟨g, 0, none⟩) n cap) xs) (k : Nat) (x : α) (u : Value)
    (hk : k < xs.length) (hx : E.enc x = (E.enc (xs.getD k E.zero)).set 0 u) : Owns E (w.setCell ⟨g, k, none⟩ u) T (.slice (some ⟨g, 0, none⟩) n cap) (xs.set k x) := by
  have := h.stored k 0 x u hk (by omega) hx
  rwa [hE, Nat.mul_one, Nat.add_zero] at this

end Go.Proofs.YtndhomjfjhohoaaGreatDoor

/- The contracts of Index, Contains, listOf, enliven and Load of package slots. -/
namespace Go.Proofs.YtndhomjfjhohoaaGreatDoor
set_option maxRecDepth 8000
open Go.RowKit

/-- what Index answers -/
def idxI (l : List (Int × Bool)) (x : Int × Bool) : Int := if x ∈ l then (l.idxOf x : Int) else -1
theorem idxI_mem {l : List (Int × Bool)} {x : Int × Bool} {k : Nat} (hk : k < l.length) (h : ∀ j, j < k → l.getD j slotZ ≠ x) (hx : l.getD k slotZ = x) : idxI l x = k := by
  have hm : x ∈ l := by rw [← hx]; exact memD hk
  rw [idxI, if_pos hm]
  congr 1
  have e : l[k] = x := by rw [← hx, List.getD_eq_getElem?_getD, List.getElem?_eq_getElem hk]; rfl
  have h1 : l.idxOf x < l.length := List.idxOf_lt_length_of_mem hm
  have h2 : l[l.idxOf x] = x := List.getElem_idxOf h1
  rcases Nat.lt_trichotomy (l.idxOf x) k with hlt | heq | hgt
  · exact absurd (by rw [List.getD_eq_getElem?_getD, List.getElem?_eq_getElem h1]; exact h2) (h _ hlt)
  · exact heq
  · have := List.not_of_lt_findIdx (p := (· == x)) (xs := l) hgt
    simp [e] at this
theorem idxI_nonneg {l : List (Int × Bool)} {x : Int × Bool} : decide (0 ≤ idxI l x) = decide (x ∈ l) := by
  unfold idxI; split <;> simp [*]

set_option maxHeartbeats 1000000 in
theorem slotIndex_any (v : Value) (l : List (Int × Bool)) (x : Int × Bool) (w : World) (h : Reads elSlot w v l) :
    Calls Tryz.prog 202 #[v, .agg #[.int .i64 x.1, .bool x.2]] w fun e w' => e = .returned (.int .i64 (idxI l x)) ∧ Below w.heap.size w w' := by
  obtain ⟨x1, x2⟩ := x
  obtain ⟨hm, h⟩ := h.open
  unfold maxLen at hm
  generalize hn : l.length = n at *
  have HN := Lib.hid hn
  clear hn
  rcases h with ⟨a, cap, rfl, hz⟩ | ⟨b, off, cap, rfl, hb, hlc, hcm, hc⟩
  all_goals
    go_enter Tryz.func202, Tryz.ntmps202
    go_wp2
    go_loopw [8] (fun i wr => ∃ k : Nat, k ≤ n ∧ i = .int .i64 k ∧ Hid (∀ j, j < k → l.getD j slotZ ≠ (x1, x2)) ∧ Hid (Below (w.heap.size + 1) (w.alloc (.cells #[.int .i64 x1, .bool x2] 201)) wr)) (fun i _ => n - (intOf i).toNat)
    case atStart => exact ⟨0, by omega, rfl, fun j hj => by omega, Below.refl _ _⟩
    case round =>
      obtain ⟨k, hk, rfl, hno, hB⟩ := hrel
      have HBW : Hid (Below w.heap.size w wr) := Lib.hid ((nb_alloc (Below.refl _ _) _).trans (hB.out.mono (by omega)))
      by_cases hlt : k < n
      · first
          | omega
          | (obtain ⟨c0, c1⟩ := cells2 rfl hc hlt
             clear hc
             have c0' : wr.cell? ⟨b, off + k * 2, none⟩ = some (.int .i64 (l.getD k slotZ).1) := by rw [HBW.out.cell (p := ⟨b, _, none⟩) hb, c0]; rfl
             have c1' : wr.cell? ⟨b, off + k * 2 + 1, none⟩ = some (.bool (l.getD k slotZ).2) := by rw [HBW.out.cell (p := ⟨b, _, none⟩) hb, c1]; rfl
             have k0 : wr.cell? ⟨w.heap.size, 0, none⟩ = some (.int .i64 x1) := by rw [hB.out.cell (p := ⟨w.heap.size, 0, none⟩) (by simp)]; simp
             have k1 : wr.cell? ⟨w.heap.size, 1, none⟩ = some (.bool x2) := by rw [hB.out.cell (p := ⟨w.heap.size, 1, none⟩) (by simp)]; simp
             clear c0 c1
             have HI : Hid (l.getD k slotZ = (x1, x2) → idxI l (x1, x2) = k) := Lib.hid (fun e => idxI_mem (by rw [HN.out]; exact hlt) hno.out e)
             generalize hy : l.getD k slotZ = y at *
             have HY := Lib.hid hy
             clear hy
             obtain ⟨y1, y2⟩ := y
             cases h1 : (x1 == y1) <;> cases x2 <;> cases y2
             all_goals
               go_wp2
               go_quiet (fail)
               go_wp2
               first
                 | (go_roundw
                    case rel => exact ⟨k + 1, by omega, by go_num, fun j hj => if e : j = k then by rw [e, HY.out]; intro e2; simp only [Prod.mk.injEq] at e2; obtain ⟨rfl, e3⟩ := e2; first | (simp at h1; done) | (cases e3; done) else hno.out j (by omega), nb_drewN hB.out⟩
                    case measure => simp [intOf]; omega)
                 | (go_ret
                    obtain rfl := eq_of_beq h1
                    exact ⟨ret_int (HI.out rfl).symm, nb_drewN HBW.out⟩))
      · obtain rfl : k = n := by omega
        go_wp2
        go_ret
        exact ⟨ret_int (by rw [idxI, if_neg (notMemD (by rw [HN.out]; exact hno.out))]), HBW.out⟩

set_option maxHeartbeats 400000 in
theorem slotContains_any (v : Value) (l : List (Int × Bool)) (x : Int × Bool) (w : World) (h : Reads elSlot w v l) :
    Calls Tryz.prog 167 #[v, .agg #[.int .i64 x.1, .bool x.2]] w fun e w' => e = .returned (.bool (decide (x ∈ l))) ∧ Below w.heap.size w w' := by
  have HI := Lib.hid (idxI_nonneg (l := l) (x := x))
  have HR := Lib.hid (h.later (nb_alloc (Below.refl _ _) (.cells #[.int .i64 x.1, .bool x.2] 201)))
  clear h
  go_enter Tryz.func167, Tryz.ntmps167
  go_wp2_with fail
  refine (slotIndex_any _ l x _ HR.out).mono ?_
  rintro e w' ⟨rfl, hb'⟩
  have HB := Lib.hid (nb_trans (nb_alloc (Below.refl _ _) _) hb')
  clear hb'
  generalize idxI l x = ii at *
  go_wp2
  all_goals (go_ret; exact ⟨ret_bool (by rw [← HI.out]), HB.out⟩)

theorem made_enc {α : Type} (E : El α) (z : Array Value) (hz : z.toList = E.enc E.zero) (n : Nat) : (madeCells z (n * E.size)).toList = (List.replicate n E.zero).flatMap E.enc := by
  have hs : z.size = E.size := by rw [← Array.length_toList, hz, E.len]
  apply List.ext_getElem?
  intro j
  by_cases hj : j < n * E.size
  · have hd : j / E.size < n := Nat.div_lt_of_lt_mul (by rwa [Nat.mul_comm])
    have hm := Nat.mod_lt j E.pos
    have he := enc_at E (List.replicate n E.zero) (j / E.size) (j % E.size) (by simpa using hd) hm
    rw [Nat.mul_comm, Nat.div_add_mod] at he
    have e0 : (List.replicate n E.zero).getD (j / E.size) E.zero = E.zero := by simp [List.getD_eq_getElem?_getD, hd]
    have hm' : j % z.size < z.size := by rw [hs]; exact hm
    have e1 : (madeCells z (n * E.size)).toList[j]? = some (z[j % z.size]!) := by simp [madeCells, hj]
    rw [he, e0, ← hz, e1, ← hs, getElem!_pos z _ hm', Array.getElem?_toList, Array.getElem?_eq_getElem hm']
  · rw [List.getElem?_eq_none (by simp [madeCells]; omega), List.getElem?_eq_none (by rw [length_enc]; simp; omega)]

theorem OwnsF.stored2 {w : World} {B : Nat} {T : TypeId} {g n cap : Nat} {xs : List (Int × Bool)} (h : OwnsF elSlot w B T (.slice (some ⟨g, 0, none⟩) n cap) xs) (k : Nat) (z : Int) (hk : k < xs.length) :
    OwnsF elSlot (w.setCell ⟨g, k * 2, none⟩ (.int .i64 z)) B T (.slice (some ⟨g, 0, none⟩) n cap) (xs.set k (z, (xs.getD k slotZ).2)) := h.stored k 0 _ (.int .i64 z) hk (by decide) rfl
theorem Owns.flagged {w : World} {T : TypeId} {g n cap : Nat} {xs : List (Int × Bool)} (h : Owns elSlot w T (.slice (some ⟨g, 0, none⟩) n cap) xs) (k : Nat) (b : Bool) (hk : k < xs.length) :
    Owns elSlot (w.setCell ⟨g, k * 2 + 1, none⟩ (.bool b)) T (.slice (some ⟨g, 0, none⟩) n cap) (xs.set k ((xs.getD k slotZ).1, b)) := h.stored k 1 _ (.bool b) hk (by decide) rfl

/-- the generations of the first k, in slots -/
def lsTo (gens : List Int) (k : Nat) : List (Int × Bool) := zeroL (gensTo (zeroL gens) k)
theorem lsTo_zero (gens : List Int) : lsTo gens 0 = List.replicate gens.length slotZ := by rw [lsTo, gensTo_zero, zeroL_len]; simp [zeroL, slotZ]
theorem lsTo_end (gens : List Int) : lsTo gens gens.length = zeroL gens := by
  have := gensTo_end (zeroL gens); rw [zeroL_len, gensL_zeroL] at this; rw [lsTo, this]
theorem lsTo_len (gens : List Int) (k : Nat) (h : k ≤ gens.length) : (lsTo gens k).length = gens.length := by rw [lsTo, zeroL_len, gensTo_len _ _ (by rw [zeroL_len]; exact h), zeroL_len]
theorem lsTo_next (gens : List Int) (k : Nat) (h : k < gens.length) : (lsTo gens k).set k (gens.getD k 0, ((lsTo gens k).getD k slotZ).2) = lsTo gens (k + 1) := by
  have e1 : ((lsTo gens k).getD k slotZ).2 = false := by
    simp only [lsTo, zeroL, List.getD_eq_getElem?_getD, List.getElem?_map]
    cases (gensTo (List.map (fun g => (g, false)) gens) k)[k]? <;> rfl
  rw [e1]
  have e2 := gensTo_next (zeroL gens) k (by rw [zeroL_len]; exact h)
  rw [zeroL_at] at e2
  rw [lsTo, lsTo, ← e2]
  simp [zeroL, List.map_set]

def ListPost (w : World) (zs : List Int) (e : Ending) (w' : World) : Prop :=
  (∃ v, e = .returned (.tuple #[v, .int .i64 (lstE zs)]) ∧ (lstE zs = 0 → ∃ g, v = .slice (some ⟨g, 0, none⟩) zs.length zs.length ∧ w.heap.size ≤ g ∧ OwnsF elSlot w' w.heap.size 201 v (zeroL zs))) ∧ Below w.heap.size w w'
theorem ListPost.bad {w w' : World} {zs : List Int} {v : Value} {c : Int} (h : lstE zs = c) (hc : c ≠ 0) (hb : Below w.heap.size w w') : ListPost w zs (.returned (.tuple #[v, .int .i64 c])) w' :=
  ⟨⟨v, by rw [h], fun e => absurd (h.symm.trans e) hc⟩, hb⟩

set_option maxHeartbeats 2000000 in
theorem listOf_any (v : Value) (zs : List Int) (w : World) (h : Ints w v zs) : Calls Tryz.prog 129 #[v] w (ListPost w zs) := by
  obtain ⟨i0, hi, hz0, hz1, hz2⟩ := info_parts infoSlot
  obtain ⟨hm, h⟩ := h.open
  unfold maxLen at hm
  by_cases hlen : zs.length ≤ 60
  · have HZ := Lib.hid (lsTo_zero zs)
    have HEND := Lib.hid (lsTo_end zs)
    have HLEN := Lib.hid (lsTo_len zs)
    have HNX := Lib.hid (lsTo_next zs)
    generalize hn : zs.length = n at *
    have HN := Lib.hid hn
    clear hn
    rcases h with ⟨a, cap, rfl, hz⟩ | ⟨b, off, cap, rfl, hb, hlc, hcm, hc⟩
    all_goals
      go_enter Tryz.func129, Tryz.ntmps129
      go_wp2_with (first | (at_make; refine wpList_make_full _ rfl _ _ 113 rfl w.heap.size 201 i0 (.agg #[.int .i64 0, .bool false]) 2 Tryz.underlying113 hi hz0 hz1 .i64 .i64 _ _ n rfl rfl rfl rfl ?c1 ?c2 ?c3 ?_))
      case c1 => rw [hz2]; omega
      case c2 => unfold maxLen; omega
      case c3 => exact Nat.le_refl _
      intro w1 hown hgr
      have hb1 : Below w.heap.size w w1 := (Below.refl _ _).grown hgr (Nat.le_refl _) (fun k hk => by cases hk)
      clear hgr
      have HO : Hid (OwnsF elSlot w1 w.heap.size 201 (.slice (some ⟨w.heap.size, 0, none⟩) n n) (lsTo zs 0)) := Lib.hid (by
        unfold OwnsF; rw [HZ.out, List.length_replicate, show slotZ = elSlot.zero from rfl, ← made_enc elSlot #[.int .i64 0, .bool false] rfl n]; exact hown)
      have HB1 := Lib.hid hb1
      clear hown hb1
      go_wp2
      go_loopw [15] (fun i wr => ∃ k : Nat, k ≤ n ∧ i = .int .i64 k ∧ Hid (∀ j, j < k → okG (zs.getD j 0) = true) ∧ Hid (OwnsF elSlot wr w.heap.size 201 (.slice (some ⟨w.heap.size, 0, none⟩) n n) (lsTo zs k)) ∧ Hid (Below w.heap.size w wr)) (fun i _ => n - (intOf i).toNat)
      case atStart => exact ⟨0, by omega, rfl, fun j hj => by omega, HO.out, HB1.out⟩
      case round =>
        obtain ⟨k, hk, rfl, hno, hO, hB⟩ := hrel
        by_cases hltk : k < n
        · first
            | omega
            | (have c0 : wr.cell? ⟨b, off + k, none⟩ = some (.int .i64 (zs.getD k 0)) := by rw [hB.out.cell (p := ⟨b, _, none⟩) hb]; exact hc k hltk
               clear hc
               have HBAD : Hid (okG (zs.getD k 0) = false → lstE zs = 1) := Lib.hid (fun h => lstE_arg (by rw [HN.out]; exact hlen) (by rw [HN.out]; exact hltk) h)
               have hln := HLEN.out k hk
               obtain ⟨g', cap', eg, hgw, -, x0, x1, hfz⟩ := hO.out.owns.open2 rfl (k := k) (by omega)
               simp only [Value.slice.injEq, Option.some.injEq, Addr.mk.injEq, and_true] at eg
               obtain ⟨rfl, -, -⟩ := eg
               have x0' : wr.cell? ⟨w.heap.size, k * 2, none⟩ = some (.int .i64 ((lsTo zs k).getD k slotZ).1) := x0
               have f0 := hfz (k * 2)
               have HST := Lib.hid (fun (z : Int) => hO.out.stored2 k z (by omega))
               have HNXK := Lib.hid (HNX.out k hltk)
               clear hln hfz x0 x1
               generalize ((lsTo zs k).getD k slotZ).1 = y0 at *
               generalize hg : zs.getD k 0 = y at *
               have HY := Lib.hid hg
               clear hg
               cases hy : okG y
               · have HE := Lib.hid (HBAD.out hy)
                 rcases inB_f hy with hy' | hy'
                 all_goals
                   have HYY := Lib.hid hy
                   clear hy
                   go_wp2
                   go_ret2
                   exact ListPost.bad HE.out (by decide) hB.out
               · obtain ⟨y1, y2⟩ := inB_t hy
                 have HYY := Lib.hid hy
                 clear hy
                 go_wp2
                 go_roundw
                 case rel => exact ⟨k + 1, by omega, by go_num, fun j hj => if e : j = k then by rw [e, HY.out]; exact HYY.out else hno.out j (by omega), by rw [← HNXK.out]; exact HST.out y, hB.out.setCell (p := ⟨w.heap.size, _, none⟩) (Nat.le_refl _) _⟩
                 case measure => simp [intOf]; omega)
        · obtain rfl : k = n := by omega
          have HE := Lib.hid (lstE_ok (by rw [HN.out]; exact hlen) (by rw [HN.out]; exact hno.out))
          go_wp2
          go_ret2
          exact ⟨⟨.slice (some ⟨w.heap.size, 0, none⟩) k k, by rw [HE.out]; rfl, fun _ => ⟨_, by rw [HN.out], Nat.le_refl _, by rw [← HEND.out]; exact hO.out⟩⟩, hB.out⟩
  · have HE := Lib.hid (lstE_large hlen)
    generalize zs.length = n at *
    rcases h with ⟨a, cap, rfl, hz⟩ | ⟨b, off, cap, rfl, hb, hlc, hcm, hc⟩
    all_goals first
      | (exfalso; omega)
      | (go_enter Tryz.func129, Tryz.ntmps129
         go_wp2
         go_ret2
         exact ListPost.bad HE.out (by decide) (Below.refl _ _))

def EnlPost (w : World) (v : Value) (g : Nat) (gens live : List Int) (e : Ending) (w' : World) : Prop :=
  e = .returned (.int .i64 (enlE gens live)) ∧ (enlE gens live = 0 → Owns elSlot w' 201 v (mkL gens live)) ∧ Kept (fun k => k = g) w w'
theorem EnlPost.bad {w w' : World} {v : Value} {g : Nat} {gens live : List Int} {c : Int} (h : enlE gens live = c) (hc : c ≠ 0) (hb : Kept (fun k => k = g) w w') : EnlPost w v g gens live (.returned (.int .i64 c)) w' :=
  ⟨by rw [h], fun e => absurd (h.symm.trans e) hc, hb⟩

set_option maxHeartbeats 4000000 in
theorem enliven_any (g : Nat) (u : Value) (gens live : List Int) (w : World) (hv : Owns elSlot w 201 (.slice (some ⟨g, 0, none⟩) gens.length gens.length) (zeroL gens)) (hl : Ints w u live) (hu : 0 < live.length → ∀ k, u.ownBlock = some k → k ≠ g) :
    Calls Tryz.prog 130 #[.slice (some ⟨g, 0, none⟩) gens.length gens.length, u] w (EnlPost w (.slice (some ⟨g, 0, none⟩) gens.length gens.length) g gens live) := by
  have hR := Lib.hid hv.reads
  have HV := Lib.hid hv
  have HGL := Lib.hid (zeroL_len gens)
  obtain ⟨hm, h⟩ := hl.open
  unfold maxLen at hm
  generalize hn : live.length = n at *
  have HN := Lib.hid hn
  generalize hng : gens.length = m at *
  have HM := Lib.hid hng
  clear hn hng hv hl
  rcases h with ⟨a, cap, rfl, hz⟩ | ⟨b, off, cap, rfl, hb, hlc, hcm, hc⟩
  all_goals
    go_enter Tryz.func130, Tryz.ntmps130
    go_wp2
    go_loop [11] (fun i => ∃ k : Nat, k ≤ n ∧ i = .int .i64 k ∧ Hid (∀ j, j < k → inB (live.getD j 0) 0 (gens.length - 1) = true)) (fun i => n - (intOf i).toNat)
    case atStart => exact ⟨0, by omega, rfl, fun j hj => by omega⟩
    case round =>
      obtain ⟨k, hk, rfl, hno⟩ := hrel
      by_cases hlt : k < n
      · first
          | omega
          | (have hck := hc k hlt
             clear hc
             have HBAD : Hid (inB (live.getD k 0) 0 (gens.length - 1) = false → enlE gens live = 5) := Lib.hid (fun h => enlE_none (by rw [HN.out]; exact hlt) h)
             generalize hg : live.getD k 0 = y at *
             have HY := Lib.hid hg
             clear hg
             have HYZ : Hid (inB y 0 ((zeroL gens).length - 1) = inB y 0 (gens.length - 1)) := Lib.hid (by rw [HGL.out, HM.out])
             cases hy : inB y 0 (gens.length - 1)
             all_goals
               have HYY := Lib.hid hy
               clear hy
               go_wp2_with fail
               refine (isSlot_is hR.out (HYZ.out.trans HYY.out)).mono ?_
               rintro e w' ⟨rfl, rfl⟩
               go_wp2
             · go_ret
               exact EnlPost.bad (HBAD.out HYY.out) (by decide) (Kept.refl _ _)
             · go_round
               case rel => exact ⟨k + 1, by omega, by go_num, fun j hj => if e : j = k then by rw [e, HY.out]; exact HYY.out else hno.out j (by omega)⟩
               case measure => simp [intOf]; omega)
      · obtain rfl : k = n := by omega
        have HALL : Hid (∀ j, j < live.length → inB (live.getD j 0) 0 (gens.length - 1) = true) := Lib.hid (by rw [HN.out]; exact hno.out)
        clear hno
        go_wp2
        go_loopw [22] (fun i wr => ∃ j : Nat, j ≤ k ∧ i = .int .i64 j ∧ Hid ((live.take j).Nodup) ∧ Hid (Owns elSlot wr 201 (.slice (some ⟨g, 0, none⟩) m m) (mkL gens (live.take j))) ∧ Hid (Kept (fun q => q = g) w wr)) (fun i _ => k - (intOf i).toNat)
        case atStart => exact ⟨0, by omega, rfl, by simp [Hid], by rw [List.take_zero, mkL_nil]; exact HV, Kept.refl _ _⟩
        case round =>
          obtain ⟨j, hj, rfl, hnd, hO, hK⟩ := hrel
          by_cases hjk : j < k
          · first
              | omega
              | (have hck : wr.cell? ⟨b, off + j, none⟩ = some (.int .i64 (live.getD j 0)) := hK.out.cellS (p := ⟨b, off + j, none⟩) (hc j hjk) (hu (by omega) b rfl)
                 clear hc
                 have hyk := inB_t (HALL.out j (by rw [HN.out]; exact hjk))
                 have HT := Lib.hid (take_snoc (show j < live.length by rw [HN.out]; exact hjk))
                 have HTW : Hid (live.getD j 0 ∈ live.take j → enlE gens live = 6) := Lib.hid (fun h => enlE_twice HALL.out (by rw [HN.out]; exact hjk) h)
                 generalize hg : live.getD j 0 = y at *
                 clear hg
                 rw [HM.out] at hyk
                 obtain ⟨y0, y1⟩ := hyk
                 obtain ⟨i, rfl⟩ := Int.eq_ofNat_of_zero_le y0
                 have hin : i < m := by omega
                 obtain ⟨g', cap', eg, hgw, -, x0, x1, hfz⟩ := hO.out.open2 rfl (k := i) (by rw [mkL_len, HM.out]; exact hin)
                 simp only [Value.slice.injEq, Option.some.injEq, Addr.mk.injEq, and_true] at eg
                 obtain ⟨rfl, -, -⟩ := eg
                 rw [show elSlot.zero = slotZ from rfl, mkL_at (by rw [HM.out]; exact hin)] at x0 x1
                 have x1' : wr.cell? ⟨g, i * 2 + 1, none⟩ = some (.bool (decide ((i : Int) ∈ live.take j))) := x1
                 have f1 := hfz (i * 2 + 1)
                 have HST := Lib.hid (hO.out.flagged i true (by rw [mkL_len, HM.out]; exact hin))
                 rw [mkL_set (by rw [HM.out]; exact hin), ← HT.out] at HST
                 clear hfz x0 x1
                 cases hd : decide ((i : Int) ∈ live.take j)
                 all_goals
                   rw [hd] at x1'
                   have HD := Lib.hid hd
                   clear hd
                   go_wp2
                 · go_roundw
                   case rel => exact ⟨j + 1, by omega, by go_num, by rw [HT.out]; exact nodup_snoc hnd.out (of_decide_eq_false HD.out), HST, hK.out.trans (Kept.setCell (F := fun q => q = g) _ (p := ⟨g, _, none⟩) rfl _) (fun _ h => .inl h)⟩
                   case measure => simp [intOf]; omega
                 · go_ret
                   exact EnlPost.bad (HTW.out (of_decide_eq_true HD.out)) (by decide) hK.out)
          · obtain rfl : j = k := by omega
            have HL : Hid (live.take j = live) := Lib.hid (List.take_of_length_le (by rw [HN.out]; exact Nat.le_refl _))
            rw [HL.out] at hnd hO
            have HE := Lib.hid (fun b hb => enlE_end (b := b) HALL.out hnd.out hb)
            cases hd : decide (((1000000 : Int), true) ∈ mkL gens live)
            all_goals
              have HD := Lib.hid hd
              clear hd
              go_wp2_with fail
              refine (slotContains_any _ (mkL gens live) (1000000, true) _ hO.out.reads).mono ?_
              rintro e w' ⟨rfl, hb'⟩
              rw [HD.out]
              have HB := Lib.hid hb'
              clear hb'
              go_wp2
              go_ret
            · exact ⟨ret_int (HE.out _ HD.out).symm, fun _ => hO.out.later HB.out, hK.out.trans (Kept.ofBelow (F := fun q => q = g) HB.out) (fun _ h => .inl h)⟩
            · exact EnlPost.bad (HE.out _ HD.out) (by decide) (hK.out.trans (Kept.ofBelow (F := fun q => q = g) HB.out) (fun _ h => .inl h))

def LoadPost (w : World) (gens live : List Int) (e : Ending) (w' : World) : Prop :=
  ∃ u, e = .returned (.tuple #[u, .int .i64 (ldE gens live)]) ∧ Below w.heap.size w w' ∧ (ldE gens live ≠ 0 → u = .pointer none) ∧
    (ldE gens live = 0 → ∃ p F, u = .pointer (some ⟨p, 0, none⟩) ∧ SlotsAt w' p F (mkL gens live) ∧ ∀ k, F k → w.heap.size ≤ k)
theorem LoadPost.bad {w w' : World} {gens live : List Int} {c : Int} (h : ldE gens live = c) (hc : c ≠ 0) (hb : Below w.heap.size w w') : LoadPost w gens live (.returned (.tuple #[.pointer none, .int .i64 c])) w' :=
  ⟨_, by rw [h], hb, fun _ => rfl, fun e => absurd (h.symm.trans e) hc⟩
theorem LoadPost.good {w w' : World} {gens live : List Int} {p : Nat} {F : Nat → Prop} (h : ldE gens live = 0) (hb : Below w.heap.size w w') (hs : SlotsAt w' p F (mkL gens live)) (hF : ∀ k, F k → w.heap.size ≤ k) : LoadPost w gens live (.returned (.tuple #[.pointer (some ⟨p, 0, none⟩), .int .i64 0])) w' :=
  ⟨_, by rw [h], hb, fun e => absurd h e, fun _ => ⟨p, F, rfl, hs, hF⟩⟩
theorem Ints.blk {w : World} {v : Value} {zs : List Int} (h : Ints w v zs) (hp : 0 < zs.length) {k : Nat} (hk : v.ownBlock = some k) : k < w.heap.size := by
  obtain ⟨a, cap, rfl, _, _, h⟩ := h
  obtain ⟨b, off, rfl, hb, _⟩ := h 0 hp
  simp [Value.ownBlock] at hk; omega

set_option maxHeartbeats 1000000 in
theorem load_any (u v : Value) (gens live : List Int) (w : World) (hg : Ints w u gens) (hl : Ints w v live) : Calls Tryz.prog 86 #[u, v] w (LoadPost w gens live) := by
  have HG := Lib.hid hg
  have HL := Lib.hid hl
  clear hg hl
  go_enter Tryz.func86, Tryz.ntmps86
  go_wp2_with fail
  refine (listOf_any _ gens _ HG.out).mono ?_
  rintro e w1 ⟨⟨v1, rfl, h1⟩, hb1⟩
  have HB1 := Lib.hid hb1
  have H1 := Lib.hid h1
  clear hb1 h1
  cases he : (lstE gens != 0)
  · have he0 : lstE gens = 0 := by simpa using he
    obtain ⟨g, rfl, hgw, ho⟩ := H1.out he0
    have HLD := Lib.hid (ldE_ok (l := live) he0)
    have HO := Lib.hid ho
    rw [he0]
    clear he he0 ho H1
    go_wp2_with fail
    refine (enliven_any g _ gens live _ HO.out.owns (HL.out.later HB1.out) (fun hp k hk => by have := HL.out.blk hp hk; omega)).mono ?_
    rintro e w2 ⟨rfl, h2, hk2⟩
    have H2 := Lib.hid h2
    have HB2 : Hid (Below w.heap.size w w2) := Lib.hid (HB1.out.trans (hk2.below HB1.out.size (fun k e => by omega)))
    have HG2 : Hid (g < w2.heap.size) := Lib.hid (by have := HO.out.owns.lt (k := g) rfl; have := hk2.size; omega)
    clear h2 hk2
    cases he : (enlE gens live != 0)
    · have he0 : enlE gens live = 0 := by simpa using he
      have HO2 := Lib.hid (H2.out he0)
      have HZ := Lib.hid (HLD.out.trans he0)
      rw [he0]
      clear he he0 H2
      go_wp2
      go_ret2
      refine LoadPost.good HZ.out (nb_alloc HB2.out _) (p := w2.heap.size) (F := fun k => k = g ∨ k = w2.heap.size) ⟨.slice (some ⟨g, 0, none⟩) gens.length gens.length, heap_alloc_new w2 _, HO2.out.later (nb_alloc (Below.refl _ _) _), .inr rfl, ?_, ?_⟩ ?_
      · intro k hk; simp [Value.ownBlock] at hk; subst hk; exact ⟨.inl rfl, by have := HG2.out; omega⟩
      · intro k hk; have := HG2.out; simp; omega
      · intro k hk; have := HB2.out.size; rcases hk with rfl | rfl <;> omega
    · have hne : enlE gens live ≠ 0 := by simpa using he
      have HZ := Lib.hid HLD.out
      have HNE := Lib.hid hne
      generalize enlE gens live = c at *
      clear hne
      go_wp2
      go_ret2
      exact LoadPost.bad HZ.out HNE.out HB2.out
  · have hne : lstE gens ≠ 0 := by simpa using he
    have HZ := Lib.hid (ldE_bad (l := live) hne)
    have HNE := Lib.hid hne
    clear H1
    generalize lstE gens = c at *
    clear hne
    go_wp2
    go_ret2
    exact LoadPost.bad HZ.out HNE.out HB1.out
end Go.Proofs.YtndhomjfjhohoaaGreatDoor

/- The contracts of slotsOf and Load of package world. -/
namespace Go.Proofs.YtndhomjfjhohoaaGreatDoor
set_option maxRecDepth 8000
open Go.RowKit

set_option maxHeartbeats 2000000 in
theorem slotsOf_any (v : Value) (rs : List Rw) (w : World) (h : Reads elRow w v rs) (h60 : rs.length ≤ 60) :
    Calls Tryz.prog 87 #[v] w fun e w' => ∃ v', e = .returned v' ∧ OwnsF elInt w' w.heap.size 3 v' (sNums rs) ∧ Below w.heap.size w w' := by
  obtain ⟨i0, hi, hz0, hz1, hz2⟩ := info_parts infoInt
  obtain ⟨hm, hop⟩ := h.open
  have HEND := Lib.hid (gensTo_end (sloL rs))
  have HZ := Lib.hid (gensTo_zero (sloL rs))
  have HLEN := Lib.hid (gensTo_len (sloL rs))
  have HNX := Lib.hid (gensTo_next (sloL rs))
  have HSL := Lib.hid (fun k (hk : k < rs.length) => sloL_at hk)
  rw [sloL_len] at HEND HZ HLEN HNX
  rw [gensL_sloL] at HEND
  generalize hn : rs.length = n at *
  clear hn h
  rcases hop with ⟨a, cap, rfl, hz⟩ | ⟨b, off, cap, rfl, hb, hlc, hcm, hc⟩
  all_goals
    go_enter Tryz.func87, Tryz.ntmps87
    go_wp2_with (first | (at_make; refine wpList_make_full _ rfl _ _ 22 rfl w.heap.size 3 i0 (.int .i64 0) 1 Tryz.underlying22 hi hz0 hz1 .i64 .i64 _ _ n rfl rfl rfl rfl ?c1 ?c2 ?c3 ?_))
    case c1 => rw [hz2]; omega
    case c2 => unfold maxLen; omega
    case c3 => exact Nat.le_refl _
    intro w1 hown hgr
    have hb1 : Below w.heap.size w w1 := (Below.refl _ _).grown hgr (Nat.le_refl _) (fun k hk => by cases hk)
    clear hgr
    have HO : Hid (OwnsF elInt w1 w.heap.size 3 (.slice (some ⟨w.heap.size, 0, none⟩) n n) (gensTo (sloL rs) 0)) := Lib.hid (by
      unfold OwnsF; rw [HZ.out, List.length_replicate, flatMap_int, List.map_replicate, ← toList_madeCells_one, ← Nat.mul_one n]
      rw [Nat.mul_one]; exact hown)
    have HB1 := Lib.hid hb1
    clear hown hb1
    go_wp2
    go_loopw [11] (fun i wr => ∃ k : Nat, k ≤ n ∧ i = .int .i64 k ∧ Hid (OwnsF elInt wr w.heap.size 3 (.slice (some ⟨w.heap.size, 0, none⟩) n n) (gensTo (sloL rs) k)) ∧ Hid (Below w.heap.size w wr)) (fun i _ => n - (intOf i).toNat)
    case atStart => exact ⟨0, by omega, rfl, HO.out, HB1.out⟩
    case round =>
      obtain ⟨k, hk, rfl, hO, hB⟩ := hrel
      by_cases hltk : k < n
      · first
          | omega
          | (have hcr : ∀ jj, jj < 11 → wr.cell? ⟨b, off + k * 11 + jj, none⟩ = (elRow.enc (rs.getD k rowZ))[jj]? := fun jj hjj => by rw [hB.out.cell (p := ⟨b, _, none⟩) hb]; exact hc k hltk jj hjj
             clear hc
             have hln := HLEN.out k hk
             obtain ⟨hcg, hfg, hwr⟩ := hO.out.open1 rfl (k := k) (by omega)
             have HNXK := Lib.hid (HNX.out k hltk)
             rw [HSL.out k hltk] at HNXK
             have HST := Lib.hid (fun (W : World) (hW : OwnsF elInt W w.heap.size 3 (.slice (some ⟨w.heap.size, 0, none⟩) n n) (gensTo (sloL rs) k)) (z : Int) => hW.stored1 rfl k z (.int .i64 z) (by omega) rfl)
             clear hln
             have hbw : b < wr.heap.size := Nat.lt_of_lt_of_le hb hB.out.size
             generalize rs.getD k rowZ = r at *
             obtain ⟨c0, c1, c2, c3, c4, c5, c6, c7, c8, c9, c10⟩ := lRow (O := off + k * 11) (r := r) hcr
             clear hcr
             go_wp2
             go_roundw
             case rel => exact ⟨k + 1, by omega, by go_num, by rw [← HNXK.out]; exact (HST.out _ hO.out r.s).later (nb_alloc (Below.refl _ _) _), nb_alloc (hB.out.setCell (p := ⟨w.heap.size, _, none⟩) (Nat.le_refl _) _) _⟩
             case measure => simp [intOf]; omega)
      · obtain rfl : k = n := by omega
        go_wp2
        go_ret
        exact ⟨_, rfl, by rw [← HEND.out]; exact hO.out, hB.out⟩

/-- A world of loaded slots, with no rows yet. -/
theorem WldAt.ofSlots {w : World} {p : Nat} {F : Nat → Prop} {l : List (Int × Bool)} (h : SlotsAt w p F l) : ∃ v, w.cell? ⟨p, 0, none⟩ = some v ∧ p < w.heap.size ∧
    WldAt (w.alloc (.cells #[v, .map none, .map none] 119)) w.heap.size (fun b => b = w.heap.size ∨ F b) l (fun _ => False) := by
  obtain ⟨v, hp, ho, hF, hv, hlt⟩ := h
  refine ⟨v, by rw [cell_of_row _ _ _ _ _ _ hp]; simp, hlt p hF, fun _ => -1, .map none, .map none, [], fun _ => 0, fun _ => [], [], fun _ => (0, 0), ⟨⟨v, heap_alloc_new w _, ho.later (nb_alloc (Below.refl _ _) _), ⟨.inl rfl, rfl⟩, fun k e => ⟨⟨.inr (hv k e).1, rfl⟩, fun e2 => by have := hlt k (hv k e).1; omega⟩, fun k e => ?_⟩, .inl ⟨rfl, rfl, rfl, rfl⟩, fun k hk => by simp at hk, Laid.nil _, fun b e => ?_⟩⟩
  · rcases e.1 with e | e
    · simp [e]
    · have := hlt k e; simp; omega
  · rcases e with e | e
    · simp [e]
    · have := hlt b e; simp; omega

def WLoadPost (w : World) (gens : List Int) (rs : List Rw) (e : Ending) (w' : World) : Prop :=
  ∃ u, e = .returned (.tuple #[u, .int .i64 (wldE gens rs)]) ∧ Below w.heap.size w w' ∧ (wldE gens rs ≠ 0 → u = .pointer none) ∧
    (wldE gens rs = 0 → ∃ p F, u = .pointer (some ⟨p, 0, none⟩) ∧ WldAt w' p F (mkL gens (sNums rs)) (· ∈ rs) ∧ ∀ k, F k → w.heap.size ≤ k)
theorem WLoadPost.bad {w w' : World} {gens : List Int} {rs : List Rw} {c : Int} (h : wldE gens rs = c) (hc : c ≠ 0) (hb : Below w.heap.size w w') : WLoadPost w gens rs (.returned (.tuple #[.pointer none, .int .i64 c])) w' :=
  ⟨_, by rw [h], hb, fun _ => rfl, fun e => absurd (h.symm.trans e) hc⟩

set_option maxHeartbeats 4000000 in
theorem worldLoad_any (u v : Value) (gens : List Int) (rs : List Rw) (w : World) (hg : Ints w u gens) (hr : Reads elRow w v rs) : Calls Tryz.prog 50 #[u, v] w (WLoadPost w gens rs) := by
  obtain ⟨hm, hop⟩ := hr.open
  unfold maxLen at hm
  have HR := Lib.hid hr
  have HG := Lib.hid hg
  obtain ⟨n, hn⟩ : ∃ n, rs.length = n := ⟨_, rfl⟩
  have HN := Lib.hid hn
  rw [hn] at hm hop
  clear hr hg hn
  by_cases h60 : n ≤ 60
  · have h60' : decide ((60 : Int) < (n : Int)) = false := by rw [decide_eq_false_iff_not]; omega
    have HW60 : Hid (wldE gens rs = if ldE gens (sNums rs) = 0 then rowsE (mkL gens (sNums rs)) rs else ldE gens (sNums rs)) := Lib.hid (by rw [wldE, HN.out, if_pos h60])
    have HV : Hid (Reads elRow w v rs) := HR
    rcases hop with ⟨a, cap, rfl, hz⟩ | ⟨b, off, cap, rfl, hb, hlc, hcm, hc⟩
    all_goals
      go_enter Tryz.func50, Tryz.ntmps50
      go_wp2_with fail
      refine (slotsOf_any _ rs _ HR.out (by rw [HN.out]; exact h60)).mono ?_
      rintro e w1 ⟨v1, rfl, ho1, hb1⟩
      have HO1 := Lib.hid (Ints.ofReads ho1.reads)
      have HB1 := Lib.hid hb1
      clear ho1 hb1
      go_wp2_with fail
      refine (load_any _ _ gens (sNums rs) _ (HG.out.later HB1.out) HO1.out).mono ?_
      rintro e w2 ⟨u2, rfl, hb2, hbad, hgood⟩
      have HB2 := Lib.hid (nb_trans HB1.out hb2)
      obtain ⟨x, hx⟩ : ∃ x, ldE gens (sNums rs) = x := ⟨_, rfl⟩
      rw [hx] at hbad hgood HW60 ⊢
      by_cases h0 : x = 0
      · subst h0
        rw [if_pos rfl] at HW60
        obtain ⟨p0, F0, rfl, hs0, hF0⟩ := hgood rfl
        obtain ⟨v0, hc0, hp0, hw0⟩ := WldAt.ofSlots hs0
        have HF0 : Hid (∀ b, b = w2.heap.size ∨ F0 b → w.heap.size ≤ b) := Lib.hid (fun b e => by
          rcases e with e | e
          · have := HB2.out.size; omega
          · have := hF0 b e; have := HB1.out.size; omega)
        have HLOK : Hid (SlotOk (mkL gens (sNums rs))) := Lib.hid (mkL_ok hx)
        have HND := Lib.hid (ldE_zero hx)
        obtain ⟨l, hll⟩ : ∃ l, mkL gens (sNums rs) = l := ⟨_, rfl⟩
        rw [hll] at hw0 HLOK HW60
        have HLL := Lib.hid hll
        clear hll
        have HW0 := Lib.hid hw0
        clear hs0
        have HBA : Hid (Below w.heap.size w (w2.alloc (.cells #[v0, .map none, .map none] 119))) := Lib.hid (nb_alloc HB2.out _)
        clear hx hbad hgood hF0 hw0 hb2
        go_wp2
        clear hc0 hp0
        generalize hpn : w2.heap.size = pn at *
        clear hpn
        generalize w2.alloc (.cells #[v0, .map none, .map none] 119) = w3 at *
        go_loopw [32] (fun i wr => ∃ (t : Nat) (F : Nat → Prop), t ≤ n ∧ i = .int .i64 t ∧ Hid (WldAt wr pn F l (· ∈ rs.take t)) ∧ Hid (∀ x ∈ rs.take t, goodR l x) ∧ Hid (∀ b, F b → w.heap.size ≤ b) ∧ Hid (Below w.heap.size w wr)) (fun i _ => n - (intOf i).toNat)
        case atStart => exact ⟨0, _, by omega, rfl, HW0.out.congr (fun r => by simp), fun x hx => by simp at hx, HF0, HBA⟩
        case round =>
          obtain ⟨t, F, htn, rfl, hW, hGd, hF, hB⟩ := hrel
          by_cases hlt : t < n
          · first
              | omega
              | (have hcr : ∀ jj, jj < 11 → wr.cell? ⟨b, off + t * 11 + jj, none⟩ = (elRow.enc (rs.getD t rowZ))[jj]? := fun jj hjj => by rw [hB.out.cell (p := ⟨b, _, none⟩) hb]; exact hc t hlt jj hjj
                 have htl : t < rs.length := by rw [HN.out]; exact hlt
                 have HRT : Hid (rs.getD t rowZ = rs.getD t rowZ) := Lib.hid rfl
                 have HDE := Lib.hid (fun h => rowsE_dead (l := l) hGd.out htl rfl h)
                 have HBE := Lib.hid (fun h hb => rowsE_bad (l := l) hGd.out htl rfl h hb)
                 have HNX := Lib.hid (fun h => good_next (l := l) hGd.out htl rfl h)
                 have HNE := Lib.hid (new_handle HND.out htl rfl)
                 clear hc
                 generalize rs.getD t rowZ = r at *
                 have hbw : b < wr.heap.size := Nat.lt_of_lt_of_le hb hB.out.size
                 obtain ⟨c0, c1, c2, c3, c4, c5, c6, c7, c8, c9, c10⟩ := lRow (O := off + t * 11) (r := r) hcr
                 clear hcr
                 have hwa : Below wr.heap.size wr (wr.alloc (.cells #[.int .i64 r.s, .int .i64 r.g, .int .i64 r.m, .int .i64 (r.f 0), .int .i64 (r.f 1), .int .i64 (r.f 2), .int .i64 (r.f 3), .int .i64 (r.f 4), .int .i64 (r.f 5), .int .i64 (r.f 6), .int .i64 (r.f 7)] 54)) := nb_alloc (Below.refl _ _) _
                 have HWA := Lib.hid hwa
                 have hA : (wr.alloc (.cells #[.int .i64 r.s, .int .i64 r.g, .int .i64 r.m, .int .i64 (r.f 0), .int .i64 (r.f 1), .int .i64 (r.f 2), .int .i64 (r.f 3), .int .i64 (r.f 4), .int .i64 (r.f 5), .int .i64 (r.f 6), .int .i64 (r.f 7)] 54)).heap[wr.heap.size]? = some (.cells #[.int .i64 r.s, .int .i64 r.g, .int .i64 r.m, .int .i64 (r.f 0), .int .i64 (r.f 1), .int .i64 (r.f 2), .int .i64 (r.f 3), .int .i64 (r.f 4), .int .i64 (r.f 5), .int .i64 (r.f 6), .int .i64 (r.f 7)] 54) := heap_alloc_new _ _
                 have HA := Lib.hid hA
                 have hpl : pn < wr.heap.size := hW.out.lt pn hW.out.at_
                 go_wp2_with fail
                 generalize wr.alloc (.cells #[.int .i64 r.s, .int .i64 r.g, .int .i64 r.m, .int .i64 (r.f 0), .int .i64 (r.f 1), .int .i64 (r.f 2), .int .i64 (r.f 3), .int .i64 (r.f 4), .int .i64 (r.f 5), .int .i64 (r.f 6), .int .i64 (r.f 7)] 54) = W at *
                 clear c0 c1 c2 c3 c4 c5 c6 c7 c8 c9 c10 hwa
                 have HWW := Lib.hid (hW.out.later HWA.out)
                 have HLV : Hid (∀ y : Later W, Calls Tryz.prog 88 #[.pointer (some ⟨pn, 0, none⟩), .agg #[.int .i64 r.s, .int .i64 r.g]] y.w fun e w' => e = .returned (.bool (liveB l r.s r.g)) ∧ Below y.w.heap.size y.w w') := Lib.hid (fun y => by
                   obtain ⟨c, tm, pm, ks, tb, tr, hk, pl, hwi⟩ := HWW.out.later y.below
                   exact live_any pn _ l r.s r.g _ hwi.slots)
                 have q0 : ∀ y : Later W, y.w.cell? ⟨wr.heap.size, 0, none⟩ = some (.int .i64 r.s) := fun y => y.cell (by rw [cell_of_row _ _ _ _ _ _ hA]; rfl)
                 have q1 : ∀ y : Later W, y.w.cell? ⟨wr.heap.size, 1, none⟩ = some (.int .i64 r.g) := fun y => y.cell (by rw [cell_of_row _ _ _ _ _ _ hA]; rfl)
                 clear hA
                 cases hlv : liveB l r.s r.g
                 · rw [hlv] at HLV
                   have HEE := Lib.hid (HDE.out hlv)
                   refine wp_region_later (by kernel_rfl) (by kernel_rfl) ?_
                   repeat (go_big_quiet_step ((first | (go_at_call 88; exact Calls.later (HLV.out _)))))
                   refine wpQuiet_nil ?_
                   rintro _ ⟨nq, rfl⟩
                   have HBN := Lib.hid (nb_trans (nb_trans hB.out HWA.out) nq.below)
                   go_wp2
                   go_ret2
                   exact WLoadPost.bad (by rw [HW60.out, HEE.out]) (by decide) HBN.out
                 · rw [hlv] at HLV
                   have HEB := Lib.hid (fun hb => HBE.out hlv hb)
                   have HOKR := Lib.hid (live_I64 HLOK.out hlv)
                   have HGR := Lib.hid (fun hb => HNX.out ⟨hlv, hb⟩)
                   refine wp_region_later (by kernel_rfl) (by kernel_rfl) ?_
                   repeat (go_big_quiet_step ((first | (go_at_call 88; exact Calls.later (HLV.out _)))))
                   refine wpQuiet_nil ?_
                   rintro _ ⟨nq, rfl⟩
                   have HNQ := Lib.hid nq.below
                   clear q0 q1
                   generalize nq.w = Y at *
                   have hY : Y.heap[wr.heap.size]? = some (.cells #[.int .i64 r.s, .int .i64 r.g, .int .i64 r.m, .int .i64 (r.f 0), .int .i64 (r.f 1), .int .i64 (r.f 2), .int .i64 (r.f 3), .int .i64 (r.f 4), .int .i64 (r.f 5), .int .i64 (r.f 6), .int .i64 (r.f 7)] 54) := by rw [HNQ.out.block _ (Array.getElem?_eq_some_iff.1 HA.out).1]; exact HA.out
                   have hYl := (Array.getElem?_eq_some_iff.1 hY).1
                   obtain ⟨k0, k1, k2, k3, k4, k5, k6, k7, k8, k9, k10⟩ := rCells (r := r) hY
                   have HY := Lib.hid hY
                   clear hY
                   go_wp2_with fail
                   refine (checkBeast_any _ _ _ _ _ _ _ _ _ _).mono ?_
                   rintro e w5 ⟨rfl, hw5⟩
                   have HB5 : Hid (Below Y.heap.size Y w5) := Lib.hid (by rw [← hw5]; exact nb_alloc (Below.refl _ _) _)
                   have hY5 : w5.heap[wr.heap.size]? = some (.cells #[.int .i64 r.s, .int .i64 r.g, .int .i64 r.m, .int .i64 (r.f 0), .int .i64 (r.f 1), .int .i64 (r.f 2), .int .i64 (r.f 3), .int .i64 (r.f 4), .int .i64 (r.f 5), .int .i64 (r.f 6), .int .i64 (r.f 7)] 54) := by rw [HB5.out.block _ hYl]; exact HY.out
                   clear hw5 k0 k1 k2 k3 k4 k5 k6 k7 k8 k9 k10
                   have hYl5 := (Array.getElem?_eq_some_iff.1 hY5).1
                   obtain ⟨be, hbe⟩ : ∃ be, bErr r.m [r.f 0, r.f 1, r.f 2, r.f 3, r.f 4, r.f 5, r.f 6, r.f 7] = be := ⟨_, rfl⟩
                   rw [hbe]
                   by_cases hb0 : be = 0
                   · subst hb0
                     obtain ⟨k0, k1, k2, k3, k4, k5, k6, k7, k8, k9, k10⟩ := rCells (r := r) hY5
                     have HBEE := Lib.hid hbe
                     have HW5 := Lib.hid (HWW.out.later (nb_trans HNQ.out HB5.out))
                     clear hbe hY5
                     go_wp2_with fail
                     refine (worldAdd_any pn F l _ r _ HW5.out HBEE.out (fun x hx e => HNE.out x hx (by have := congrArg Prod.fst e; exact this)) HOKR.out ⟨rs.take t, by rw [List.length_take, HN.out]; omega, fun _ h => h⟩).mono ?_
                     rintro e w6 ⟨rfl, F6, h6, hk6, hm6⟩
                     have HB6 : Hid (Below w.heap.size w w5) := Lib.hid (nb_trans (nb_trans (nb_trans hB.out HWA.out) HNQ.out) HB5.out)
                     have HNXT : Hid (WldAt w6 pn F6 l (· ∈ rs.take (t + 1)) ∧ (∀ x ∈ rs.take (t + 1), goodR l x) ∧ (∀ b, F6 b → w.heap.size ≤ b) ∧ Below w.heap.size w w6) := Lib.hid (by
                       obtain ⟨g1, g2⟩ := HGR.out HBEE.out
                       exact ⟨h6.congr (fun y => (g2 y).symm), g1, hm6.above HB6.out.size hF.out, HB6.out.trans (hk6.below HB6.out.size hF.out)⟩)
                     clear h6 hk6 hm6 k0 k1 k2 k3 k4 k5 k6 k7 k8 k9 k10
                     go_wp2
                     go_roundw
                     case rel => exact ⟨t + 1, F6, by omega, by go_num, HNXT.out.1, HNXT.out.2.1, HNXT.out.2.2.1, HNXT.out.2.2.2⟩
                     case measure => simp [intOf]; omega
                   · have hne : (be != 0) = true := by simpa using hb0
                     have HEE := Lib.hid (HEB.out (by rw [hbe]; exact hb0))
                     rw [hbe] at HEE
                     have HBN := Lib.hid (nb_trans (nb_trans (nb_trans hB.out HWA.out) HNQ.out) HB5.out)
                     have HNE0 := Lib.hid hb0
                     clear hbe hY5 hb0
                     go_wp2
                     go_ret2
                     exact WLoadPost.bad (by rw [HW60.out, HEE.out]) HNE0.out HBN.out)
          · obtain rfl : t = n := by omega
            have HALL : Hid (rs.take t = rs) := Lib.hid (by rw [List.take_of_length_le (by rw [HN.out]; exact Nat.le_refl _)])
            rw [HALL.out] at hW hGd
            have HEE := Lib.hid (rowsE_ok hGd.out)
            go_wp2
            go_ret2
            exact ⟨.pointer (some ⟨pn, 0, none⟩), by rw [HW60.out, HEE.out]; rfl, hB.out, fun h => absurd (by rw [HW60.out, HEE.out]) h, fun _ => ⟨pn, F, rfl, by rw [HLL.out]; exact hW.out, hF.out⟩⟩
      · rw [if_neg h0] at HW60
        obtain rfl := hbad h0
        have hne : (x != 0) = true := by simpa using h0
        have H0 := Lib.hid h0
        clear hx hbad hgood h0 hb2
        go_wp2
        go_ret2
        exact WLoadPost.bad HW60.out H0.out HB2.out
  · have h60' : decide ((60 : Int) < (n : Int)) = true := by rw [decide_eq_true_iff]; omega
    have HW60 : Hid (wldE gens rs = 2) := Lib.hid (by rw [wldE, HN.out, if_neg h60])
    rcases hop with ⟨a, cap, rfl, hz⟩ | ⟨b, off, cap, rfl, hb, hlc, hcm, hc⟩
    all_goals
      go_enter Tryz.func50, Tryz.ntmps50
      go_wp2
      go_ret2
      exact WLoadPost.bad HW60.out (by decide) (Below.refl _ _)
end Go.Proofs.YtndhomjfjhohoaaGreatDoor

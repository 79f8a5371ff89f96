/- Contracts and plain facts, several texts in one. -/
import Derived.Deep.Cut
import Derived.Test.YtcmpaohefihijabGreatDoorGroundA
import Derived.Test.YtcmpaohefihijabGreatDoorGroundB
import Derived.Test.YtcmpaohefihijabGreatDoorGroundC
import Derived.Test.YtcmpaohefihijabGreatDoorGroundD
/- Tables behind the keys of a map, each in blocks of its own. -/
namespace Go.Proofs.YtcmpaohefihijabGreatDoor
open Go.RowKit

theorem TabIs.mono {w : World} {p mb n : Nat} {F G : Nat → Prop} {m : Int} {hs : List (Int × Int)} {xs : Int → List Int} {v : Value} {cb : Int → Nat} {c : Nat → Int} (h : TabIs w p F m hs xs v mb n cb c) (hg : ∀ b, F b → G b) (hl : ∀ b, G b → b < w.heap.size) : TabIs w p G m hs xs v mb n cb c :=
  ⟨h.obj, h.own, h.map, fun k hk => (h.cols k hk).mono (fun b _ hb => ⟨hg b hb.1, hb.2⟩), ⟨hg _ h.fp.1, h.fp.2⟩, ⟨hg _ h.fm.1, h.fm.2⟩, fun b e => ⟨hg _ (h.fv b e).1, (h.fv b e).2⟩, hl⟩
theorem TableAt.mono {w : World} {p : Nat} {F G : Nat → Prop} {m : Int} {rows : List Rw} (h : TableAt w p F m rows) (hg : ∀ b, F b → G b) (hl : ∀ b, G b → b < w.heap.size) : TableAt w p G m rows := by
  obtain ⟨v, mb, n, cb, c, h⟩ := h
  exact ⟨v, mb, n, cb, c, h.mono hg hl⟩
theorem TableAt.at_ {w : World} {p : Nat} {F : Nat → Prop} {m : Int} {rows : List Rw} (h : TableAt w p F m rows) : F p := by
  obtain ⟨v, mb, n, cb, c, h⟩ := h; exact h.fp.1

/-- A table at each key, at block tb k, in the blocks of F of colour k. -/
def Fam (w : World) (ks : List Int) (tb : Int → Nat) (F : Nat → Prop) (c : Nat → Int) (rows : Int → List Rw) : Prop := ∀ k ∈ ks, TableAt w (tb k) (fun b => F b ∧ c b = k) k (rows k)
section
variable {w w' : World} {ks : List Int} {tb : Int → Nat} {F : Nat → Prop} {c : Nat → Int} {rows : Int → List Rw}
theorem Fam.kept {H : Nat → Prop} (h : Fam w ks tb F c rows) (hk : Kept H w w') (hf : ∀ b, F b → ¬ H b) : Fam w' ks tb F c rows := fun k hk' => (h k hk').kept hk (fun b hb => hf b hb.1)
theorem Fam.later (h : Fam w ks tb F c rows) (hb : Below w.heap.size w w') : Fam w' ks tb F c rows := h.kept (H := fun _ => False) (Kept.ofBelow hb) (fun _ _ => id)
theorem Fam.congr {rows' : Int → List Rw} (h : Fam w ks tb F c rows) (e : ∀ k ∈ ks, rows k = rows' k) : Fam w ks tb F c rows' := fun k hk => by rw [← e k hk]; exact h k hk
/-- The table at key k has been turned. -/
theorem Fam.step {k : Int} {F' : Nat → Prop} {rk : List Rw} (h : Fam w ks tb F c rows) (hF : ∀ b, F b → b < w.heap.size) (ht : TableAt w' (tb k) F' k rk) (hk : Kept (fun b => F b ∧ c b = k) w w') (hm : Moves w (fun b => F b ∧ c b = k) F') :
    Fam w' ks tb (growF F w w') (growC c w k) (fun j => if j = k then rk else rows j) ∧ Kept F w w' ∧ ∀ b, growF F w w' b → b < w'.heap.size := by
  have hl : ∀ b, growF F w w' b → b < w'.heap.size := fun b hb => by
    rcases hb with hb | hb
    · exact Nat.lt_of_lt_of_le (hF b hb) hk.size
    · exact hb.2
  refine ⟨fun j hj => ?_, hk.mono (fun b hb => .inl hb.1), hl⟩
  by_cases e : j = k
  · subst e
    simp only [if_pos]
    refine ht.mono (fun b hb => ?_) (fun b hb => hl b hb.1)
    rcases hm b hb with h1 | h1
    · exact ⟨.inl h1.1, by rw [growC_old (hF b h1.1)]; exact h1.2⟩
    · exact ⟨.inr ⟨h1, ht.lt b hb⟩, growC_new h1⟩
  · simp only [if_neg e]
    refine ((h j hj).kept hk (fun b hb hb' => e (hb.2.symm.trans hb'.2))).mono (fun b hb => ⟨.inl hb.1, by rw [growC_old (hF b hb.1)]; exact hb.2⟩) (fun b hb => hl b hb.1)
/-- A table has been made for a new key. -/
theorem Fam.add {k : Int} {p : Nat} {F' : Nat → Prop} {rk : List Rw} (h : Fam w ks tb F c rows) (hF : ∀ b, F b → b < w.heap.size) (hn : ¬ k ∈ ks) (ht : TableAt w' p F' k rk) (hb : Below w.heap.size w w') (hF' : ∀ b, F' b → w.heap.size ≤ b) :
    Fam w' (ks ++ [k]) (fun j => if j = k then p else tb j) (growF F w w') (growC c w k) (fun j => if j = k then rk else rows j) ∧ ∀ b, growF F w w' b → b < w'.heap.size := by
  have hl : ∀ b, growF F w w' b → b < w'.heap.size := fun b hb' => by
    rcases hb' with hb' | hb'
    · exact Nat.lt_of_lt_of_le (hF b hb') hb.size
    · exact hb'.2
  refine ⟨fun j hj => ?_, hl⟩
  by_cases e : j = k
  · subst e
    simp only [if_pos]
    exact ht.mono (fun b hb' => ⟨.inr ⟨hF' b hb', ht.lt b hb'⟩, growC_new (hF' b hb')⟩) (fun b hb' => hl b hb'.1)
  · have hj' : j ∈ ks := by
      rcases List.mem_append.1 hj with h1 | h1
      · exact h1
      · simp at h1; exact absurd h1 e
    simp only [if_neg e]
    exact ((h j hj').later hb).mono (fun b hb' => ⟨.inl hb'.1, by rw [growC_old (hF b hb'.1)]; exact hb'.2⟩) (fun b hb' => hl b hb'.1)
end
end Go.Proofs.YtcmpaohefihijabGreatDoor

/- A world in memory: its object, the two maps, the tables; and what stays true of it. -/
namespace Go.Proofs.YtcmpaohefihijabGreatDoor
open Go.RowKit
variable {ZT : TypeId} {zr : List Value}

def plV (tb : Int → Nat) (pl : Int × Int → Int × Nat) (h : Int × Int) : Value := .agg #[.pointer (some ⟨tb (pl h).1, 0, none⟩), .int .i64 (pl h).2]

/-- The two maps: none yet, or in blocks of their own. -/
def MapsAt (w : World) (F : Nat → Prop) (c : Nat → Int) (tm pm : Value) (ks : List Int) (tb : Int → Nat) (hk : List (Int × Int)) (pl : Int × Int → Int × Nat) : Prop :=
  (tm = .map none ∧ pm = .map none ∧ ks = [] ∧ hk = []) ∨ ∃ mt mp, tm = .map (some mt) ∧ pm = .map (some mp) ∧ MapIs kInt w mt ks.length ks (ptrOf tb) ∧ MapIs kHand w mp hk.length hk (plV tb pl) ∧ (F mt ∧ c mt = -2) ∧ (F mp ∧ c mp = -3)

/-- A world at block p, in the blocks F; c: to which part each block belongs. -/
structure WldIs (ZT : TypeId) (zr : List Value) (w : World) (p : Nat) (F : Nat → Prop) (c : Nat → Int) (l : List (Int × Bool)) (tm pm : Value) (ks : List Int) (tb : Int → Nat) (tr : Int → List Rw) (hk : List (Int × Int)) (pl : Int × Int → Int × Nat) (R : Rw → Prop) : Prop where
  slots : SlotsIn w p ZT (tm :: pm :: zr) (fun b => F b ∧ c b = -1) l
  maps : MapsAt w F c tm pm ks tb hk pl
  tabs : Fam w ks tb F c tr
  laid : Laid ks tr hk pl R
  lt : ∀ b, F b → b < w.heap.size
/-- At block p lies a world with these slots and rows, in the blocks F. -/
def WldIn (ZT : TypeId) (zr : List Value) (w : World) (p : Nat) (F : Nat → Prop) (l : List (Int × Bool)) (R : Rw → Prop) : Prop := ∃ c tm pm ks tb tr hk pl, WldIs ZT zr w p F c l tm pm ks tb tr hk pl R
/-- A world in a block of its own. -/
abbrev WldAt (w : World) (p : Nat) (F : Nat → Prop) (l : List (Int × Bool)) (R : Rw → Prop) : Prop := WldIn 71 [] w p F l R

section
variable {w w' : World} {p : Nat} {F : Nat → Prop} {c : Nat → Int} {l : List (Int × Bool)} {tm pm : Value} {ks : List Int} {tb : Int → Nat} {tr : Int → List Rw} {hk : List (Int × Int)} {pl : Int × Int → Int × Nat} {R : Rw → Prop}

theorem MapsAt.kept {H : Nat → Prop} (h : MapsAt w F c tm pm ks tb hk pl) (hkp : Kept H w w') (h2 : ∀ b, F b → c b = -2 → ¬ H b) (h3 : ∀ b, F b → c b = -3 → ¬ H b) : MapsAt w' F c tm pm ks tb hk pl := by
  rcases h with h | ⟨mt, mp, rfl, rfl, m1, m2, e1, e2⟩
  · exact .inl h
  · exact .inr ⟨mt, mp, rfl, rfl, m1.kept hkp (h2 mt e1.1 e1.2), m2.kept hkp (h3 mp e2.1 e2.2), e1, e2⟩
theorem MapsAt.mono {G : Nat → Prop} {d : Nat → Int} (h : MapsAt w F c tm pm ks tb hk pl) (hg : ∀ b, b < w.heap.size → F b → G b ∧ d b = c b) : MapsAt w G d tm pm ks tb hk pl := by
  rcases h with h | ⟨mt, mp, rfl, rfl, m1, m2, e1, e2⟩
  · exact .inl h
  · exact .inr ⟨mt, mp, rfl, rfl, m1, m2, ⟨(hg mt m1.lt e1.1).1, (hg mt m1.lt e1.1).2.trans e1.2⟩, ⟨(hg mp m2.lt e2.1).1, (hg mp m2.lt e2.1).2.trans e2.2⟩⟩
theorem SlotsIn.mono {T : TypeId} {rest : List Value} {G : Nat → Prop} (h : SlotsIn w p T rest F l) (hg : ∀ b, F b → G b) (hl : ∀ b, G b → b < w.heap.size) : SlotsIn w p T rest G l := by
  obtain ⟨v, hp, ho, hF, hv, hlt⟩ := h
  exact ⟨v, hp, ho, hg p hF, fun k e => ⟨hg k (hv k e).1, (hv k e).2⟩, hl⟩
theorem SlotsIn.at_ {T : TypeId} {rest : List Value} (h : SlotsIn w p T rest F l) : F p := by obtain ⟨v, hp, ho, hF, hv, hlt⟩ := h; exact hF
theorem SlotsIn.cell {T : TypeId} {tm pm : Value} {rest : List Value} (h : SlotsIn w p T (tm :: pm :: rest) F l) : w.cell? ⟨p, 1, none⟩ = some tm ∧ w.cell? ⟨p, 2, none⟩ = some pm := by
  obtain ⟨v, hp, _⟩ := h
  exact ⟨by rw [cell_of_row _ _ _ _ _ _ hp]; rfl, by rw [cell_of_row _ _ _ _ _ _ hp]; rfl⟩
theorem Fam.mono {G : Nat → Prop} {d : Nat → Int} (h : Fam w ks tb F c tr) (hg : ∀ b, b < w.heap.size → F b → G b ∧ d b = c b) (hl : ∀ b, G b → b < w.heap.size) : Fam w ks tb G d tr := fun k hk =>
  (h k hk).mono (fun b hb => ⟨(hg b ((h k hk).lt b hb) hb.1).1, (hg b ((h k hk).lt b hb) hb.1).2.trans hb.2⟩) (fun b hb => hl b hb.1)

theorem WldIs.kept {H : Nat → Prop} (h : WldIs ZT zr w p F c l tm pm ks tb tr hk pl R) (hkp : Kept H w w') (hf : ∀ b, F b → ¬ H b) : WldIs ZT zr w' p F c l tm pm ks tb tr hk pl R :=
  ⟨h.slots.kept hkp (fun b hb => hf b hb.1), h.maps.kept hkp (fun b hb _ => hf b hb) (fun b hb _ => hf b hb), h.tabs.kept hkp hf, h.laid, fun b hb => Nat.lt_of_lt_of_le (h.lt b hb) hkp.size⟩
theorem WldIs.later (h : WldIs ZT zr w p F c l tm pm ks tb tr hk pl R) (hb : Below w.heap.size w w') : WldIs ZT zr w' p F c l tm pm ks tb tr hk pl R :=
  h.kept (H := fun _ => False) (Kept.ofBelow hb) (fun _ _ => id)
theorem WldIs.congr {R' : Rw → Prop} (h : WldIs ZT zr w p F c l tm pm ks tb tr hk pl R) (e : ∀ r, R r ↔ R' r) : WldIs ZT zr w p F c l tm pm ks tb tr hk pl R' := ⟨h.slots, h.maps, h.tabs, h.laid.congr e, h.lt⟩
theorem WldIs.at_ (h : WldIs ZT zr w p F c l tm pm ks tb tr hk pl R) : F p ∧ c p = -1 := h.slots.at_
theorem WldIs.cell1 (h : WldIs ZT zr w p F c l tm pm ks tb tr hk pl R) : w.cell? ⟨p, 1, none⟩ = some tm := h.slots.cell.1
theorem WldIs.cell2 (h : WldIs ZT zr w p F c l tm pm ks tb tr hk pl R) : w.cell? ⟨p, 2, none⟩ = some pm := h.slots.cell.2
theorem WldIs.plt (h : WldIs ZT zr w p F c l tm pm ks tb tr hk pl R) : p < w.heap.size := h.lt p h.at_.1
theorem WldIn.kept {H : Nat → Prop} (h : WldIn ZT zr w p F l R) (hkp : Kept H w w') (hf : ∀ b, F b → ¬ H b) : WldIn ZT zr w' p F l R := by
  obtain ⟨c, tm, pm, ks, tb, tr, hk, pl, h⟩ := h
  exact ⟨c, tm, pm, ks, tb, tr, hk, pl, h.kept hkp hf⟩
theorem WldIn.later (h : WldIn ZT zr w p F l R) (hb : Below w.heap.size w w') : WldIn ZT zr w' p F l R := h.kept (H := fun _ => False) (Kept.ofBelow hb) (fun _ _ => id)
theorem WldIn.congr {R' : Rw → Prop} (h : WldIn ZT zr w p F l R) (e : ∀ r, R r ↔ R' r) : WldIn ZT zr w p F l R' := by
  obtain ⟨c, tm, pm, ks, tb, tr, hk, pl, h⟩ := h
  exact ⟨c, tm, pm, ks, tb, tr, hk, pl, h.congr e⟩
theorem WldIn.lt (h : WldIn ZT zr w p F l R) : ∀ b, F b → b < w.heap.size := by
  obtain ⟨c, tm, pm, ks, tb, tr, hk, pl, h⟩ := h; exact h.lt
theorem WldIn.at_ (h : WldIn ZT zr w p F l R) : F p := by
  obtain ⟨c, tm, pm, ks, tb, tr, hk, pl, h⟩ := h; exact h.at_.1
theorem growF_lt (hl : ∀ b, F b → b < w.heap.size) (hs : w.heap.size ≤ w'.heap.size) : ∀ b, growF F w w' b → b < w'.heap.size := fun b hb => by
  rcases hb with hb | hb
  · exact Nat.lt_of_lt_of_le (hl b hb) hs
  · exact hb.2
theorem grow_old (hl : ∀ b, F b → b < w.heap.size) (k : Int) : ∀ b, F b → growF F w w' b ∧ growC c w k b = c b := fun b hb => ⟨.inl hb, growC_old (hl b hb)⟩

/-- The slots have been turned. -/
theorem WldIs.slotStep {l' : List (Int × Bool)} {F' : Nat → Prop} (h : WldIs ZT zr w p F c l tm pm ks tb tr hk pl R) (hs : SlotsIn w' p ZT (tm :: pm :: zr) F' l') (hkp : Kept (fun b => F b ∧ c b = -1) w w') (hm : Moves w (fun b => F b ∧ c b = -1) F') :
    WldIs ZT zr w' p (growF F w w') (growC c w (-1)) l' tm pm ks tb tr hk pl R ∧ Kept F w w' := by
  have hl := growF_lt h.lt hkp.size
  refine ⟨⟨hs.mono (fun b hb => ?_) (fun b hb => hl b hb.1), ?_, ?_, h.laid, hl⟩, hkp.mono (fun b hb => .inl hb.1)⟩
  · rcases hm b hb with h1 | h1
    · exact ⟨.inl h1.1, (growC_old (h.lt b h1.1)).trans h1.2⟩
    · exact ⟨.inr ⟨h1, hs.lt b hb⟩, growC_new h1⟩
  · exact (h.maps.kept hkp (fun b _ e hb => by rw [e] at hb; exact absurd hb.2 (by decide)) (fun b _ e hb => by rw [e] at hb; exact absurd hb.2 (by decide))).mono (fun b _ hb => grow_old h.lt _ b hb)
  · refine Fam.mono (F := F) (c := c) (fun k hk' => (h.tabs k hk').kept hkp (fun b hb hb' => ?_)) (fun b _ hb => grow_old h.lt _ b hb) hl
    have := (h.laid.key k hk').1
    rw [hb.2] at hb'
    exact absurd hb'.2 (by omega)
/-- The maps are made. -/
theorem WldIs.make {mt mp : Nat} (h : WldIs ZT zr w p F c l (.map none) (.map none) ks tb tr hk pl R) (hkp : Kept (fun b => b = p) w w') (hp : ∀ v, w.heap[p]? = some (.cells (v :: .map none :: .map none :: zr).toArray ZT (0, 0)) → w'.heap[p]? = some (.cells (v :: .map (some mt) :: .map (some mp) :: zr).toArray ZT (0, 0)))
    (h1 : MapIs kInt w' mt 0 [] (ptrOf tb)) (h2 : MapIs kHand w' mp 0 [] (plV tb pl)) (e1 : w.heap.size ≤ mt) (e2 : w.heap.size ≤ mp) (e3 : mt ≠ mp) :
    ∃ F' c', WldIs ZT zr w' p F' c' l (.map (some mt)) (.map (some mp)) ks tb tr hk pl R ∧ Kept F w w' ∧ Moves w F F' := by
  have hks : ks = [] ∧ hk = [] := by
    rcases h.maps with ⟨_, _, e, e'⟩ | ⟨_, _, e, _⟩
    · exact ⟨e, e'⟩
    · cases e
  obtain ⟨rfl, rfl⟩ := hks
  have hl := growF_lt h.lt hkp.size
  have hpF := h.at_
  obtain ⟨v, hpv, ho, hF, hv, hlt⟩ := h.slots
  have hold : ∀ b, F b → (fun b => if b = mt then (-2 : Int) else if b = mp then -3 else c b) b = c b := fun b hb => by
    have := h.lt b hb
    simp only
    rw [if_neg (by omega), if_neg (by omega)]
  refine ⟨growF F w w', fun b => if b = mt then -2 else if b = mp then -3 else c b, ⟨⟨v, hp v (by simpa using hpv), ?_, ⟨.inl hF.1, (hold p hF.1).trans hF.2⟩, fun k e => ⟨⟨.inl (hv k e).1.1, (hold k (hv k e).1.1).trans (hv k e).1.2⟩, (hv k e).2⟩, fun b hb => hl b hb.1⟩, .inr ⟨mt, mp, rfl, rfl, h1, h2, ⟨.inr ⟨e1, h1.lt⟩, by simp⟩, ⟨.inr ⟨e2, h2.lt⟩, by simp [Ne.symm e3]⟩⟩, fun k hk' => by simp at hk', h.laid, hl⟩, hkp.mono (fun b e => .inl (by rw [e]; exact hpF.1)), growF_moves F w w'⟩
  exact ho.kept hkp (fun k e => (hv k e).2)
/-- A set gets its table. -/
theorem WldIs.newTab {k : Int} {q mt : Nat} {F' : Nat → Prop} {w'' : World} (h : WldIs ZT zr w p F c l (.map (some mt)) pm ks tb tr hk pl R) (hn : ¬ k ∈ ks) (h0 : 0 ≤ k) (h1 : k ≤ 255) (ht : TableAt w' q F' k []) (hb : Below w.heap.size w w') (hF' : ∀ b, F' b → w.heap.size ≤ b)
    (hkp : Kept (fun b => b = mt) w' w'') (hmt : MapIs kInt w'' mt (ks ++ [k]).length (ks ++ [k]) (fun j => if j = k then .pointer (some ⟨q, 0, none⟩) else ptrOf tb j)) :
    ∃ F'' c'', WldIs ZT zr w'' p F'' c'' l (.map (some mt)) pm (ks ++ [k]) (fun j => if j = k then q else tb j) tr hk pl R ∧ Kept F w w'' ∧ Moves w F F'' := by
  obtain ⟨hfam, hl⟩ := h.tabs.add h.lt hn ht hb hF'
  have hmaps := h.maps
  rcases hmaps with ⟨e, _⟩ | ⟨mt', mp, e, rfl, m1, m2, c1, c2⟩
  · cases e
  obtain rfl : mt = mt' := by simpa using e
  have hmtF : F mt := c1.1
  have hnot : ∀ b, F b → b = mt → c b = -2 := fun b _ e => by rw [e]; exact c1.2
  have hgt : ¬ growF F w w' mt → False := fun h => h (.inl hmtF)
  have hl2 : ∀ b, growF F w w' b → b < w''.heap.size := fun b hb' => Nat.lt_of_lt_of_le (hl b hb') hkp.size
  have hold := grow_old (w' := w') (c := c) h.lt k
  refine ⟨growF F w w', growC c w k, ⟨?_, ?_, ?_, h.laid.addK hn h0 h1, hl2⟩, (Kept.ofBelow hb).trans hkp (fun b e => .inl (by rw [e]; exact hmtF)), growF_moves F w w'⟩
  · refine ((h.slots.later hb).kept hkp (fun b hb' e => ?_)).mono (fun b hb' => ⟨(hold b hb'.1).1, (hold b hb'.1).2.trans hb'.2⟩) (fun b hb' => hl2 b hb'.1)
    rw [e, c1.2] at hb'; exact absurd hb'.2 (by decide)
  · refine .inr ⟨mt, mp, rfl, rfl, hmt.congr (fun j _ => ?_), ?_, ⟨(hold mt c1.1).1, (hold mt c1.1).2.trans c1.2⟩, ⟨(hold mp c2.1).1, (hold mp c2.1).2.trans c2.2⟩⟩
    · by_cases e : j = k <;> simp [ptrOf, e]
    · refine ((m2.later hb).kept hkp (fun e => ?_)).congr (fun x hx => ?_)
      · rw [e, c1.2] at c2; exact absurd c2.2 (by decide)
      · have hne : ¬ (pl x).1 = k := fun e => hn (by rw [← e]; exact (h.laid.at_ x hx).1)
        simp [plV, hne]
  · refine Fam.congr (rows := fun j => if j = k then [] else tr j) (fun j hj => ?_) (fun j _ => ?_)
    · refine ((hfam j hj).kept hkp (fun b hb' e => ?_))
      rw [e, growC_old (h.lt mt hmtF), c1.2] at hb'
      have : 0 ≤ j := by
        rcases List.mem_append.1 hj with h1 | h1
        · exact (h.laid.key j h1).1
        · simp at h1; omega
      omega
    · split
      · rename_i e; subst e; exact (h.laid.out _ hn).symm
      · rfl
/-- A row has come into its table and got its place. -/
theorem WldIs.addRow {r : Rw} {mp : Nat} {F' : Nat → Prop} {w'' : World} (h : WldIs ZT zr w p F c l tm (.map (some mp)) ks tb tr hk pl R) (hm : r.m ∈ ks) (hb : bErr r.m [r.f 0, r.f 1, r.f 2, r.f 3, r.f 4, r.f 5, r.f 6, r.f 7] = 0) (hn : ¬ hd r ∈ hk)
    (ht : TableAt w' (tb r.m) F' r.m (tr r.m ++ [r])) (hk1 : Kept (fun b => F b ∧ c b = r.m) w w') (hm1 : Moves w (fun b => F b ∧ c b = r.m) F')
    (hk2 : Kept (fun b => b = mp) w' w'') (hmp : MapIs kHand w'' mp (hk ++ [hd r]).length (hk ++ [hd r]) (fun x => if x = hd r then .agg #[.pointer (some ⟨tb r.m, 0, none⟩), .int .i64 (tr r.m).length] else plV tb pl x)) :
    ∃ F'' c'', WldIs ZT zr w'' p F'' c'' l tm (.map (some mp)) ks tb (fun j => if j = r.m then tr r.m ++ [r] else tr j) (hk ++ [hd r]) (fun x => if x = hd r then (r.m, (tr r.m).length) else pl x) (fun x => x = r ∨ R x) ∧ Kept F w w'' ∧ Moves w F F'' := by
  obtain ⟨hfam, hkF, hl⟩ := h.tabs.step h.lt ht hk1 hm1
  have h0 := (h.laid.key _ hm).1
  rcases h.maps with ⟨_, e, _⟩ | ⟨mt, mp', rfl, e, m1, m2, c1, c2⟩
  · cases e
  obtain rfl : mp = mp' := by simpa using e
  have hold := grow_old (w' := w') (c := c) h.lt r.m
  have hl2 : ∀ b, growF F w w' b → b < w''.heap.size := fun b hb' => Nat.lt_of_lt_of_le (hl b hb') hk2.size
  refine ⟨growF F w w', growC c w r.m, ⟨?_, ?_, ?_, h.laid.add hm hb hn, hl2⟩, hkF.trans hk2 (fun b e => .inl (by rw [e]; exact c2.1)), growF_moves F w w'⟩
  · refine ((h.slots.kept hk1 (fun b hb' e => ?_)).kept hk2 (fun b hb' e => ?_)).mono (fun b hb' => ⟨(hold b hb'.1).1, (hold b hb'.1).2.trans hb'.2⟩) (fun b hb' => hl2 b hb'.1)
    · rw [hb'.2] at e; omega
    · rw [e, c2.2] at hb'; exact absurd hb'.2 (by decide)
  · refine .inr ⟨mt, mp, rfl, rfl, ?_, hmp.congr (fun x _ => ?_), ⟨(hold mt c1.1).1, (hold mt c1.1).2.trans c1.2⟩, ⟨(hold mp c2.1).1, (hold mp c2.1).2.trans c2.2⟩⟩
    · refine (m1.kept hk1 (fun e => ?_)).kept hk2 (fun e => ?_)
      · rw [c1.2] at e; omega
      · rw [e, c2.2] at c1; exact absurd c1.2 (by decide)
    · by_cases e : x = hd r <;> simp [plV, e]
  · intro j hj
    refine (hfam j hj).kept hk2 (fun b hb' e => ?_)
    rw [e, growC_old (h.lt mp c2.1), c2.2] at hb'
    have := (h.laid.key j hj).1
    omega
/-- A row has been changed in its table. -/
theorem WldIs.setRow {x : Int × Int} {k : Int} {i : Nat} {r' : Rw} {F' : Nat → Prop} (h : WldIs ZT zr w p F c l tm pm ks tb tr hk pl R) (hx : x ∈ hk) (hp : pl x = (k, i)) (hr' : hd r' = x) (hm : r'.m = k) (hb : bErr r'.m [r'.f 0, r'.f 1, r'.f 2, r'.f 3, r'.f 4, r'.f 5, r'.f 6, r'.f 7] = 0)
    (ht : TableAt w' (tb k) F' k ((tr k).set i r')) (hk1 : Kept (fun b => F b ∧ c b = k) w w') (hm1 : Moves w (fun b => F b ∧ c b = k) F') :
    ∃ F'' c'', WldIs ZT zr w' p F'' c'' l tm pm ks tb (fun j => if j = k then (tr k).set i r' else tr j) hk pl (fun r => r = r' ∨ (R r ∧ hd r ≠ x)) ∧ Kept F w w' ∧ Moves w F F'' := by
  obtain ⟨hfam, hkF, hl⟩ := h.tabs.step h.lt ht hk1 hm1
  have hkk : k ∈ ks := by have := (h.laid.at_ x hx).1; rw [hp] at this; exact this
  have h0 := (h.laid.key _ hkk).1
  have hold := grow_old (w' := w') (c := c) h.lt k
  refine ⟨growF F w w', growC c w k, ⟨?_, ?_, hfam, h.laid.set hx hp hr' hm hb, hl⟩, hkF, growF_moves F w w'⟩
  · refine (h.slots.kept hk1 (fun b hb' e => ?_)).mono (fun b hb' => ⟨(hold b hb'.1).1, (hold b hb'.1).2.trans hb'.2⟩) (fun b hb' => hl b hb'.1)
    rw [hb'.2] at e; omega
  · refine (h.maps.kept hk1 (fun b _ e hb' => ?_) (fun b _ e hb' => ?_)).mono (fun b _ hb' => hold b hb')
    · rw [e] at hb'; omega
    · rw [e] at hb'; omega
/-- A row has been taken out of its table, and the place of the one that took its place set anew. -/
theorem WldIs.delRowN {x : Int × Int} {k : Int} {i : Nat} {mp : Nat} {F' : Nat → Prop} {w'' : World} {pl' : Int × Int → Int × Nat} (h : WldIs ZT zr w p F c l tm (.map (some mp)) ks tb tr hk pl R) (hx : x ∈ hk) (hp : pl x = (k, i))
    (hpl : ∀ y, y ≠ x → pl' y = if i < (tr k).length - 1 ∧ y = hd ((tr k).getD ((tr k).length - 1) rowZ) then (k, i) else pl y)
    (ht : TableAt w' (tb k) F' k (rmL (tr k) i rowZ)) (hk1 : Kept (fun b => F b ∧ c b = k) w w') (hm1 : Moves w (fun b => F b ∧ c b = k) F')
    (hk2 : Kept (fun b => b = mp) w' w'') (hmp : MapIs kHand w'' mp (hk.filter (fun y => !decide (y = x))).length (hk.filter (fun y => !decide (y = x))) (plV tb pl')) :
    ∃ c'', WldIs ZT zr w'' p (fun b => (F b ∧ c b ≠ k) ∨ F' b) c'' l tm (.map (some mp)) ks tb (fun j => if j = k then rmL (tr k) i rowZ else tr j) (hk.filter (fun y => !decide (y = x))) pl' (fun r => R r ∧ hd r ≠ x) ∧ Kept F w w'' := by
  have hkF : Kept F w w' := hk1.mono (fun b hb => .inl hb.1)
  have hkk : k ∈ ks := by have := (h.laid.at_ x hx).1; rw [hp] at this; exact this
  have h0 := (h.laid.key _ hkk).1
  rcases h.maps with ⟨_, e, _⟩ | ⟨mt, mp', rfl, e, m1, m2, c1, c2⟩
  · cases e
  obtain rfl : mp = mp' := by simpa using e
  have hold : ∀ b, F b → c b ≠ k → ((F b ∧ c b ≠ k) ∨ F' b) ∧ growC c w k b = c b := fun b hb hc => ⟨.inl ⟨hb, hc⟩, growC_old (h.lt b hb)⟩
  have hl : ∀ b, ((F b ∧ c b ≠ k) ∨ F' b) → b < w'.heap.size := fun b hb => hb.elim (fun e => Nat.lt_of_lt_of_le (h.lt b e.1) hk1.size) (fun e => ht.lt b e)
  have hl2 : ∀ b, ((F b ∧ c b ≠ k) ∨ F' b) → b < w''.heap.size := fun b hb' => Nat.lt_of_lt_of_le (hl b hb') hk2.size
  have hfam : ∀ j ∈ ks, TableAt w' (tb j) (fun b => ((F b ∧ c b ≠ k) ∨ F' b) ∧ growC c w k b = j) j (if j = k then rmL (tr k) i rowZ else tr j) := fun j hj => by
    by_cases ej : j = k
    · subst ej
      rw [if_pos rfl]
      exact ht.mono (fun b hb => ⟨.inr hb, (hm1 b hb).elim (fun e => (growC_old (h.lt b e.1)).trans e.2) (fun e => growC_new e)⟩) (fun b hb => hl b hb.1)
    · rw [if_neg ej]
      exact ((h.tabs j hj).kept hk1 (fun b hb e => ej (by rw [← hb.2, e.2]))).mono (fun b hb => ⟨(hold b hb.1 (by rw [hb.2]; exact ej)).1, (hold b hb.1 (by rw [hb.2]; exact ej)).2.trans hb.2⟩) (fun b hb => hl b hb.1)
  refine ⟨growC c w k, ⟨?_, ?_, ?_, h.laid.del hx hp hpl, hl2⟩, hkF.trans hk2 (fun b e => .inl (by rw [e]; exact c2.1))⟩
  · refine ((h.slots.kept hk1 (fun b hb' e => ?_)).kept hk2 (fun b hb' e => ?_)).mono (fun b hb' => ⟨(hold b hb'.1 (by rw [hb'.2]; omega)).1, (hold b hb'.1 (by rw [hb'.2]; omega)).2.trans hb'.2⟩) (fun b hb' => hl2 b hb'.1)
    · rw [hb'.2] at e; omega
    · rw [e, c2.2] at hb'; exact absurd hb'.2 (by decide)
  · refine .inr ⟨mt, mp, rfl, rfl, ?_, hmp, ⟨(hold mt c1.1 (by rw [c1.2]; omega)).1, (hold mt c1.1 (by rw [c1.2]; omega)).2.trans c1.2⟩, ⟨(hold mp c2.1 (by rw [c2.2]; omega)).1, (hold mp c2.1 (by rw [c2.2]; omega)).2.trans c2.2⟩⟩
    refine (m1.kept hk1 (fun e => ?_)).kept hk2 (fun e => ?_)
    · rw [c1.2] at e; omega
    · rw [e, c2.2] at c1; exact absurd c1.2 (by decide)
  · intro j hj
    refine (hfam j hj).kept hk2 (fun b hb' e => ?_)
    rw [e, growC_old (h.lt mp c2.1), c2.2] at hb'
    have := (h.laid.key j hj).1
    omega
/-- The slots have been turned in place; of the new blocks only cells are wanted. -/
theorem WldIs.slotSame {l' : List (Int × Bool)} {n0 : Nat} (h : WldIs ZT zr w p F c l tm pm ks tb tr hk pl R) (hs : SlotsIn w' p ZT (tm :: pm :: zr) (fun b => F b ∧ c b = -1) l') (hkp : Kept (fun b => F b ∧ c b = -1) w w') (hn : NewC n0 w F) :
    WldIs ZT zr w' p (fun b => F b ∧ (b < n0 ∨ CellsAt w' b)) c l' tm pm ks tb tr hk pl R ∧ Kept F w w' := by
  have hlt : ∀ b, F b → b < w'.heap.size := fun b hb => Nat.lt_of_lt_of_le (h.lt b hb) hkp.size
  have hcol : ∀ b, F b → c b ≠ -1 → b < n0 ∨ CellsAt w' b := fun b hb hc => (hn b hb).imp id (fun e => e.kept hkp (fun e2 => hc e2.2))
  refine ⟨⟨?_, ?_, fun k hk' => ?_, h.laid, fun b hb => hlt b hb.1⟩, hkp.mono (fun b hb => .inl hb.1)⟩
  · obtain ⟨v, hpv, ho, hF, hv, -⟩ := hs
    refine ⟨v, hpv, ho, ⟨⟨hF.1, .inr ⟨_, _, _, hpv⟩⟩, hF.2⟩, fun k e => ⟨⟨⟨(hv k e).1.1, .inr ?_⟩, (hv k e).1.2⟩, (hv k e).2⟩, fun b hb => hlt b hb.1.1⟩
    obtain ⟨cs, h2⟩ := ho.isC e
    exact ⟨_, _, _, h2⟩
  · rcases h.maps with h1 | ⟨mt, mp, rfl, rfl, m1, m2, e1, e2⟩
    · exact .inl h1
    · exact .inr ⟨mt, mp, rfl, rfl, m1.kept hkp (fun e => by rw [e1.2] at e; exact absurd e.2 (by decide)), m2.kept hkp (fun e => by rw [e2.2] at e; exact absurd e.2 (by decide)), ⟨⟨e1.1, hcol mt e1.1 (by rw [e1.2]; decide)⟩, e1.2⟩, ⟨⟨e2.1, hcol mp e2.1 (by rw [e2.2]; decide)⟩, e2.2⟩⟩
  · have h0 := (h.laid.key k hk').1
    exact ((h.tabs k hk').kept hkp (fun b hb e => by rw [hb.2] at e; omega)).mono (fun b hb => ⟨⟨hb.1, hcol b hb.1 (by rw [hb.2]; omega)⟩, hb.2⟩) (fun b hb => hlt b hb.1.1)
end
end Go.Proofs.YtcmpaohefihijabGreatDoor

/- The contracts of New, Gens and Get of package world. -/
namespace Go.Proofs.YtcmpaohefihijabGreatDoor
set_option maxRecDepth 8000
open Go.RowKit
variable {ZT : TypeId} {zr : List Value}

def placeZ : Value := .agg #[.pointer none, .int .i64 0]
theorem zeroPlace (w : World) : (zeroValue 133).run Tryz.prog w = .ok placeZ w := by kernel_rfl
theorem zeroTab (w : World) : (zeroValue 131).run Tryz.prog w = .ok (.pointer none) w := by kernel_rfl

section
variable {w : World} {p : Nat} {F : Nat → Prop} {c : Nat → Int} {l : List (Int × Bool)} {tm pm : Value} {ks : List Int} {tb : Int → Nat} {tr : Int → List Rw} {hk : List (Int × Int)} {pl : Int × Int → Int × Nat} {R : Rw → Prop}
theorem WldIs.look2i (h : WldIs ZT zr w p F c l tm pm ks tb tr hk pl R) (a b : Int) (ha : I64r a) (hb : I64r b) (hm : (a, b) ∈ hk) :
    (Instr.lookup 69 pm (.agg #[.int .i64 a, .int .i64 b]) true).run Tryz.prog w = .ok (.tuple #[plV tb pl (a, b), .bool true]) w := by
  rcases h.maps with ⟨_, rfl, _, rfl⟩ | ⟨mt, mp, _, rfl, m1, m2, _⟩
  · simp at hm
  · have := m2.look2 Tryz.underlying69 (zeroPlace w) (a, b) ⟨ha, hb⟩
    simpa [hm, kHand] using this
theorem WldIs.look2o (h : WldIs ZT zr w p F c l tm pm ks tb tr hk pl R) (a b : Int) (ha : I64r a) (hb : I64r b) (hm : ¬ (a, b) ∈ hk) :
    (Instr.lookup 69 pm (.agg #[.int .i64 a, .int .i64 b]) true).run Tryz.prog w = .ok (.tuple #[placeZ, .bool false]) w := by
  rcases h.maps with ⟨_, rfl, _, rfl⟩ | ⟨mt, mp, _, rfl, m1, m2, _⟩
  · have := Maps.look_nil (w := w) true kHand.law Tryz.underlying69 (zeroPlace w) (kHand.key (a, b) ⟨ha, hb⟩)
    simpa [kHand] using this
  · have := m2.look2 Tryz.underlying69 (zeroPlace w) (a, b) ⟨ha, hb⟩
    simpa [hm, kHand] using this
theorem WldIs.look1i (h : WldIs ZT zr w p F c l tm pm ks tb tr hk pl R) (a b : Int) (ha : I64r a) (hb : I64r b) (hm : (a, b) ∈ hk) :
    (Instr.lookup 69 pm (.agg #[.int .i64 a, .int .i64 b]) false).run Tryz.prog w = .ok (plV tb pl (a, b)) w := by
  rcases h.maps with ⟨_, rfl, _, rfl⟩ | ⟨mt, mp, _, rfl, m1, m2, _⟩
  · simp at hm
  · have := m2.look Tryz.underlying69 (zeroPlace w) (a, b) ⟨ha, hb⟩
    simpa [hm, kHand] using this
end

theorem WldIn.new (w : World) : WldIn ZT zr (w.alloc (.cells (.slice none 0 0 :: .map none :: .map none :: zr).toArray ZT)) w.heap.size (fun b => b = w.heap.size) [] (fun _ => False) :=
  ⟨fun _ => -1, .map none, .map none, [], fun _ => 0, fun _ => [], [], fun _ => (0, 0), ⟨⟨.slice none 0 0, heap_alloc_new w _, Owns.nil _ _ _, ⟨rfl, rfl⟩, fun k e => by simp [Value.ownBlock] at e, fun k e => by simp [e.1]⟩, .inl ⟨rfl, rfl, rfl, rfl⟩, fun k hk => by simp at hk, Laid.nil _, fun b e => by simp [e]⟩⟩
theorem WldAt.new (w : World) : WldAt (w.alloc (.cells #[.slice none 0 0, .map none, .map none] 71)) w.heap.size (fun b => b = w.heap.size) [] (fun _ => False) := WldIn.new (zr := []) w

set_option maxHeartbeats 400000 in
theorem worldGens_any (p : Nat) (F : Nat → Prop) (l : List (Int × Bool)) (R : Rw → Prop) (w : World) (h : WldIn ZT zr w p F l R) (ok : SlotOk l) :
    Calls Tryz.prog 18 #[.pointer (some ⟨p, 0, none⟩)] w fun e w' => ∃ v, e = .returned v ∧ OwnsF elInt w' w.heap.size 3 v (gensL l) ∧ Below w.heap.size w w' := by
  obtain ⟨c, tm, pm, ks, tb, tr, hk, pl, h⟩ := h
  have HS := Lib.hid h.slots
  have HOK := Lib.hid ok
  have hpl := h.plt
  clear h ok
  go_enter Tryz.func18, Tryz.ntmps18
  go_wp2_with fail
  refine (gens_any p _ l _ HS.out HOK.out).mono ?_
  rintro e w' ⟨v, rfl, ho, hb⟩
  have HO := Lib.hid ho
  have HB := Lib.hid hb
  clear ho hb
  go_wp2
  go_ret
  exact ⟨_, rfl, HO.out, HB.out⟩

theorem getE_yes {rows : List Rw} {a b : Int} (h : hasH rows a b = true) : getE rows a b = 0 ∧ getR rows a b = rows.getD (atN rows a b) rowZ := by rw [getE, getR, h]; exact ⟨rfl, rfl⟩
theorem getE_no {rows : List Rw} {a b : Int} (h : hasH rows a b = false) : getE rows a b = 7 ∧ getR rows a b = rowZ := by rw [getE, getR, h]; exact ⟨rfl, rfl⟩
def zeroB : Array Value := #[.int .i64 0, .int .i64 0, .int .i64 0, .int .i64 0, .int .i64 0, .int .i64 0, .int .i64 0, .int .i64 0, .int .i64 0]

set_option maxHeartbeats 2000000 in
theorem worldGet_no (p : Nat) (F : Nat → Prop) (l : List (Int × Bool)) (rows : List Rw) (a b : Int) (w : World) (h : WldIn ZT zr w p F l (· ∈ rows)) (ha : I64r a) (hb : I64r b) (hh : hasH rows a b = false) :
    Calls Tryz.prog 99 #[.pointer (some ⟨p, 0, none⟩), .agg #[.int .i64 a, .int .i64 b]] w fun e w' => e = .returned (.tuple #[.agg #[.int .i64 rowZ.m, .int .i64 (rowZ.f 0), .int .i64 (rowZ.f 1), .int .i64 (rowZ.f 2), .int .i64 (rowZ.f 3), .int .i64 (rowZ.f 4), .int .i64 (rowZ.f 5), .int .i64 (rowZ.f 6), .int .i64 (rowZ.f 7)], .int .i64 7]) ∧ Below w.heap.size w w' := by
  obtain ⟨c, tm, pm, ks, tb, tr, hk, pl, h⟩ := h
  have hm : ¬ (a, b) ∈ hk := of_decide_eq_false ((h.laid.hasH a b).trans hh)
  have hX : Below w.heap.size w ((w.alloc (.cells #[.int .i64 a, .int .i64 b] 34)).alloc (.cells #[.int .i64 0, .int .i64 0, .int .i64 0, .int .i64 0, .int .i64 0, .int .i64 0, .int .i64 0, .int .i64 0, .int .i64 0] 37)) := nb_alloc (nb_alloc (Below.refl _ _) _) _
  have HX := Lib.hid hX
  have hsz : ((w.alloc (.cells #[.int .i64 a, .int .i64 b] 34)).alloc (.cells #[.int .i64 0, .int .i64 0, .int .i64 0, .int .i64 0, .int .i64 0, .int .i64 0, .int .i64 0, .int .i64 0, .int .i64 0] 37)).heap.size = w.heap.size + 2 := by simp
  have hbb : ((w.alloc (.cells #[.int .i64 a, .int .i64 b] 34)).alloc (.cells #[.int .i64 0, .int .i64 0, .int .i64 0, .int .i64 0, .int .i64 0, .int .i64 0, .int .i64 0, .int .i64 0, .int .i64 0] 37)).heap[w.heap.size + 1]? = some (.cells #[.int .i64 0, .int .i64 0, .int .i64 0, .int .i64 0, .int .i64 0, .int .i64 0, .int .i64 0, .int .i64 0, .int .i64 0] 37) := heap_alloc2_new _ _ _
  have hhb : ((w.alloc (.cells #[.int .i64 a, .int .i64 b] 34)).alloc (.cells #[.int .i64 0, .int .i64 0, .int .i64 0, .int .i64 0, .int .i64 0, .int .i64 0, .int .i64 0, .int .i64 0, .int .i64 0] 37)).heap[w.heap.size]? = some (.cells #[.int .i64 a, .int .i64 b] 34) := heap_alloc2_old _ _ _
  have HW := Lib.hid (h.later hX)
  clear h hX
  go_enter Tryz.func99, Tryz.ntmps99
  go_wp2_with fail
  generalize ((w.alloc (.cells #[.int .i64 a, .int .i64 b] 34)).alloc (.cells #[.int .i64 0, .int .i64 0, .int .i64 0, .int .i64 0, .int .i64 0, .int .i64 0, .int .i64 0, .int .i64 0, .int .i64 0] 37)) = X at *
  have c2 := HW.out.cell2
  have hpl := HW.out.plt
  obtain ⟨kh0, kh1⟩ := hCells (a := a) (b := b) hhb
  have hlk : (Instr.lookup 69 pm (.agg #[.int .i64 a, .int .i64 b]) true).run Tryz.prog X.drew = .ok (.tuple #[.agg #[.pointer none, .int .i64 0], .bool false]) X.drew := (HW.out.later (Below.refl _ _).drew).look2o a b ha hb hm
  have hlk1 : (Instr.lookup 69 pm (.agg #[.int .i64 a, .int .i64 b]) true).run Tryz.prog (X.alloc (.cells #[.pointer none, .int .i64 0] 133)).drew = .ok (.tuple #[.agg #[.pointer none, .int .i64 0], .bool false]) (X.alloc (.cells #[.pointer none, .int .i64 0] 133)).drew := (HW.out.later (nb_alloc (Below.refl _ _) _).drew).look2o a b ha hb hm
  have fz : ∀ j, X.frozen? ⟨w.heap.size + 1, j, none⟩ = false := fun j => frozen_of_row _ _ _ _ _ hbb
  have hbl : w.heap.size + 1 < X.heap.size := by omega
  have hhl : w.heap.size < X.heap.size := by omega
  obtain ⟨k0, k1, k2, k3, k4, k5, k6, k7, k8⟩ := bCells0 hbb
  clear hh hhb hsz hbb HW hm
  go_region
  all_goals
    clear hlk hlk1 kh0 kh1 c2
    go_wp2
    refine bodyPost_ret (v := .tuple #[.agg #[.int .i64 rowZ.m, .int .i64 (rowZ.f 0), .int .i64 (rowZ.f 1), .int .i64 (rowZ.f 2), .int .i64 (rowZ.f 3), .int .i64 (rowZ.f 4), .int .i64 (rowZ.f 5), .int .i64 (rowZ.f 6), .int .i64 (rowZ.f 7)], .int .i64 7]) (by simp [results, Tryz.results99, go_sem, rowZ, hbl, k0, k1, k2, k3, k4, k5, k6, k7, k8]) rfl ⟨rfl, ?_⟩
    refine Below.drew ?_
    refine nb_alloc ?_ _
    iterate 9 (refine nb_set ?_ _ _ _ (by omega))
    exact HX.out

set_option maxHeartbeats 4000000 in
theorem worldGet_yes (p : Nat) (F : Nat → Prop) (l : List (Int × Bool)) (rows : List Rw) (a b : Int) (r : Rw) (w : World) (h : WldIn ZT zr w p F l (· ∈ rows)) (ha : I64r a) (hb : I64r b) (hh : hasH rows a b = true) (hr : rows.getD (atN rows a b) rowZ = r) :
    Calls Tryz.prog 99 #[.pointer (some ⟨p, 0, none⟩), .agg #[.int .i64 a, .int .i64 b]] w fun e w' => e = .returned (.tuple #[.agg #[.int .i64 r.m, .int .i64 (r.f 0), .int .i64 (r.f 1), .int .i64 (r.f 2), .int .i64 (r.f 3), .int .i64 (r.f 4), .int .i64 (r.f 5), .int .i64 (r.f 6), .int .i64 (r.f 7)], .int .i64 0]) ∧ Below w.heap.size w w' := by
  obtain ⟨c, tm, pm, ks, tb, tr, hk, pl, h⟩ := h
  have hm : (a, b) ∈ hk := of_decide_eq_true ((h.laid.hasH a b).trans hh)
  have hg := h.laid.get hm
  rw [hr] at hg
  obtain ⟨hkk, hil, -⟩ := h.laid.at_ _ hm
  obtain ⟨k, hkq⟩ : ∃ k, (pl (a, b)).1 = k := ⟨_, rfl⟩
  obtain ⟨i, hiq⟩ : ∃ i, (pl (a, b)).2 = i := ⟨_, rfl⟩
  obtain ⟨q, hqq⟩ : ∃ q, tb k = q := ⟨_, rfl⟩
  rw [hkq] at hkk
  rw [hkq, hiq] at hg hil
  have HTAB : Hid (∀ Y, Below w.heap.size w Y → TableAt Y q (fun b => F b ∧ c b = k) k (tr k)) := Lib.hid (fun Y hY => by rw [← hqq]; exact (h.tabs k hkk).later hY)
  have HTOK := Lib.hid (h.laid.tab hkk)
  obtain ⟨hr1, hr2⟩ := rowR_in hil
  have HR1 : Hid (rowR (tr k) i = r) := Lib.hid (hr1.trans hg.symm)
  have HR2 := Lib.hid hr2
  have hi60 : (i : Int) ≤ 9223372036854775807 := by
    obtain ⟨_, _, _, _, _, ht⟩ := h.tabs k hkk
    obtain ⟨_, cap, _, h1, h2, _⟩ := ht.own.reads
    rw [hsOf_len] at h1
    unfold maxLen at h2
    omega
  clear hr hg hkk hr1 hr2
  have hX : Below w.heap.size w ((w.alloc (.cells #[.int .i64 a, .int .i64 b] 34)).alloc (.cells #[.int .i64 0, .int .i64 0, .int .i64 0, .int .i64 0, .int .i64 0, .int .i64 0, .int .i64 0, .int .i64 0, .int .i64 0] 37)) := nb_alloc (nb_alloc (Below.refl _ _) _) _
  have HX := Lib.hid hX
  have hsz : ((w.alloc (.cells #[.int .i64 a, .int .i64 b] 34)).alloc (.cells #[.int .i64 0, .int .i64 0, .int .i64 0, .int .i64 0, .int .i64 0, .int .i64 0, .int .i64 0, .int .i64 0, .int .i64 0] 37)).heap.size = w.heap.size + 2 := by simp
  have hbb : ((w.alloc (.cells #[.int .i64 a, .int .i64 b] 34)).alloc (.cells #[.int .i64 0, .int .i64 0, .int .i64 0, .int .i64 0, .int .i64 0, .int .i64 0, .int .i64 0, .int .i64 0, .int .i64 0] 37)).heap[w.heap.size + 1]? = some (.cells #[.int .i64 0, .int .i64 0, .int .i64 0, .int .i64 0, .int .i64 0, .int .i64 0, .int .i64 0, .int .i64 0, .int .i64 0] 37) := heap_alloc2_new _ _ _
  have hhb : ((w.alloc (.cells #[.int .i64 a, .int .i64 b] 34)).alloc (.cells #[.int .i64 0, .int .i64 0, .int .i64 0, .int .i64 0, .int .i64 0, .int .i64 0, .int .i64 0, .int .i64 0, .int .i64 0] 37)).heap[w.heap.size]? = some (.cells #[.int .i64 a, .int .i64 b] 34) := heap_alloc2_old _ _ _
  have HW := Lib.hid (h.later hX)
  clear h hX
  go_enter Tryz.func99, Tryz.ntmps99
  go_wp2_with fail
  generalize ((w.alloc (.cells #[.int .i64 a, .int .i64 b] 34)).alloc (.cells #[.int .i64 0, .int .i64 0, .int .i64 0, .int .i64 0, .int .i64 0, .int .i64 0, .int .i64 0, .int .i64 0, .int .i64 0] 37)) = X at *
  have c2 := HW.out.cell2
  have hpl := HW.out.plt
  obtain ⟨kh0, kh1⟩ := hCells (a := a) (b := b) hhb
  have hlk : (Instr.lookup 69 pm (.agg #[.int .i64 a, .int .i64 b]) true).run Tryz.prog X.drew = .ok (.tuple #[.agg #[.pointer (some ⟨q, 0, none⟩), .int .i64 i], .bool true]) X.drew := by
    have := (HW.out.later (Below.refl _ _).drew).look2i a b ha hb hm
    rw [plV, hkq, hiq, hqq] at this; exact this
  have hlk1 : (Instr.lookup 69 pm (.agg #[.int .i64 a, .int .i64 b]) true).run Tryz.prog (X.alloc (.cells #[.pointer none, .int .i64 0] 133)).drew = .ok (.tuple #[.agg #[.pointer (some ⟨q, 0, none⟩), .int .i64 i], .bool true]) (X.alloc (.cells #[.pointer none, .int .i64 0] 133)).drew := by
    have := (HW.out.later (nb_alloc (Below.refl _ _) (.cells #[.pointer none, .int .i64 0] 133)).drew).look2i a b ha hb hm
    rw [plV, hkq, hiq, hqq] at this; exact this
  have HBB := Lib.hid hbb
  have hbl : w.heap.size + 1 < X.heap.size := by omega
  have hhl : w.heap.size < X.heap.size := by omega
  clear hh hhb hsz hbb HW hm hkq hiq hqq hil
  go_region
  all_goals
    clear hlk hlk1 kh0 kh1 c2
    go_wp2_with fail
    refine (tabRow_any q _ k (tr k) i r 0 _ (HTAB.out _ (nb_alloc HX.out _).drew) HTOK.out HR1.out HR2.out).mono ?_
    rintro e w' ⟨rfl, hb'⟩
    have hbw : Below w.heap.size w w' := nb_trans (nb_alloc HX.out _).drew hb'
    have hbb' : w'.heap[w.heap.size + 1]? = some (.cells #[.int .i64 0, .int .i64 0, .int .i64 0, .int .i64 0, .int .i64 0, .int .i64 0, .int .i64 0, .int .i64 0, .int .i64 0] 37) := by rw [hb'.block _ (by simp; omega)]; exact (Below.heap_alloc X _ _ hbl).trans HBB.out
    have hbl' := (Array.getElem?_eq_some_iff.1 hbb').1
    obtain ⟨k0, k1, k2, k3, k4, k5, k6, k7, k8⟩ := bCells0 hbb'
    have fz : ∀ j, w'.frozen? ⟨w.heap.size + 1, j, none⟩ = false := fun j => frozen_of_row _ _ _ _ _ hbb'
    have HBW := Lib.hid hbw
    clear hb' hbb' hbw
    go_wp2
    refine bodyPost_ret (v := .tuple #[.agg #[.int .i64 r.m, .int .i64 (r.f 0), .int .i64 (r.f 1), .int .i64 (r.f 2), .int .i64 (r.f 3), .int .i64 (r.f 4), .int .i64 (r.f 5), .int .i64 (r.f 6), .int .i64 (r.f 7)], .int .i64 0]) (by simp [results, Tryz.results99, go_sem, hbl', k0, k1, k2, k3, k4, k5, k6, k7, k8]) rfl ⟨rfl, ?_⟩
    refine nb_alloc ?_ _
    iterate 9 (refine nb_set ?_ _ _ _ (by omega))
    exact HBW.out

theorem worldGet_any (p : Nat) (F : Nat → Prop) (l : List (Int × Bool)) (rows : List Rw) (a b : Int) (r : Rw) (x : Int) (w : World) (h : WldIn ZT zr w p F l (· ∈ rows)) (ha : I64r a) (hb : I64r b) (hr : getR rows a b = r) (hx : getE rows a b = x) :
    Calls Tryz.prog 99 #[.pointer (some ⟨p, 0, none⟩), .agg #[.int .i64 a, .int .i64 b]] w fun e w' => e = .returned (.tuple #[.agg #[.int .i64 r.m, .int .i64 (r.f 0), .int .i64 (r.f 1), .int .i64 (r.f 2), .int .i64 (r.f 3), .int .i64 (r.f 4), .int .i64 (r.f 5), .int .i64 (r.f 6), .int .i64 (r.f 7)], .int .i64 x]) ∧ Below w.heap.size w w' := by
  cases hh : hasH rows a b
  · obtain ⟨e1, e2⟩ := getE_no hh
    rw [← hr, ← hx, e1, e2]
    exact worldGet_no p F l rows a b w h ha hb hh
  · obtain ⟨e1, e2⟩ := getE_yes hh
    rw [← hr, ← hx, e1, e2]
    exact worldGet_yes p F l rows a b _ w h ha hb hh rfl
end Go.Proofs.YtcmpaohefihijabGreatDoor

/- Boxes; what the maps of a world hold. -/
namespace Go.Proofs.YtcmpaohefihijabGreatDoor
open Go.RowKit
variable {ZT : TypeId} {zr : List Value}

/-- the boxes of a handle and a beast -/
structure Boxes (n : Nat) (Y : World) (r : Rw) : Prop where
  hb : Y.heap[n]? = some (.cells #[.int .i64 r.s, .int .i64 r.g] 34)
  bb : Y.heap[n + 1]? = some (.cells #[.int .i64 r.m, .int .i64 (r.f 0), .int .i64 (r.f 1), .int .i64 (r.f 2), .int .i64 (r.f 3), .int .i64 (r.f 4), .int .i64 (r.f 5), .int .i64 (r.f 6), .int .i64 (r.f 7)] 37)
theorem Boxes.h0 {n : Nat} {Y : World} {r : Rw} (h : Boxes n Y r) : Y.cell? ⟨n, 0, none⟩ = some (.int .i64 r.s) := by rw [cell_of_row _ _ _ _ _ _ h.hb]; rfl
theorem Boxes.h1 {n : Nat} {Y : World} {r : Rw} (h : Boxes n Y r) : Y.cell? ⟨n, 1, none⟩ = some (.int .i64 r.g) := by rw [cell_of_row _ _ _ _ _ _ h.hb]; rfl
theorem Boxes.b0 {n : Nat} {Y : World} {r : Rw} (h : Boxes n Y r) : Y.cell? ⟨n + 1, 0, none⟩ = some (.int .i64 r.m) := by rw [cell_of_row _ _ _ _ _ _ h.bb]; rfl
theorem Boxes.b {n : Nat} {Y : World} {r : Rw} (h : Boxes n Y r) (j : Nat) (hj : j < 8) : Y.cell? ⟨n + 1, 1 + j, none⟩ = some (.int .i64 (r.f j)) := by rw [cell_of_row _ _ _ _ _ _ h.bb]; exact vals_at r.m r.f j hj
theorem Boxes.lt {n : Nat} {Y : World} {r : Rw} (h : Boxes n Y r) : n + 1 < Y.heap.size := (Array.getElem?_eq_some_iff.1 h.bb).1
theorem Boxes.kept {n : Nat} {Y Z : World} {r : Rw} {F : Nat → Prop} (h : Boxes n Y r) (hk : Kept F Y Z) (h0 : ¬ F n) (h1 : ¬ F (n + 1)) : Boxes n Z r := by
  have := h.lt
  exact ⟨by rw [hk.block n (by omega) h0]; exact h.hb, by rw [hk.block (n + 1) this h1]; exact h.bb⟩

theorem WldIs.lookT {w : World} {p mt : Nat} {F : Nat → Prop} {c : Nat → Int} {l : List (Int × Bool)} {pm : Value} {ks : List Int} {tb : Int → Nat} {tr : Int → List Rw} {hk : List (Int × Int)} {pl : Int × Int → Int × Nat} {R : Rw → Prop} (h : WldIs ZT zr w p F c l (.map (some mt)) pm ks tb tr hk pl R) (k : Int) (hk' : I64r k) :
    (Instr.lookup 68 (.map (some mt)) (.int .i64 k) false).run Tryz.prog w = .ok (if k ∈ ks then ptrOf tb k else .pointer none) w := by
  rcases h.maps with ⟨e, _⟩ | ⟨mt', mp, e, _, m1, m2, _⟩
  · cases e
  · obtain rfl : mt = mt' := by simpa using e
    exact m1.look Tryz.underlying68 (zeroTab w) k hk'
theorem WldIs.mapT {w : World} {p mt : Nat} {F : Nat → Prop} {c : Nat → Int} {l : List (Int × Bool)} {pm : Value} {ks : List Int} {tb : Int → Nat} {tr : Int → List Rw} {hk : List (Int × Int)} {pl : Int × Int → Int × Nat} {R : Rw → Prop} (h : WldIs ZT zr w p F c l (.map (some mt)) pm ks tb tr hk pl R) :
    MapIs kInt w mt ks.length ks (ptrOf tb) ∧ F mt ∧ c mt = -2 ∧ ks.length ≤ 256 := by
  rcases h.maps with ⟨e, _⟩ | ⟨mt', mp, e, _, m1, m2, c1, _⟩
  · cases e
  · obtain rfl : mt = mt' := by simpa using e
    exact ⟨m1, c1.1, c1.2, h.laid.ksLen m1.nodup⟩
theorem WldIs.mapP {w : World} {p mp : Nat} {F : Nat → Prop} {c : Nat → Int} {l : List (Int × Bool)} {tm : Value} {ks : List Int} {tb : Int → Nat} {tr : Int → List Rw} {hk : List (Int × Int)} {pl : Int × Int → Int × Nat} {R : Rw → Prop} (h : WldIs ZT zr w p F c l tm (.map (some mp)) ks tb tr hk pl R) :
    MapIs kHand w mp hk.length hk (plV tb pl) ∧ F mp ∧ c mp = -3 := by
  rcases h.maps with ⟨_, e, _⟩ | ⟨mt, mp', _, e, m1, m2, _, c2⟩
  · cases e
  · obtain rfl : mp = mp' := by simpa using e
    exact ⟨m2, c2.1, c2.2⟩

/-- There are few rows. -/
def Few (R : Rw → Prop) : Prop := ∃ rows : List Rw, rows.length ≤ 60 ∧ ∀ r, R r → r ∈ rows
theorem WOk.few {l : List (Int × Bool)} {rows : List Rw} (h : WOk l rows) : Few (· ∈ rows) := ⟨rows, h.len60, fun _ h => h⟩
theorem Kept.both {F : Nat → Prop} {w w' : World} (h : Kept F w w') (hs : w'.heap.size = w.heap.size) (o : Obj) : Kept F (w.alloc o) (w'.alloc o) ∧ (w'.alloc o).heap.size = (w.alloc o).heap.size := by
  refine ⟨⟨h.os, h.tape, h.output, by simp [hs], fun k hk hf => ?_⟩, by simp [hs]⟩
  by_cases e : k < w.heap.size
  · rw [Below.heap_alloc _ _ _ (by rw [hs]; exact e), Below.heap_alloc _ _ _ e]; exact h.block k e hf
  · have e' : k = w.heap.size := by simp at hk; omega
    subst e'
    rw [heap_alloc_new w, ← hs, heap_alloc_new w']
end Go.Proofs.YtcmpaohefihijabGreatDoor

/- The contract of add of package world. -/
namespace Go.Proofs.YtcmpaohefihijabGreatDoor
set_option maxRecDepth 8000
open Go.RowKit
variable {ZT : TypeId} {zr : List Value}

def AddWPost (ZT : TypeId) (zr : List Value) (w : World) (p : Nat) (F : Nat → Prop) (l : List (Int × Bool)) (R : Rw → Prop) (r : Rw) (e : Ending) (w' : World) : Prop :=
  e = .returned (.tuple #[]) ∧ ∃ F', WldIn ZT zr w' p F' l (fun x => x = r ∨ R x) ∧ Kept F w w' ∧ Moves w F F'

set_option maxHeartbeats 4000000 in
theorem worldAdd_any (p : Nat) (F : Nat → Prop) (l : List (Int × Bool)) (R : Rw → Prop) (r : Rw) (w : World) (h : WldIn ZT zr w p F l R) (hbe : bErr r.m [r.f 0, r.f 1, r.f 2, r.f 3, r.f 4, r.f 5, r.f 6, r.f 7] = 0) (hnew : ∀ x, R x → hd x ≠ hd r) (hok : I64r r.s ∧ I64r r.g) (hfew : Few R) :
    Calls Tryz.prog 56 #[.pointer (some ⟨p, 0, none⟩), .agg #[.int .i64 r.s, .int .i64 r.g], .agg #[.int .i64 r.m, .int .i64 (r.f 0), .int .i64 (r.f 1), .int .i64 (r.f 2), .int .i64 (r.f 3), .int .i64 (r.f 4), .int .i64 (r.f 5), .int .i64 (r.f 6), .int .i64 (r.f 7)]] w (AddWPost ZT zr w p F l R r) := by
  obtain ⟨c, tm, pm, ks, tb, tr, hk, pl, h⟩ := h
  have HX : Hid (Below w.heap.size w ((w.alloc (.cells #[.int .i64 r.s, .int .i64 r.g] 34)).alloc (.cells #[.int .i64 r.m, .int .i64 (r.f 0), .int .i64 (r.f 1), .int .i64 (r.f 2), .int .i64 (r.f 3), .int .i64 (r.f 4), .int .i64 (r.f 5), .int .i64 (r.f 6), .int .i64 (r.f 7)] 37))) := Lib.hid (nb_alloc (nb_alloc (Below.refl _ _) _) _)
  have hbox : Boxes w.heap.size ((w.alloc (.cells #[.int .i64 r.s, .int .i64 r.g] 34)).alloc (.cells #[.int .i64 r.m, .int .i64 (r.f 0), .int .i64 (r.f 1), .int .i64 (r.f 2), .int .i64 (r.f 3), .int .i64 (r.f 4), .int .i64 (r.f 5), .int .i64 (r.f 6), .int .i64 (r.f 7)] 37)) r := ⟨heap_alloc2_old _ _ _, heap_alloc2_new _ _ _⟩
  have hwX := h.later HX.out
  have H0 := Lib.hid h
  have hlt := h.lt
  have HBOX : Hid (∀ Y, Kept F ((w.alloc (.cells #[.int .i64 r.s, .int .i64 r.g] 34)).alloc (.cells #[.int .i64 r.m, .int .i64 (r.f 0), .int .i64 (r.f 1), .int .i64 (r.f 2), .int .i64 (r.f 3), .int .i64 (r.f 4), .int .i64 (r.f 5), .int .i64 (r.f 6), .int .i64 (r.f 7)] 37)) Y → Boxes w.heap.size Y r) := Lib.hid (fun Y hY => hbox.kept hY (fun e => by have := hlt _ e; omega) (fun e => by have := hlt _ e; omega))
  have HBE := Lib.hid hbe
  have HNEW := Lib.hid hnew
  have HOK : Hid (I64r r.s ∧ I64r r.g) := Lib.hid hok
  have HFEW := Lib.hid hfew
  have HMI : Hid (I64r r.m) := Lib.hid (by have := (bErr_zero hbe).1; exact ⟨by omega, by omega⟩)
  clear h hbox hlt hbe hnew hok hfew
  have heq : ∀ x : World, (binOp .eql 68 (.map none) (.map none)).run Tryz.prog x = .ok (.bool true) x := fun x => by kernel_rfl
  go_enter Tryz.func56, Tryz.ntmps56
  rcases hwX.maps with ⟨rfl, rfl, rfl, rfl⟩ | ⟨mt, mp, rfl, rfl, -⟩
  · as_aux_lemma =>
    obtain ⟨v, hpv, -⟩ := H0.out.slots
    have c1 := H0.out.cell1
    have c2 := H0.out.cell2
    have hpl := H0.out.plt
    have hpA : p < w.heap.size + 1 := by omega
    have hpB : p < w.heap.size + 1 + 1 := by omega
    have hpC : p < w.heap.size + 1 + 1 + 1 := by omega
    have fz : ∀ j, w.frozen? ⟨p, j, none⟩ = false := fun j => frozen_of_row _ _ _ _ _ hpv
    have hmk1 : ∀ x : World, (Instr.makeMap 68 none).run Tryz.prog x = .ok (.map (some x.heap.size)) (x.alloc (.map #[] 0)) := run_makeMap 68
    have hmk2 : ∀ x : World, (Instr.makeMap 69 none).run Tryz.prog x = .ok (.map (some x.heap.size)) (x.alloc (.map #[] 0)) := run_makeMap 69
    have HWX := Lib.hid hwX
    have HPV := Lib.hid hpv
    clear hwX hpv
    go_wp2_with fail
    have hW1 : Kept (fun b => b = p) w ((w.setCell ⟨p, 1, none⟩ (.map (some (w.heap.size + 1 + 1)))).setCell ⟨p, 2, none⟩ (.map (some (w.heap.size + 1 + 1 + 1)))) := (Kept.setCell (F := fun b => b = p) w (p := ⟨p, 1, none⟩) rfl _).trans (Kept.setCell (F := fun b => b = p) _ (p := ⟨p, 2, none⟩) rfl _) (fun _ h => .inl h)
    have hs1 : ((w.setCell ⟨p, 1, none⟩ (.map (some (w.heap.size + 1 + 1)))).setCell ⟨p, 2, none⟩ (.map (some (w.heap.size + 1 + 1 + 1)))).heap.size = w.heap.size := by simp [World.setCell]
    obtain ⟨hW2, hs2⟩ := hW1.both hs1 (.cells #[.int .i64 r.s, .int .i64 r.g] 34)
    obtain ⟨hW3, hs3⟩ := hW2.both hs2 (.cells #[.int .i64 r.m, .int .i64 (r.f 0), .int .i64 (r.f 1), .int .i64 (r.f 2), .int .i64 (r.f 3), .int .i64 (r.f 4), .int .i64 (r.f 5), .int .i64 (r.f 6), .int .i64 (r.f 7)] 37)
    have hz : ((((w.setCell ⟨p, 1, none⟩ (.map (some (w.heap.size + 1 + 1)))).setCell ⟨p, 2, none⟩ (.map (some (w.heap.size + 1 + 1 + 1)))).alloc (.cells #[.int .i64 r.s, .int .i64 r.g] 34)).alloc (.cells #[.int .i64 r.m, .int .i64 (r.f 0), .int .i64 (r.f 1), .int .i64 (r.f 2), .int .i64 (r.f 3), .int .i64 (r.f 4), .int .i64 (r.f 5), .int .i64 (r.f 6), .int .i64 (r.f 7)] 37)).heap.size = w.heap.size + 1 + 1 := by rw [hs3]; simp
    obtain ⟨F1, c1', hw1, hkk1, hmm1⟩ := HWX.out.make (mt := w.heap.size + 1 + 1) (mp := w.heap.size + 1 + 1 + 1) (w' := ((((((w.setCell ⟨p, 1, none⟩ (.map (some (w.heap.size + 1 + 1)))).setCell ⟨p, 2, none⟩ (.map (some (w.heap.size + 1 + 1 + 1)))).alloc (.cells #[.int .i64 r.s, .int .i64 r.g] 34)).alloc (.cells #[.int .i64 r.m, .int .i64 (r.f 0), .int .i64 (r.f 1), .int .i64 (r.f 2), .int .i64 (r.f 3), .int .i64 (r.f 4), .int .i64 (r.f 5), .int .i64 (r.f 6), .int .i64 (r.f 7)] 37)).alloc (.map #[] 0)).alloc (.map #[] 0))) ((hW3.trans (Kept.alloc (fun b => b = p) _ _) (fun _ h => .inl h)).trans (Kept.alloc (fun b => b = p) _ _) (fun _ h => .inl h)) (fun v hv => by
      have hpw : w.heap[p]? = some (.cells (v :: .map none :: .map none :: zr).toArray ZT (0, 0)) := by
        rw [HX.out.block p hpl] at hv; exact hv
      rw [Below.heap_alloc _ _ _ (by simp [hz]; omega), Below.heap_alloc _ _ _ (by rw [hz]; omega), Below.heap_alloc _ _ _ (by simp [World.setCell]; omega), Below.heap_alloc _ _ _ (by simp [World.setCell]; omega)]
      rw [heap_setCell_same _ _ _ _ _ _ (heap_setCell_same _ _ _ _ _ _ hpw)]
      rfl) (by
      have := (MapIs.new kInt ((((w.setCell ⟨p, 1, none⟩ (.map (some (w.heap.size + 1 + 1)))).setCell ⟨p, 2, none⟩ (.map (some (w.heap.size + 1 + 1 + 1)))).alloc (.cells #[.int .i64 r.s, .int .i64 r.g] 34)).alloc (.cells #[.int .i64 r.m, .int .i64 (r.f 0), .int .i64 (r.f 1), .int .i64 (r.f 2), .int .i64 (r.f 3), .int .i64 (r.f 4), .int .i64 (r.f 5), .int .i64 (r.f 6), .int .i64 (r.f 7)] 37)) (ptrOf tb))
      rw [hz] at this
      exact this.later (nb_alloc (Below.refl _ _) _)) (by
      have := (MapIs.new kHand (((((w.setCell ⟨p, 1, none⟩ (.map (some (w.heap.size + 1 + 1)))).setCell ⟨p, 2, none⟩ (.map (some (w.heap.size + 1 + 1 + 1)))).alloc (.cells #[.int .i64 r.s, .int .i64 r.g] 34)).alloc (.cells #[.int .i64 r.m, .int .i64 (r.f 0), .int .i64 (r.f 1), .int .i64 (r.f 2), .int .i64 (r.f 3), .int .i64 (r.f 4), .int .i64 (r.f 5), .int .i64 (r.f 6), .int .i64 (r.f 7)] 37)).alloc (.map #[] 0)) (plV tb pl))
      rw [show (((((w.setCell ⟨p, 1, none⟩ (.map (some (w.heap.size + 1 + 1)))).setCell ⟨p, 2, none⟩ (.map (some (w.heap.size + 1 + 1 + 1)))).alloc (.cells #[.int .i64 r.s, .int .i64 r.g] 34)).alloc (.cells #[.int .i64 r.m, .int .i64 (r.f 0), .int .i64 (r.f 1), .int .i64 (r.f 2), .int .i64 (r.f 3), .int .i64 (r.f 4), .int .i64 (r.f 5), .int .i64 (r.f 6), .int .i64 (r.f 7)] 37)).alloc (.map #[] 0)).heap.size = w.heap.size + 1 + 1 + 1 by simp [hz]] at this
      exact this) (by simp) (by simp) (by omega)
    clear hW1 hs1 hW2 hs2 hW3 hs3 hz c1 c2 fz hpA hpB hpC hpl hmk1 hmk2 heq HWX HPV H0
    generalize ((((((w.setCell ⟨p, 1, none⟩ (.map (some (w.heap.size + 1 + 1)))).setCell ⟨p, 2, none⟩ (.map (some (w.heap.size + 1 + 1 + 1)))).alloc (.cells #[.int .i64 r.s, .int .i64 r.g] 34)).alloc (.cells #[.int .i64 r.m, .int .i64 (r.f 0), .int .i64 (r.f 1), .int .i64 (r.f 2), .int .i64 (r.f 3), .int .i64 (r.f 4), .int .i64 (r.f 5), .int .i64 (r.f 6), .int .i64 (r.f 7)] 37)).alloc (.map #[] 0)).alloc (.map #[] 0)) = U at *
    obtain ⟨mt, hmt⟩ : ∃ mt, mt = w.heap.size + 1 + 1 := ⟨_, rfl⟩
    obtain ⟨mp, hmp⟩ : ∃ mp, mp = w.heap.size + 1 + 1 + 1 := ⟨_, rfl⟩
    rw [← hmp, ← hmt] at hw1
    generalize ((w.alloc (.cells #[.int .i64 r.s, .int .i64 r.g] 34)).alloc (.cells #[.int .i64 r.m, .int .i64 (r.f 0), .int .i64 (r.f 1), .int .i64 (r.f 2), .int .i64 (r.f 3), .int .i64 (r.f 4), .int .i64 (r.f 5), .int .i64 (r.f 6), .int .i64 (r.f 7)] 37)) = X at *
    have HW := Lib.hid hw1
    have HK := Lib.hid hkk1
    have HM := Lib.hid hmm1
    obtain ⟨ks, hks⟩ : ∃ ks : List Int, ks = [] := ⟨_, rfl⟩
    obtain ⟨hk, hhk⟩ : ∃ hk : List (Int × Int), hk = [] := ⟨_, rfl⟩
    rw [← hks, ← hhk] at HW
    have HNK : Hid (¬ r.m ∈ ks) := Lib.hid (by rw [hks]; simp)
    clear hw1 hkk1 hmm1 hks hhk hmt hmp
    have hlk : ∀ n, (Instr.lookup 68 (.map (some mt)) (.int .i64 r.m) false).run Tryz.prog (U.drewN n) = .ok (.pointer none) (U.drewN n) := fun n => by
      have := (HW.out.later (nb_drewN (n := n) (Below.refl U.heap.size U))).lookT r.m HMI.out
      rw [if_neg HNK.out] at this; exact this
    have c1 := HW.out.cell1
    have kb0 := (HBOX.out U HK.out).b0
    have hpl := HW.out.plt
    have hBl := (HBOX.out U HK.out).lt
    have hmI := HMI.out
    go_wp2_with fail
    go_quiet (fail)
    go_wp2_with fail
    clear hlk c1 kb0
    have HW2 := Lib.hid (HW.out.later (nb_drewN (n := nq) (Below.refl U.heap.size U)))
    have HK2 : Hid (Kept F X (U.drewN nq)) := Lib.hid (HK.out.trans (Kept.ofBelow (F := F) (nb_drewN (Below.refl _ _))) (fun _ h => .inl h))
    have HM2 := HM
    clear HW HK HM
    replace hpl : p < (U.drewN nq).heap.size := hpl
    replace hBl : w.heap.size + 1 < (U.drewN nq).heap.size := hBl
    generalize U.drewN nq = V at *
    have kb0 := (HBOX.out V HK2.out).b0
    have hB0 := bErr_zero HBE.out
    go_wp2_with fail
    refine (tableNew_yes r.m _ hB0.1.1 hB0.1.2).mono ?_
    rintro e w3 ⟨q, F3, rfl, ht3, hf3, hb3⟩
    have hkX3 : Kept F X w3 := HK2.out.trans (Kept.ofBelow (F := F) hb3) (fun _ h => .inl h)
    have c13 := (HW2.out.later hb3).cell1
    have kb3 := (HBOX.out w3 hkX3).b0
    have hpl3 : p < w3.heap.size := Nat.lt_of_lt_of_le hpl hb3.size
    have hBl3 := (HBOX.out w3 hkX3).lt
    have HMT : Hid (MapIs kInt w3.drew mt ks.length ks (ptrOf tb)) := Lib.hid ((HW2.out.mapT.1.later hb3).kept (Kept.drew (fun _ => False) _) id)
    have HKL : Hid (ks.length < maxLen) := Lib.hid (by have := HW2.out.mapT.2.2.2; unfold maxLen; omega)
    have HT3 := Lib.hid ht3
    have HF3 := Lib.hid hf3
    have HB3 := Lib.hid hb3
    have HX3 := Lib.hid hkX3
    clear ht3 hf3 hb3 hkX3 kb0 hpl hBl hB0
    go_wp2_with fail
    go_still_tail 7, (by kernel_rfl)
    change wpList _ _ _ _ _ w3.drew
    clear c13 kb3
    go_wp2_with (first | (at_mapUpdate; refine wpList_put_new (K := kInt) _ rfl _ _ _ 68 rfl 131 Tryz.underlying68 rfl HMT.out HKL.out r.m HMI.out (.pointer (some ⟨q, 0, none⟩)) rfl rfl HNK.out ?_))
    intro W hmap4 hk4
    have hB0 := bErr_zero HBE.out
    obtain ⟨F4, c4, hw4, hkk4, hmm4⟩ := HW2.out.newTab HNK.out hB0.1.1 hB0.1.2 HT3.out HB3.out HF3.out ((Kept.drew (fun b => b = mt) w3).trans hk4 (fun _ h => .inl h)) hmap4.tight
    obtain ⟨ks4, hks4⟩ : ∃ ks4, ks4 = ks ++ [r.m] := ⟨_, rfl⟩
    obtain ⟨tb1, htb4⟩ : ∃ tb4 : Int → Nat, tb4 = fun j => if j = r.m then q else tb j := ⟨_, rfl⟩
    rw [← hks4, ← htb4] at hw4
    have HKM : Hid (r.m ∈ ks4) := Lib.hid (by rw [hks4]; simp)
    have HQ : Hid (tb1 r.m = q) := Lib.hid (by rw [htb4]; simp)
    have HW := Lib.hid hw4
    have HK : Hid (Kept F X W) := Lib.hid (HK2.out.trans hkk4 HM2.out)
    have HM : Hid (Moves X F F4) := Lib.hid (HM2.out.trans hmm4 HK2.out.size)
    clear hw4 hkk4 hmm4 hks4 htb4 hmap4 hk4 HW2 HK2 HM2 HT3 HF3 HB3 HX3 HMT HKL hB0 hpl3 hBl3 HNK
    have hB := HBOX.out W HK.out
    have kh0 := hB.h0
    have kh1 := hB.h1
    have kb0 := hB.b0
    have kb1 : W.cell? ⟨w.heap.size + 1, 1, none⟩ = some (.int .i64 (r.f 0)) := hB.b 0 (by decide)
    have kb2 : W.cell? ⟨w.heap.size + 1, 2, none⟩ = some (.int .i64 (r.f 1)) := hB.b 1 (by decide)
    have kb3 : W.cell? ⟨w.heap.size + 1, 3, none⟩ = some (.int .i64 (r.f 2)) := hB.b 2 (by decide)
    have kb4 : W.cell? ⟨w.heap.size + 1, 4, none⟩ = some (.int .i64 (r.f 3)) := hB.b 3 (by decide)
    have kb5 : W.cell? ⟨w.heap.size + 1, 5, none⟩ = some (.int .i64 (r.f 4)) := hB.b 4 (by decide)
    have kb6 : W.cell? ⟨w.heap.size + 1, 6, none⟩ = some (.int .i64 (r.f 5)) := hB.b 5 (by decide)
    have kb7 : W.cell? ⟨w.heap.size + 1, 7, none⟩ = some (.int .i64 (r.f 6)) := hB.b 6 (by decide)
    have kb8 : W.cell? ⟨w.heap.size + 1, 8, none⟩ = some (.int .i64 (r.f 7)) := hB.b 7 (by decide)
    have hBl := hB.lt
    obtain ⟨rws, hr60, hrin⟩ := HFEW.out
    have HTL : Hid (((tr r.m).length + 1) * 16 ≤ 140737488355328) := Lib.hid (by have := HW.out.laid.trLen hrin HKM.out; omega)
    have HHL : Hid (hk.length < maxLen) := Lib.hid (by have := HW.out.laid.hkLen HW.out.mapP.1.nodup hrin; unfold maxLen; omega)
    have HNH : Hid (¬ hd r ∈ hk) := Lib.hid (fun e => by obtain ⟨x, hx, e⟩ := (HW.out.laid.has _).1 e; exact HNEW.out x hx e)
    clear hB hr60 hrin
    go_wp2_with fail
    refine (tabAdd_any q _ r.m (tr r.m) r _ (by rw [← HQ.out]; exact HW.out.tabs r.m HKM.out) HTL.out).mono ?_
    rintro e w5 ⟨rfl, F5, ht5, hk5, hm5⟩
    rw [addL, addE, if_pos HBE.out, if_pos rfl, if_pos rfl] at ht5
    rw [addN, addE, if_pos HBE.out, if_pos rfl, if_pos rfl]
    have hk05 : 0 ≤ r.m := (HW.out.laid.key _ HKM.out).1
    have hkX5 : Kept F X w5 := HK.out.trans hk5 (fun b hb => HM.out b hb.1)
    have hB5 := HBOX.out w5 hkX5
    have l0 := hB5.h0
    have l1 := hB5.h1
    have hBl5 := hB5.lt
    have c25 := (HW.out.slots.kept hk5 (fun b hb hb' => by rw [hb.2] at hb'; omega)).cell.2
    have hpl5 : p < w5.heap.size := Nat.lt_of_lt_of_le HW.out.plt hk5.size
    have HMP : Hid (MapIs kHand w5.drew mp hk.length hk (plV tb1 pl)) := Lib.hid ((HW.out.mapP.1.kept hk5 (fun e => by rw [HW.out.mapP.2.2] at e; omega)).kept (Kept.drew (fun _ => False) _) id)
    have HT5 := Lib.hid ht5
    have HK5 := Lib.hid hk5
    have HM5 := Lib.hid hm5
    clear ht5 hk5 hm5 hk05 hkX5 hB5 kh0 kh1 kb0 kb1 kb2 kb3 kb4 kb5 kb6 kb7 kb8 hBl
    go_wp2_with fail
    go_still_tail 8, (by kernel_rfl)
    change wpList _ _ _ _ _ w5.drew
    clear l0 l1 c25
    go_wp2_with (first | (at_mapUpdate; refine wpList_put_new (K := kHand) _ rfl _ _ _ 69 rfl 133 Tryz.underlying69 rfl HMP.out HHL.out (r.s, r.g) HOK.out (.agg #[.pointer (some ⟨q, 0, none⟩), .int .i64 (tr r.m).length]) rfl rfl HNH.out ?_))
    intro w6 hmap6 hk6
    have HEND : Hid (AddWPost ZT zr w p F l R r (.returned (.tuple #[])) w6) := Lib.hid (by
      obtain ⟨F6, c6, hw6, hkk6, hmm6⟩ := HW.out.addRow HKM.out HBE.out HNH.out (by rw [HQ.out]; exact HT5.out) HK5.out HM5.out ((Kept.drew (fun b => b = mp) w5).trans hk6 (fun _ h => .inl h)) (by rw [HQ.out]; exact hmap6.tight)
      have hkk : Kept F X w6 := HK.out.trans hkk6 HM.out
      have hmm : Moves X F F6 := HM.out.trans hmm6 HK.out.size
      have hXs := HX.out.size
      exact ⟨rfl, F6, ⟨c6, _, _, _, _, _, _, _, hw6⟩, (Kept.ofBelow HX.out).trans hkk (fun _ h => .inl h), fun b hb => (hmm b hb).imp id (fun h => by omega)⟩)
    clear hmap6 hk6
    go_wp2
    go_end0
    exact HEND.out
  · have c1 := hwX.cell1
    have heqS : ∀ x : World, (binOp .eql 68 (.map (some mt)) (.map none)).run Tryz.prog x = .ok (.bool false) x := fun x => by kernel_rfl
    have hpl := hwX.plt
    have HWX := Lib.hid hwX
    clear hwX
    go_wp2_with fail
    clear c1 heqS heq hpl
    generalize ((w.alloc (.cells #[.int .i64 r.s, .int .i64 r.g] 34)).alloc (.cells #[.int .i64 r.m, .int .i64 (r.f 0), .int .i64 (r.f 1), .int .i64 (r.f 2), .int .i64 (r.f 3), .int .i64 (r.f 4), .int .i64 (r.f 5), .int .i64 (r.f 6), .int .i64 (r.f 7)] 37)) = X at *
    by_cases hkm : r.m ∈ ks
    · as_aux_lemma =>
      have c1 := HWX.out.cell1
      have kb0 := (HBOX.out X (Kept.refl _ _)).b0
      have hpl := HWX.out.plt
      have hBl := (HBOX.out X (Kept.refl _ _)).lt
      obtain ⟨q, hq⟩ : ∃ q, tb r.m = q := ⟨_, rfl⟩
      have hlk : ∀ n, (Instr.lookup 68 (.map (some mt)) (.int .i64 r.m) false).run Tryz.prog (X.drewN n) = .ok (.pointer (some ⟨q, 0, none⟩)) (X.drewN n) := fun n => by
        have := (HWX.out.later (nb_drewN (n := n) (Below.refl X.heap.size X))).lookT r.m HMI.out
        rw [if_pos hkm, ptrOf, hq] at this; exact this
      have HQ := Lib.hid hq
      have HKM := Lib.hid hkm
      clear hq hkm
      go_quiet (fail)
      clear hlk c1 kb0
      have HW : Hid (WldIs ZT zr (X.drewN nq) p F c l (.map (some mt)) (.map (some mp)) ks tb tr hk pl R) := Lib.hid (HWX.out.later (nb_drewN (Below.refl _ _)))
      have HK : Hid (Kept F X (X.drewN nq)) := Lib.hid (Kept.ofBelow (nb_drewN (Below.refl _ _)))
      have HM : Hid (Moves X F F) := Lib.hid (Moves.refl _ _)
      replace hpl : p < (X.drewN nq).heap.size := hpl
      replace hBl : w.heap.size + 1 < (X.drewN nq).heap.size := hBl
      clear HWX
      generalize X.drewN nq = W at *
      generalize htb : tb = tb1 at *
      clear htb
      have hB := HBOX.out W HK.out
      have kh0 := hB.h0
      have kh1 := hB.h1
      have kb0 := hB.b0
      have kb1 : W.cell? ⟨w.heap.size + 1, 1, none⟩ = some (.int .i64 (r.f 0)) := hB.b 0 (by decide)
      have kb2 : W.cell? ⟨w.heap.size + 1, 2, none⟩ = some (.int .i64 (r.f 1)) := hB.b 1 (by decide)
      have kb3 : W.cell? ⟨w.heap.size + 1, 3, none⟩ = some (.int .i64 (r.f 2)) := hB.b 2 (by decide)
      have kb4 : W.cell? ⟨w.heap.size + 1, 4, none⟩ = some (.int .i64 (r.f 3)) := hB.b 3 (by decide)
      have kb5 : W.cell? ⟨w.heap.size + 1, 5, none⟩ = some (.int .i64 (r.f 4)) := hB.b 4 (by decide)
      have kb6 : W.cell? ⟨w.heap.size + 1, 6, none⟩ = some (.int .i64 (r.f 5)) := hB.b 5 (by decide)
      have kb7 : W.cell? ⟨w.heap.size + 1, 7, none⟩ = some (.int .i64 (r.f 6)) := hB.b 6 (by decide)
      have kb8 : W.cell? ⟨w.heap.size + 1, 8, none⟩ = some (.int .i64 (r.f 7)) := hB.b 7 (by decide)
      have hBl := hB.lt
      obtain ⟨rws, hr60, hrin⟩ := HFEW.out
      have HTL : Hid (((tr r.m).length + 1) * 16 ≤ 140737488355328) := Lib.hid (by have := HW.out.laid.trLen hrin HKM.out; omega)
      have HHL : Hid (hk.length < maxLen) := Lib.hid (by have := HW.out.laid.hkLen HW.out.mapP.1.nodup hrin; unfold maxLen; omega)
      have HNH : Hid (¬ hd r ∈ hk) := Lib.hid (fun e => by obtain ⟨x, hx, e⟩ := (HW.out.laid.has _).1 e; exact HNEW.out x hx e)
      clear hB hr60 hrin
      go_wp2_with fail
      refine (tabAdd_any q _ r.m (tr r.m) r _ (by rw [← HQ.out]; exact HW.out.tabs r.m HKM.out) HTL.out).mono ?_
      rintro e w5 ⟨rfl, F5, ht5, hk5, hm5⟩
      rw [addL, addE, if_pos HBE.out, if_pos rfl, if_pos rfl] at ht5
      rw [addN, addE, if_pos HBE.out, if_pos rfl, if_pos rfl]
      have hk05 : 0 ≤ r.m := (HW.out.laid.key _ HKM.out).1
      have hkX5 : Kept F X w5 := HK.out.trans hk5 (fun b hb => HM.out b hb.1)
      have hB5 := HBOX.out w5 hkX5
      have l0 := hB5.h0
      have l1 := hB5.h1
      have hBl5 := hB5.lt
      have c25 := (HW.out.slots.kept hk5 (fun b hb hb' => by rw [hb.2] at hb'; omega)).cell.2
      have hpl5 : p < w5.heap.size := Nat.lt_of_lt_of_le HW.out.plt hk5.size
      have HMP : Hid (MapIs kHand w5.drew mp hk.length hk (plV tb1 pl)) := Lib.hid ((HW.out.mapP.1.kept hk5 (fun e => by rw [HW.out.mapP.2.2] at e; omega)).kept (Kept.drew (fun _ => False) _) id)
      have HT5 := Lib.hid ht5
      have HK5 := Lib.hid hk5
      have HM5 := Lib.hid hm5
      clear ht5 hk5 hm5 hk05 hkX5 hB5 kh0 kh1 kb0 kb1 kb2 kb3 kb4 kb5 kb6 kb7 kb8 hBl
      go_wp2_with fail
      go_still_tail 8, (by kernel_rfl)
      change wpList _ _ _ _ _ w5.drew
      clear l0 l1 c25
      go_wp2_with (first | (at_mapUpdate; refine wpList_put_new (K := kHand) _ rfl _ _ _ 69 rfl 133 Tryz.underlying69 rfl HMP.out HHL.out (r.s, r.g) HOK.out (.agg #[.pointer (some ⟨q, 0, none⟩), .int .i64 (tr r.m).length]) rfl rfl HNH.out ?_))
      intro w6 hmap6 hk6
      have HEND : Hid (AddWPost ZT zr w p F l R r (.returned (.tuple #[])) w6) := Lib.hid (by
        obtain ⟨F6, c6, hw6, hkk6, hmm6⟩ := HW.out.addRow HKM.out HBE.out HNH.out (by rw [HQ.out]; exact HT5.out) HK5.out HM5.out ((Kept.drew (fun b => b = mp) w5).trans hk6 (fun _ h => .inl h)) (by rw [HQ.out]; exact hmap6.tight)
        have hkk : Kept F X w6 := HK.out.trans hkk6 HM.out
        have hmm : Moves X F F6 := HM.out.trans hmm6 HK.out.size
        have hXs := HX.out.size
        exact ⟨rfl, F6, ⟨c6, _, _, _, _, _, _, _, hw6⟩, (Kept.ofBelow HX.out).trans hkk (fun _ h => .inl h), fun b hb => (hmm b hb).imp id (fun h => by omega)⟩)
      clear hmap6 hk6
      go_wp2
      go_end0
      exact HEND.out
    · as_aux_lemma =>
      obtain ⟨U, hUX⟩ : ∃ U, U = X := ⟨_, rfl⟩
      rw [← hUX]
      have HW : Hid (WldIs ZT zr U p F c l (.map (some mt)) (.map (some mp)) ks tb tr hk pl R) := Lib.hid (by rw [hUX]; exact HWX.out)
      have HK : Hid (Kept F X U) := Lib.hid (by rw [hUX]; exact Kept.refl _ _)
      have HM : Hid (Moves X F F) := Lib.hid (Moves.refl _ _)
      have HNK := Lib.hid hkm
      clear HWX hUX hkm
      have hlk : ∀ n, (Instr.lookup 68 (.map (some mt)) (.int .i64 r.m) false).run Tryz.prog (U.drewN n) = .ok (.pointer none) (U.drewN n) := fun n => by
        have := (HW.out.later (nb_drewN (n := n) (Below.refl U.heap.size U))).lookT r.m HMI.out
        rw [if_neg HNK.out] at this; exact this
      have c1 := HW.out.cell1
      have kb0 := (HBOX.out U HK.out).b0
      have hpl := HW.out.plt
      have hBl := (HBOX.out U HK.out).lt
      have hmI := HMI.out
      go_wp2_with fail
      go_quiet (fail)
      go_wp2_with fail
      clear hlk c1 kb0
      have HW2 := Lib.hid (HW.out.later (nb_drewN (n := nq) (Below.refl U.heap.size U)))
      have HK2 : Hid (Kept F X (U.drewN nq)) := Lib.hid (HK.out.trans (Kept.ofBelow (F := F) (nb_drewN (Below.refl _ _))) (fun _ h => .inl h))
      have HM2 := HM
      clear HW HK HM
      replace hpl : p < (U.drewN nq).heap.size := hpl
      replace hBl : w.heap.size + 1 < (U.drewN nq).heap.size := hBl
      generalize U.drewN nq = V at *
      have kb0 := (HBOX.out V HK2.out).b0
      have hB0 := bErr_zero HBE.out
      go_wp2_with fail
      refine (tableNew_yes r.m _ hB0.1.1 hB0.1.2).mono ?_
      rintro e w3 ⟨q, F3, rfl, ht3, hf3, hb3⟩
      have hkX3 : Kept F X w3 := HK2.out.trans (Kept.ofBelow (F := F) hb3) (fun _ h => .inl h)
      have c13 := (HW2.out.later hb3).cell1
      have kb3 := (HBOX.out w3 hkX3).b0
      have hpl3 : p < w3.heap.size := Nat.lt_of_lt_of_le hpl hb3.size
      have hBl3 := (HBOX.out w3 hkX3).lt
      have HMT : Hid (MapIs kInt w3.drew mt ks.length ks (ptrOf tb)) := Lib.hid ((HW2.out.mapT.1.later hb3).kept (Kept.drew (fun _ => False) _) id)
      have HKL : Hid (ks.length < maxLen) := Lib.hid (by have := HW2.out.mapT.2.2.2; unfold maxLen; omega)
      have HT3 := Lib.hid ht3
      have HF3 := Lib.hid hf3
      have HB3 := Lib.hid hb3
      have HX3 := Lib.hid hkX3
      clear ht3 hf3 hb3 hkX3 kb0 hpl hBl hB0
      go_wp2_with fail
      go_still_tail 7, (by kernel_rfl)
      change wpList _ _ _ _ _ w3.drew
      clear c13 kb3
      go_wp2_with (first | (at_mapUpdate; refine wpList_put_new (K := kInt) _ rfl _ _ _ 68 rfl 131 Tryz.underlying68 rfl HMT.out HKL.out r.m HMI.out (.pointer (some ⟨q, 0, none⟩)) rfl rfl HNK.out ?_))
      intro W hmap4 hk4
      have hB0 := bErr_zero HBE.out
      obtain ⟨F4, c4, hw4, hkk4, hmm4⟩ := HW2.out.newTab HNK.out hB0.1.1 hB0.1.2 HT3.out HB3.out HF3.out ((Kept.drew (fun b => b = mt) w3).trans hk4 (fun _ h => .inl h)) hmap4.tight
      obtain ⟨ks4, hks4⟩ : ∃ ks4, ks4 = ks ++ [r.m] := ⟨_, rfl⟩
      obtain ⟨tb1, htb4⟩ : ∃ tb4 : Int → Nat, tb4 = fun j => if j = r.m then q else tb j := ⟨_, rfl⟩
      rw [← hks4, ← htb4] at hw4
      have HKM : Hid (r.m ∈ ks4) := Lib.hid (by rw [hks4]; simp)
      have HQ : Hid (tb1 r.m = q) := Lib.hid (by rw [htb4]; simp)
      have HW := Lib.hid hw4
      have HK : Hid (Kept F X W) := Lib.hid (HK2.out.trans hkk4 HM2.out)
      have HM : Hid (Moves X F F4) := Lib.hid (HM2.out.trans hmm4 HK2.out.size)
      clear hw4 hkk4 hmm4 hks4 htb4 hmap4 hk4 HW2 HK2 HM2 HT3 HF3 HB3 HX3 HMT HKL hB0 hpl3 hBl3 HNK
      have hB := HBOX.out W HK.out
      have kh0 := hB.h0
      have kh1 := hB.h1
      have kb0 := hB.b0
      have kb1 : W.cell? ⟨w.heap.size + 1, 1, none⟩ = some (.int .i64 (r.f 0)) := hB.b 0 (by decide)
      have kb2 : W.cell? ⟨w.heap.size + 1, 2, none⟩ = some (.int .i64 (r.f 1)) := hB.b 1 (by decide)
      have kb3 : W.cell? ⟨w.heap.size + 1, 3, none⟩ = some (.int .i64 (r.f 2)) := hB.b 2 (by decide)
      have kb4 : W.cell? ⟨w.heap.size + 1, 4, none⟩ = some (.int .i64 (r.f 3)) := hB.b 3 (by decide)
      have kb5 : W.cell? ⟨w.heap.size + 1, 5, none⟩ = some (.int .i64 (r.f 4)) := hB.b 4 (by decide)
      have kb6 : W.cell? ⟨w.heap.size + 1, 6, none⟩ = some (.int .i64 (r.f 5)) := hB.b 5 (by decide)
      have kb7 : W.cell? ⟨w.heap.size + 1, 7, none⟩ = some (.int .i64 (r.f 6)) := hB.b 6 (by decide)
      have kb8 : W.cell? ⟨w.heap.size + 1, 8, none⟩ = some (.int .i64 (r.f 7)) := hB.b 7 (by decide)
      have hBl := hB.lt
      obtain ⟨rws, hr60, hrin⟩ := HFEW.out
      have HTL : Hid (((tr r.m).length + 1) * 16 ≤ 140737488355328) := Lib.hid (by have := HW.out.laid.trLen hrin HKM.out; omega)
      have HHL : Hid (hk.length < maxLen) := Lib.hid (by have := HW.out.laid.hkLen HW.out.mapP.1.nodup hrin; unfold maxLen; omega)
      have HNH : Hid (¬ hd r ∈ hk) := Lib.hid (fun e => by obtain ⟨x, hx, e⟩ := (HW.out.laid.has _).1 e; exact HNEW.out x hx e)
      clear hB hr60 hrin
      go_wp2_with fail
      refine (tabAdd_any q _ r.m (tr r.m) r _ (by rw [← HQ.out]; exact HW.out.tabs r.m HKM.out) HTL.out).mono ?_
      rintro e w5 ⟨rfl, F5, ht5, hk5, hm5⟩
      rw [addL, addE, if_pos HBE.out, if_pos rfl, if_pos rfl] at ht5
      rw [addN, addE, if_pos HBE.out, if_pos rfl, if_pos rfl]
      have hk05 : 0 ≤ r.m := (HW.out.laid.key _ HKM.out).1
      have hkX5 : Kept F X w5 := HK.out.trans hk5 (fun b hb => HM.out b hb.1)
      have hB5 := HBOX.out w5 hkX5
      have l0 := hB5.h0
      have l1 := hB5.h1
      have hBl5 := hB5.lt
      have c25 := (HW.out.slots.kept hk5 (fun b hb hb' => by rw [hb.2] at hb'; omega)).cell.2
      have hpl5 : p < w5.heap.size := Nat.lt_of_lt_of_le HW.out.plt hk5.size
      have HMP : Hid (MapIs kHand w5.drew mp hk.length hk (plV tb1 pl)) := Lib.hid ((HW.out.mapP.1.kept hk5 (fun e => by rw [HW.out.mapP.2.2] at e; omega)).kept (Kept.drew (fun _ => False) _) id)
      have HT5 := Lib.hid ht5
      have HK5 := Lib.hid hk5
      have HM5 := Lib.hid hm5
      clear ht5 hk5 hm5 hk05 hkX5 hB5 kh0 kh1 kb0 kb1 kb2 kb3 kb4 kb5 kb6 kb7 kb8 hBl
      go_wp2_with fail
      go_still_tail 8, (by kernel_rfl)
      change wpList _ _ _ _ _ w5.drew
      clear l0 l1 c25
      go_wp2_with (first | (at_mapUpdate; refine wpList_put_new (K := kHand) _ rfl _ _ _ 69 rfl 133 Tryz.underlying69 rfl HMP.out HHL.out (r.s, r.g) HOK.out (.agg #[.pointer (some ⟨q, 0, none⟩), .int .i64 (tr r.m).length]) rfl rfl HNH.out ?_))
      intro w6 hmap6 hk6
      have HEND : Hid (AddWPost ZT zr w p F l R r (.returned (.tuple #[])) w6) := Lib.hid (by
        obtain ⟨F6, c6, hw6, hkk6, hmm6⟩ := HW.out.addRow HKM.out HBE.out HNH.out (by rw [HQ.out]; exact HT5.out) HK5.out HM5.out ((Kept.drew (fun b => b = mp) w5).trans hk6 (fun _ h => .inl h)) (by rw [HQ.out]; exact hmap6.tight)
        have hkk : Kept F X w6 := HK.out.trans hkk6 HM.out
        have hmm : Moves X F F6 := HM.out.trans hmm6 HK.out.size
        have hXs := HX.out.size
        exact ⟨rfl, F6, ⟨c6, _, _, _, _, _, _, _, hw6⟩, (Kept.ofBelow HX.out).trans hkk (fun _ h => .inl h), fun b hb => (hmm b hb).imp id (fun h => by omega)⟩)
      clear hmap6 hk6
      go_wp2
      go_end0
      exact HEND.out
end Go.Proofs.YtcmpaohefihijabGreatDoor

/- The contract of remove of package world. -/
namespace Go.Proofs.YtcmpaohefihijabGreatDoor
set_option maxRecDepth 8000
open Go.RowKit
variable {ZT : TypeId} {zr : List Value}

/-- as RemWPost, and from n0 on only cells -/
def RemWPostN (n0 : Nat) (ZT : TypeId) (zr : List Value) (w : World) (p : Nat) (F : Nat → Prop) (l : List (Int × Bool)) (R : Rw → Prop) (a b : Int) (e : Ending) (w' : World) : Prop :=
  e = .returned (.tuple #[]) ∧ ∃ F', WldIn ZT zr w' p F' l (fun r => R r ∧ hd r ≠ (a, b)) ∧ Kept F w w' ∧ Moves w F F' ∧ NewC n0 w' F'
def RemWPost (ZT : TypeId) (zr : List Value) (w : World) (p : Nat) (F : Nat → Prop) (l : List (Int × Bool)) (R : Rw → Prop) (a b : Int) (e : Ending) (w' : World) : Prop :=
  e = .returned (.tuple #[]) ∧ ∃ F', WldIn ZT zr w' p F' l (fun r => R r ∧ hd r ≠ (a, b)) ∧ Kept F w w' ∧ Moves w F F'
theorem remL_in {rows : List Rw} {i : Nat} (h : i < rows.length) : remL rows i = rmL rows i rowZ := by
  have : inB (i : Int) 0 (rows.length - 1) = true := by simp [inB]; omega
  rw [remL, this, if_pos rfl, Int.toNat_natCast]
theorem rowR_last {rows : List Rw} {i : Nat} (h : i < rows.length - 1) : rowR (rmL rows i rowZ) i = rows.getD (rows.length - 1) rowZ ∧ rowE (rmL rows i rowZ) i = 0 := by
  have h1 : i < (rmL rows i rowZ).length := by rw [rmL_len]; exact h
  obtain ⟨e1, e2⟩ := rowR_in h1
  exact ⟨by rw [e1, rmL_at _ _ _ _ h, if_pos rfl], e2⟩
theorem rowR_end {rows : List Rw} {i : Nat} (h : ¬ i < rows.length - 1) : rowR (rmL rows i rowZ) i = rowZ ∧ rowE (rmL rows i rowZ) i = 5 := by
  refine rowR_out ?_
  rw [rmL_len]
  cases hh : inB (i : Int) 0 ((rows.length - 1 : Nat) - 1)
  · rfl
  · have := inB_t hh; omega

set_option maxHeartbeats 4000000 in
theorem worldRemove_anyN (p : Nat) (F : Nat → Prop) (l : List (Int × Bool)) (R : Rw → Prop) (a b : Int) (n0 : Nat) (w : World) (hnc : NewC n0 w F) (h : WldIn ZT zr w p F l R) (ha : I64r a) (hb : I64r b) (hin : ∃ x, R x ∧ hd x = (a, b)) (hfew : Few R) :
    Calls Tryz.prog 103 #[.pointer (some ⟨p, 0, none⟩), .agg #[.int .i64 a, .int .i64 b]] w (RemWPostN n0 ZT zr w p F l R a b) := by
  have HNC0 := Lib.hid hnc
  clear hnc
  obtain ⟨c, tm, pm, ks, tb, tr, hk, pl, h⟩ := h
  have hm : (a, b) ∈ hk := by obtain ⟨x, hx, e⟩ := hin; rw [← e]; exact (h.laid.is hx).1
  obtain ⟨mp, rfl⟩ : ∃ mp, pm = .map (some mp) := by
    rcases h.maps with ⟨_, _, _, rfl⟩ | ⟨mt, mp, _, e, _⟩
    · simp at hm
    · exact ⟨mp, e⟩
  obtain ⟨hkk, hil, hdx⟩ := h.laid.at_ _ hm
  obtain ⟨k, hkq⟩ : ∃ k, (pl (a, b)).1 = k := ⟨_, rfl⟩
  obtain ⟨i, hiq⟩ : ∃ i, (pl (a, b)).2 = i := ⟨_, rfl⟩
  obtain ⟨q, hqq⟩ : ∃ q, tb k = q := ⟨_, rfl⟩
  rw [hkq] at hkk
  rw [hkq, hiq] at hil hdx
  have HP : Hid (pl (a, b) = (k, i)) := Lib.hid (by rw [← hkq, ← hiq])
  have HQ := Lib.hid hqq
  have HKK := Lib.hid hkk
  have HM := Lib.hid hm
  have HIL := Lib.hid hil
  have HDX := Lib.hid hdx
  have HTOK := Lib.hid (h.laid.tab hkk)
  obtain ⟨hr1, hr2⟩ := rowR_in hil
  have HR1 := Lib.hid hr1
  have HR2 := Lib.hid hr2
  have h0k := (h.laid.key k hkk).1
  have H0K := Lib.hid h0k
  have HAB : Hid (I64r a ∧ I64r b) := Lib.hid ⟨ha, hb⟩
  obtain ⟨rws, hr60, hrin⟩ := hfew
  have HTL : Hid ((tr k).length ≤ 60) := Lib.hid (Nat.le_trans (h.laid.trLen hrin hkk) hr60)
  have HHL : Hid (hk.length ≤ 60) := Lib.hid (Nat.le_trans (h.laid.hkLen h.mapP.1.nodup hrin) hr60)
  have hi60 : i < 60 := Nat.lt_of_lt_of_le hil HTL.out
  have hlt := h.lt
  have hX : Below w.heap.size w (w.alloc (.cells #[.int .i64 a, .int .i64 b] 34)) := nb_alloc (Below.refl _ _) _
  have hhb : (w.alloc (.cells #[.int .i64 a, .int .i64 b] 34)).heap[w.heap.size]? = some (.cells #[.int .i64 a, .int .i64 b] 34) := heap_alloc_new _ _
  have hsz : (w.alloc (.cells #[.int .i64 a, .int .i64 b] 34)).heap.size = w.heap.size + 1 := by simp
  have HW := Lib.hid (h.later hX)
  have HX := Lib.hid hX
  have HLT := Lib.hid hlt
  clear h hX hr60 hrin hil hdx hkk hr1 hr2 h0k hlt hin
  go_enter Tryz.func103, Tryz.ntmps103
  go_wp2_with fail
  generalize (w.alloc (.cells #[.int .i64 a, .int .i64 b] 34)) = X at *
  have c2 := HW.out.cell2
  have hpl := HW.out.plt
  obtain ⟨kh0, kh1⟩ := hCells (a := a) (b := b) hhb
  have hlk : (Instr.lookup 69 (.map (some mp)) (.agg #[.int .i64 a, .int .i64 b]) false).run Tryz.prog X.drew = .ok (.agg #[.pointer (some ⟨q, 0, none⟩), .int .i64 i]) X.drew := by
    have := (HW.out.later (Below.refl _ _).drew).look1i a b ha hb hm
    rw [plV, hkq, hiq, hqq] at this; exact this
  have hlk1 : (Instr.lookup 69 (.map (some mp)) (.agg #[.int .i64 a, .int .i64 b]) false).run Tryz.prog (X.alloc (.cells #[.pointer none, .int .i64 0] 133)).drew = .ok (.agg #[.pointer (some ⟨q, 0, none⟩), .int .i64 i]) (X.alloc (.cells #[.pointer none, .int .i64 0] 133)).drew := by
    have := (HW.out.later (nb_alloc (Below.refl _ _) (.cells #[.pointer none, .int .i64 0] 133)).drew).look1i a b ha hb hm
    rw [plV, hkq, hiq, hqq] at this; exact this
  have hhl : w.heap.size < X.heap.size := by omega
  have HHB := Lib.hid hhb
  clear hhb hm hkq hiq hqq hsz
  go_region
  all_goals
    clear hlk hlk1 kh0 kh1 c2
    have HWV : Hid (WldIs ZT zr (X.alloc (.cells #[.pointer (some ⟨q, 0, none⟩), .int .i64 i] 133)).drew p F c l tm (.map (some mp)) ks tb tr hk pl R) := Lib.hid (HW.out.later (nb_alloc (Below.refl _ _) _).drew)
    have HVX : Hid (Below w.heap.size w (X.alloc (.cells #[.pointer (some ⟨q, 0, none⟩), .int .i64 i] 133)).drew) := Lib.hid (nb_alloc HX.out _).drew
    have HB1 : Hid ((X.alloc (.cells #[.pointer (some ⟨q, 0, none⟩), .int .i64 i] 133)).drew.heap[w.heap.size]? = some (.cells #[.int .i64 a, .int .i64 b] 34)) := Lib.hid ((Below.heap_alloc X _ _ hhl).trans HHB.out)
    have HB2 : Hid ((X.alloc (.cells #[.pointer (some ⟨q, 0, none⟩), .int .i64 i] 133)).drew.heap[X.heap.size]? = some (.cells #[.pointer (some ⟨q, 0, none⟩), .int .i64 i] 133)) := Lib.hid (heap_alloc_new X _)
    have hxs : X.heap.size < (X.alloc (.cells #[.pointer (some ⟨q, 0, none⟩), .int .i64 i] 133)).drew.heap.size := (Array.getElem?_eq_some_iff.1 HB2.out).1
    replace hpl : p < (X.alloc (.cells #[.pointer (some ⟨q, 0, none⟩), .int .i64 i] 133)).drew.heap.size := HWV.out.plt
    clear HW HX HHB
    generalize hV : (X.alloc (.cells #[.pointer (some ⟨q, 0, none⟩), .int .i64 i] 133)).drew = V at *
    clear hV
    have HBOX : Hid (∀ Y, Kept F V Y → Y.heap[w.heap.size]? = some (.cells #[.int .i64 a, .int .i64 b] 34) ∧ Y.heap[X.heap.size]? = some (.cells #[.pointer (some ⟨q, 0, none⟩), .int .i64 i] 133)) := Lib.hid (fun Y hY => ⟨by rw [hY.block _ (by omega) (fun e => by have := HLT.out _ e; omega)]; exact HB1.out, by rw [hY.block _ hxs (fun e => by have := HLT.out _ e; omega)]; exact HB2.out⟩)
    have pv0 : V.cell? ⟨X.heap.size, 0, none⟩ = some (.pointer (some ⟨q, 0, none⟩)) := by rw [cell_of_row _ _ _ _ _ _ HB2.out]; rfl
    have pv1 : V.cell? ⟨X.heap.size, 1, none⟩ = some (.int .i64 i) := by rw [cell_of_row _ _ _ _ _ _ HB2.out]; rfl
    go_wp2_with fail
    refine (tabRemove_anyN q _ k (tr k) i _ 0 n0 _ (fun b (hb : F b ∧ c b = k) => HNC0.out.later HLT.out HVX.out b hb.1) (by rw [← HQ.out]; exact HWV.out.tabs k HKK.out) HTOK.out HR1.out HR2.out).mono ?_
    rintro e w2 ⟨rfl, F2, ht2, hk2, hm2, hc2⟩
    rw [remL_in HIL.out] at ht2
    have hkF2 : Kept F V w2 := hk2.mono (fun b e => .inl e.1)
    obtain ⟨hb1, hb2⟩ := HBOX.out w2 hkF2
    obtain ⟨lh0, lh1⟩ := hCells (a := a) (b := b) hb1
    have c22 := (HWV.out.slots.kept hk2 (fun b hb hb' => by rw [hb.2] at hb'; have := H0K.out; omega)).cell.2
    have hpl2 : p < w2.heap.size := Nat.lt_of_lt_of_le hpl hk2.size
    have hhl2 : w.heap.size < w2.heap.size := (Array.getElem?_eq_some_iff.1 hb1).1
    have hmpc := HWV.out.mapP.2
    have HMP : Hid (MapIs kHand w2.drew mp hk.length hk (plV tb pl)) := Lib.hid ((HWV.out.mapP.1.kept hk2 (fun e => by rw [hmpc.2] at e; have := H0K.out; omega)).kept (Kept.drew (fun _ => False) _) id)
    have HT2 := Lib.hid ht2
    have HK2 := Lib.hid hk2
    have HM2 := Lib.hid hm2
    have HNC : Hid (∀ Y, Kept (fun b => b = mp) w2 Y → NewC n0 Y (fun b => (F b ∧ c b ≠ k) ∨ F2 b)) := Lib.hid (fun Y hY b hb => by
      have hmp := HNC0.out.later HLT.out HVX.out
      have hml : mp < n0 := hmp.mapLt HWV.out.mapP.2.1 HWV.out.mapP.1
      by_cases e : b = mp
      · exact .inl (by rw [e]; exact hml)
      · rcases hb with hb | hb
        · exact (hmp b hb.1).imp id (fun hc => (hc.kept hk2 (fun e2 => hb.2 e2.2)).kept hY e)
        · exact (hc2 b hb).imp id (fun hc => hc.kept hY e))
    clear hc2
    have HKF2 := Lib.hid hkF2
    clear ht2 hk2 hm2 hkF2 hb1 hb2 pv0 pv1 hmpc
    go_wp2_with fail
    go_still_tail 5, (by kernel_rfl)
    change wpList _ _ _ _ _ w2.drew
    clear lh0 lh1 c22
    go_wp2_with (first | (at_delete; refine wpList_del_is (K := kHand) _ rfl _ _ 69 rfl 133 Tryz.underlying69 rfl HMP.out (a, b) HAB.out rfl ?_))
    intro w3 hmap3 hk3
    have hk23 : Kept (fun b => b = mp) w2 w3 := (Kept.drew (fun b => b = mp) w2).trans hk3 (fun _ h => .inl h)
    have hkF3 : Kept F V w3 := HKF2.out.trans hk23 (fun b e => .inl (by rw [e]; exact HWV.out.mapP.2.1))
    obtain ⟨hb1, hb2⟩ := HBOX.out w3 hkF3
    have pv0 : w3.cell? ⟨X.heap.size, 0, none⟩ = some (.pointer (some ⟨q, 0, none⟩)) := by rw [cell_of_row _ _ _ _ _ _ hb2]; rfl
    have pv1 : w3.cell? ⟨X.heap.size, 1, none⟩ = some (.int .i64 i) := by rw [cell_of_row _ _ _ _ _ _ hb2]; rfl
    have hxl3 := (Array.getElem?_eq_some_iff.1 hb2).1
    have hT3 : TableAt w3 q F2 k (rmL (tr k) i rowZ) := HT2.out.kept hk23 (fun b hb e => by
      rcases HM2.out b hb with h1 | h1
      · rw [e, HWV.out.mapP.2.2] at h1; have := H0K.out; omega
      · have := HWV.out.lt b (by rw [e]; exact HWV.out.mapP.2.1); omega)
    have HMAP3 := Lib.hid hmap3.tight
    have HK23 := Lib.hid hk23
    have HKF3 := Lib.hid hkF3
    have HT3 := Lib.hid hT3
    have hpl3 : p < w3.heap.size := Nat.lt_of_lt_of_le hpl hkF3.size
    have c23 := (((HWV.out.slots.kept HK2.out (fun b hb hb' => by rw [hb.2] at hb'; have := H0K.out; omega)).kept hk23 (fun b hb e => by rw [e, HWV.out.mapP.2.2] at hb; exact absurd hb.2 (by decide))).cell.2)
    clear hmap3 hk3 hk23 hkF3 hT3 hb1 hb2 HMP
    by_cases hlast : i < (tr k).length - 1
    · as_aux_lemma =>
      obtain ⟨hl1, hl2⟩ := rowR_last hlast
      obtain ⟨rl, hrl⟩ : ∃ rl, (tr k).getD ((tr k).length - 1) rowZ = rl := ⟨_, rfl⟩
      rw [hrl] at hl1
      go_wp2_with fail
      refine (tabRow_any q F2 k _ i rl 0 _ HT3.out (HTOK.out.rm i) hl1 hl2).mono ?_
      rintro e w4 ⟨rfl, hb4⟩
      have HB4 := Lib.hid hb4
      have HRL := Lib.hid hrl
      have HLAST := Lib.hid hlast
      clear hb4 hl1 hl2 hrl hlast pv0 pv1
      have hcells : ∀ Y, Kept F V Y → Y.cell? ⟨X.heap.size, 0, none⟩ = some (.pointer (some ⟨q, 0, none⟩)) ∧ Y.cell? ⟨X.heap.size, 1, none⟩ = some (.int .i64 i) ∧ X.heap.size < Y.heap.size := fun Y hY => by
        obtain ⟨_, hb2⟩ := HBOX.out Y hY
        exact ⟨by rw [cell_of_row _ _ _ _ _ _ hb2]; rfl, by rw [cell_of_row _ _ _ _ _ _ hb2]; rfl, (Array.getElem?_eq_some_iff.1 hb2).1⟩
      obtain ⟨pv0, pv1, hxl4⟩ := hcells w4 (HKF3.out.trans (Kept.ofBelow (F := F) HB4.out) (fun _ h => .inl h))
      have c24 : w4.cell? ⟨p, 2, none⟩ = some (.map (some mp)) := by rw [HB4.out.cell (p := ⟨p, 2, none⟩) hpl3]; exact c23
      have hpl4 : p < w4.heap.size := Nat.lt_of_lt_of_le hpl3 HB4.out.size
      clear hcells c23 hpl3 hxl3
      go_wp2_with fail
      have hy0 : (w4.alloc (.cells #[.int .i64 rl.s, .int .i64 rl.g, .int .i64 rl.m, .int .i64 (rl.f 0), .int .i64 (rl.f 1), .int .i64 (rl.f 2), .int .i64 (rl.f 3), .int .i64 (rl.f 4), .int .i64 (rl.f 5), .int .i64 (rl.f 6), .int .i64 (rl.f 7)] 39)).cell? ⟨w4.heap.size, 0, none⟩ = some (.int .i64 rl.s) := by rw [cell_of_row _ _ _ _ _ _ (heap_alloc_new w4 _)]; rfl
      have hy1 : (w4.alloc (.cells #[.int .i64 rl.s, .int .i64 rl.g, .int .i64 rl.m, .int .i64 (rl.f 0), .int .i64 (rl.f 1), .int .i64 (rl.f 2), .int .i64 (rl.f 3), .int .i64 (rl.f 4), .int .i64 (rl.f 5), .int .i64 (rl.f 6), .int .i64 (rl.f 7)] 39)).cell? ⟨w4.heap.size, 1, none⟩ = some (.int .i64 rl.g) := by rw [cell_of_row _ _ _ _ _ _ (heap_alloc_new w4 _)]; rfl
      have hyl : w4.heap.size < (w4.alloc (.cells #[.int .i64 rl.s, .int .i64 rl.g, .int .i64 rl.m, .int .i64 (rl.f 0), .int .i64 (rl.f 1), .int .i64 (rl.f 2), .int .i64 (rl.f 3), .int .i64 (rl.f 4), .int .i64 (rl.f 5), .int .i64 (rl.f 6), .int .i64 (rl.f 7)] 39)).heap.size := by simp
      have HBY : Hid (Below w4.heap.size w4 (w4.alloc (.cells #[.int .i64 rl.s, .int .i64 rl.g, .int .i64 rl.m, .int .i64 (rl.f 0), .int .i64 (rl.f 1), .int .i64 (rl.f 2), .int .i64 (rl.f 3), .int .i64 (rl.f 4), .int .i64 (rl.f 5), .int .i64 (rl.f 6), .int .i64 (rl.f 7)] 39))) := Lib.hid (nb_alloc (Below.refl _ _) _)
      have hcells : ∀ Y, Below w4.heap.size w4 Y → Y.cell? ⟨X.heap.size, 0, none⟩ = some (.pointer (some ⟨q, 0, none⟩)) ∧ Y.cell? ⟨X.heap.size, 1, none⟩ = some (.int .i64 i) ∧ Y.cell? ⟨p, 2, none⟩ = some (.map (some mp)) ∧ X.heap.size < Y.heap.size ∧ p < Y.heap.size := fun Y hY => ⟨by rw [hY.cell (p := ⟨X.heap.size, 0, none⟩) hxl4]; exact pv0, by rw [hY.cell (p := ⟨X.heap.size, 1, none⟩) hxl4]; exact pv1, by rw [hY.cell (p := ⟨p, 2, none⟩) hpl4]; exact c24, Nat.lt_of_lt_of_le hxl4 hY.size, Nat.lt_of_lt_of_le hpl4 hY.size⟩
      obtain ⟨pw0, pw1, c25, hxl5, hpl5⟩ := hcells _ HBY.out
      clear hcells pv0 pv1 c24
      generalize (w4.alloc (.cells #[.int .i64 rl.s, .int .i64 rl.g, .int .i64 rl.m, .int .i64 (rl.f 0), .int .i64 (rl.f 1), .int .i64 (rl.f 2), .int .i64 (rl.f 3), .int .i64 (rl.f 4), .int .i64 (rl.f 5), .int .i64 (rl.f 6), .int .i64 (rl.f 7)] 39)) = Y at *
      go_still_tail 7, (by kernel_rfl)
      change wpList _ _ _ _ _ Y.drew
      clear hy0 hy1 pw0 pw1 c25
      have hrlm : hd rl ∈ hk ∧ hd rl ≠ (a, b) := by
        obtain ⟨h1, h2⟩ := HWV.out.laid.back k HKK.out ((tr k).length - 1) (by have := HIL.out; omega)
        rw [HRL.out] at h1 h2
        refine ⟨h1, fun e => ?_⟩
        rw [e, HP.out] at h2
        have := congrArg Prod.snd h2
        have h3 := HLAST.out
        simp at this
        omega
      have HRLM := Lib.hid hrlm
      have HOKL : Hid (kHand.ok (rl.s, rl.g)) := Lib.hid (HWV.out.mapP.1.okAt hrlm.1)
      have HMAP5 : Hid (MapIs kHand Y.drew mp (hk.filter (fun y => !decide (y = (a, b)))).length (hk.filter (fun y => !decide (y = (a, b)))) (plV tb pl)) := Lib.hid (((HMAP3.out.later HB4.out).later HBY.out).kept (Kept.drew (fun _ => False) _) id)
      have HFL : Hid ((hk.filter (fun y => !decide (y = (a, b)))).length < maxLen) := Lib.hid (by have := List.length_filter_le (fun y => !decide (y = (a, b))) hk; have := HHL.out; unfold maxLen; omega)
      have HINF : Hid ((rl.s, rl.g) ∈ hk.filter (fun y => !decide (y = (a, b)))) := Lib.hid (List.mem_filter.2 ⟨HRLM.out.1, by rw [Bool.not_eq_true', decide_eq_false_iff_not]; exact HRLM.out.2⟩)
      clear hrlm
      go_wp2_with (first | (at_mapUpdate; refine wpList_put_in (K := kHand) _ rfl _ _ _ 69 rfl 133 Tryz.underlying69 rfl HMAP5.out HFL.out (rl.s, rl.g) HOKL.out (.agg #[.pointer (some ⟨q, 0, none⟩), .int .i64 i]) rfl rfl HINF.out ?_))
      intro w6 hmap6 hk6
      have HEND : Hid (RemWPostN n0 ZT zr w p F l R a b (.returned (.tuple #[])) w6) := Lib.hid (by
        have hk26 : Kept (fun b => b = mp) w2 w6 := (HK23.out.trans (Kept.ofBelow (F := fun b => b = mp) HB4.out) (fun _ h => .inl h)).trans (((Kept.ofBelow (F := fun b => b = mp) HBY.out).trans (Kept.drew (fun b => b = mp) _) (fun _ h => .inl h)).trans hk6 (fun _ h => .inl h)) (fun _ h => .inl h)
        obtain ⟨c6, hw6, hkk6⟩ := HWV.out.delRowN (pl' := fun y => if y = hd rl then (k, i) else pl y) HM.out HP.out (fun y _ => by simp only [HRL.out, HLAST.out, true_and]) (by rw [HQ.out]; exact HT2.out) HK2.out HM2.out hk26 (hmap6.tight.congr (fun y _ => by
          by_cases e : y = (rl.s, rl.g)
          · rw [if_pos e]; simp [plV, hd, e, ← HQ.out]
          · rw [if_neg e]; simp [plV, hd, e]))
        have hXs := HVX.out.size
        exact ⟨rfl, _, ⟨c6, _, _, _, _, _, _, _, hw6⟩, (Kept.ofBelow HVX.out).trans hkk6 (fun _ h => .inl h), fun b hb => hb.elim (fun e => .inl e.1) (fun e => (HM2.out b e).imp And.left (fun e => Nat.le_trans hXs e)), HNC.out w6 hk26⟩)
      clear hmap6 hk6
      go_wp2
      go_end0
      exact HEND.out
    · as_aux_lemma =>
      obtain ⟨hl1, hl2⟩ := rowR_end hlast
      go_wp2_with fail
      refine (tabRow_any q F2 k _ i rowZ 5 _ HT3.out (HTOK.out.rm i) hl1 hl2).mono ?_
      rintro e w4 ⟨rfl, hb4⟩
      have HEND : Hid (∀ w6, Below w4.heap.size w4 w6 → RemWPostN n0 ZT zr w p F l R a b (.returned (.tuple #[])) w6) := Lib.hid (fun w6 h6 => by
        obtain ⟨c6, hw6, hkk6⟩ := HWV.out.delRowN (pl' := pl) HM.out HP.out (fun y _ => by rw [if_neg (fun e => hlast e.1)]) (by rw [HQ.out]; exact HT2.out) HK2.out HM2.out HK23.out HMAP3.out
        have hXs := HVX.out.size
        have hb36 : Below w3.heap.size w3 w6 := nb_trans hb4 h6
        exact ⟨rfl, _, ⟨c6, _, _, _, _, _, _, _, hw6.later hb36⟩, ((Kept.ofBelow HVX.out).trans hkk6 (fun _ h => .inl h)).trans (Kept.ofBelow (F := F) hb36) (fun _ h => .inl h), fun b hb => hb.elim (fun e => .inl e.1) (fun e => (HM2.out b e).imp And.left (fun e => Nat.le_trans hXs e)), HNC.out w6 (HK23.out.trans (Kept.ofBelow (F := fun b => b = mp) hb36) (fun _ h => .inl h))⟩)
      clear hb4 hl1 hl2 hlast pv0 pv1
      go_wp2
      go_end0
      exact HEND.out _ (nb_alloc (Below.refl _ _) _)
theorem worldRemove_any (p : Nat) (F : Nat → Prop) (l : List (Int × Bool)) (R : Rw → Prop) (a b : Int) (w : World) (h : WldIn ZT zr w p F l R) (ha : I64r a) (hb : I64r b) (hin : ∃ x, R x ∧ hd x = (a, b)) (hfew : Few R) :
    Calls Tryz.prog 103 #[.pointer (some ⟨p, 0, none⟩), .agg #[.int .i64 a, .int .i64 b]] w (RemWPost ZT zr w p F l R a b) :=
  (worldRemove_anyN p F l R a b w.heap.size w (NewC.lt h.lt) h ha hb hin hfew).mono fun _ _ ⟨h1, F', h2, h3, h4, _⟩ => ⟨h1, F', h2, h3, h4⟩
end Go.Proofs.YtcmpaohefihijabGreatDoor

/- The contract of move of package world. -/
namespace Go.Proofs.YtcmpaohefihijabGreatDoor
set_option maxRecDepth 8000
open Go.RowKit
variable {ZT : TypeId} {zr : List Value}

def MoveWPost (ZT : TypeId) (zr : List Value) (w : World) (p : Nat) (F : Nat → Prop) (l : List (Int × Bool)) (R : Rw → Prop) (r : Rw) (e : Ending) (w' : World) : Prop :=
  e = .returned (.tuple #[]) ∧ ∃ F', WldIn ZT zr w' p F' l (fun x => x = r ∨ (R x ∧ hd x ≠ hd r)) ∧ Kept F w w' ∧ Moves w F F'

set_option maxHeartbeats 2000000 in
theorem worldMove_any (p : Nat) (F : Nat → Prop) (l : List (Int × Bool)) (R : Rw → Prop) (r : Rw) (w : World) (h : WldIn ZT zr w p F l R) (hin : ∃ x, R x ∧ hd x = hd r) (hbe : bErr r.m [r.f 0, r.f 1, r.f 2, r.f 3, r.f 4, r.f 5, r.f 6, r.f 7] = 0) (hok : I64r r.s ∧ I64r r.g) (hfew : Few R) :
    Calls Tryz.prog 63 #[.pointer (some ⟨p, 0, none⟩), .agg #[.int .i64 r.s, .int .i64 r.g], .agg #[.int .i64 r.m, .int .i64 (r.f 0), .int .i64 (r.f 1), .int .i64 (r.f 2), .int .i64 (r.f 3), .int .i64 (r.f 4), .int .i64 (r.f 5), .int .i64 (r.f 6), .int .i64 (r.f 7)]] w (MoveWPost ZT zr w p F l R r) := by
  have hX : Below w.heap.size w ((w.alloc (.cells #[.int .i64 r.s, .int .i64 r.g] 34)).alloc (.cells #[.int .i64 r.m, .int .i64 (r.f 0), .int .i64 (r.f 1), .int .i64 (r.f 2), .int .i64 (r.f 3), .int .i64 (r.f 4), .int .i64 (r.f 5), .int .i64 (r.f 6), .int .i64 (r.f 7)] 37)) := nb_alloc (nb_alloc (Below.refl _ _) _) _
  have hbox : Boxes w.heap.size ((w.alloc (.cells #[.int .i64 r.s, .int .i64 r.g] 34)).alloc (.cells #[.int .i64 r.m, .int .i64 (r.f 0), .int .i64 (r.f 1), .int .i64 (r.f 2), .int .i64 (r.f 3), .int .i64 (r.f 4), .int .i64 (r.f 5), .int .i64 (r.f 6), .int .i64 (r.f 7)] 37)) r := ⟨heap_alloc2_old _ _ _, heap_alloc2_new _ _ _⟩
  have HLT := Lib.hid h.lt
  have HW := Lib.hid (h.later hX)
  have HX := Lib.hid hX
  have HBOX := Lib.hid hbox
  have HIN := Lib.hid hin
  have HBE := Lib.hid hbe
  have HOK : Hid (I64r r.s ∧ I64r r.g) := Lib.hid hok
  have HFEW := Lib.hid hfew
  clear h hX hbox hin hbe hok hfew
  go_enter Tryz.func63, Tryz.ntmps63
  go_wp2_with fail
  generalize ((w.alloc (.cells #[.int .i64 r.s, .int .i64 r.g] 34)).alloc (.cells #[.int .i64 r.m, .int .i64 (r.f 0), .int .i64 (r.f 1), .int .i64 (r.f 2), .int .i64 (r.f 3), .int .i64 (r.f 4), .int .i64 (r.f 5), .int .i64 (r.f 6), .int .i64 (r.f 7)] 37)) = X at *
  refine (worldRemove_any p F l R r.s r.g _ HW.out HOK.out.1 HOK.out.2 HIN.out HFEW.out).mono ?_
  rintro e w2 ⟨rfl, F2, h2, hk2, hm2⟩
  have hB2 : Boxes w.heap.size w2 r := HBOX.out.kept hk2 (fun e => by have := HLT.out _ e; omega) (fun e => by have := HLT.out _ e; omega)
  obtain ⟨kh0, kh1⟩ := hCells (a := r.s) (b := r.g) hB2.hb
  obtain ⟨kb0, kb1, kb2, kb3, kb4, kb5, kb6, kb7, kb8⟩ := bCells (m := r.m) (f := r.f) hB2.bb
  have hBl := hB2.lt
  have H2 := Lib.hid h2
  have HK2 := Lib.hid hk2
  have HM2 := Lib.hid hm2
  clear h2 hk2 hm2 hB2
  go_wp2_with fail
  refine (worldAdd_any p F2 l _ r _ H2.out HBE.out (fun x hx => hx.2) HOK.out (by obtain ⟨rows, h1, h2⟩ := HFEW.out; exact ⟨rows, h1, fun x hx => h2 x hx.1⟩)).mono ?_
  rintro e w3 ⟨rfl, F3, h3, hk3, hm3⟩
  have HEND : Hid (MoveWPost ZT zr w p F l R r (.returned (.tuple #[])) w3) := Lib.hid (by
    have hXs := HX.out.size
    have hkk : Kept F X w3 := HK2.out.trans hk3 HM2.out
    have hmm : Moves X F F3 := HM2.out.trans hm3 HK2.out.size
    exact ⟨rfl, F3, h3, (Kept.ofBelow HX.out).trans hkk (fun _ h => .inl h), fun b hb => (hmm b hb).imp id (fun h => by omega)⟩)
  clear h3 hk3 hm3 kh0 kh1 kb0 kb1 kb2 kb3 kb4 kb5 kb6 kb7 kb8
  go_wp2
  go_end0
  exact HEND.out
end Go.Proofs.YtcmpaohefihijabGreatDoor

/- The contract of find of package world; sets of one component. -/
namespace Go.Proofs.YtcmpaohefihijabGreatDoor
set_option maxRecDepth 8000
open Go.RowKit
variable {ZT : TypeId} {zr : List Value}

/-- One bit of a set: seen, put in, taken out. -/
theorem bit_and (m : Int) (k : Nat) (h0 : 0 ≤ m) (h1 : m ≤ 255) (hk : k < 8) : bits .and .i64 m (2 ^ k) = if tb m k then 2 ^ k else 0 := by
  have key : ∀ (x : Fin 256) (y : Fin 8), bits .and .i64 (x.val : Int) (2 ^ y.val) = if tb (x.val : Int) y.val then 2 ^ y.val else 0 := by decide +kernel
  obtain ⟨n, rfl⟩ := Int.eq_ofNat_of_zero_le h0
  exact key ⟨n, by omega⟩ ⟨k, hk⟩
theorem bit_or (m : Int) (k : Nat) (h0 : 0 ≤ m) (h1 : m ≤ 255) (hk : k < 8) (ht : tb m k = false) : bits .or .i64 m (2 ^ k) = m + 2 ^ k := by
  have key : ∀ (x : Fin 256) (y : Fin 8), tb (x.val : Int) y.val = false → bits .or .i64 (x.val : Int) (2 ^ y.val) = (x.val : Int) + 2 ^ y.val := by decide +kernel
  obtain ⟨n, rfl⟩ := Int.eq_ofNat_of_zero_le h0
  exact key ⟨n, by omega⟩ ⟨k, hk⟩ ht
theorem bit_andNot (m : Int) (k : Nat) (h0 : 0 ≤ m) (h1 : m ≤ 255) (hk : k < 8) (ht : tb m k = true) : bits .andNot .i64 m (2 ^ k) = m - 2 ^ k := by
  have key : ∀ (x : Fin 256) (y : Fin 8), tb (x.val : Int) y.val = true → bits .andNot .i64 (x.val : Int) (2 ^ y.val) = (x.val : Int) - 2 ^ y.val := by decide +kernel
  obtain ⟨n, rfl⟩ := Int.eq_ofNat_of_zero_le h0
  exact key ⟨n, by omega⟩ ⟨k, hk⟩ ht
theorem bit_zero_or (k : Nat) (hk : k < 8) : bits .or .i64 0 (2 ^ k) = 2 ^ k := by
  have := bit_or 0 k (by decide) (by decide) hk (tb_zero k)
  rw [this]; omega
theorem ofR_one (k : Int) : ofR [k] = if inB k 0 7 then (2 ^ k.toNat, 0) else (0, 1) := by
  unfold ofR
  rw [inB_isK]
  cases h : isK k
  · simp [h]
  · have hk := inB_t ((inB_isK k).trans h)
    simp [h, setOf]
    exact bit_zero_or _ (by omega)
theorem Ints.one (w : World) (x : Int) (t : TypeId) : Ints (w.alloc (.cells #[.int .i64 x] t)) (.slice (some ⟨w.heap.size, 0, none⟩) 1 1) [x] := by
  refine ⟨_, 1, rfl, by simp, by simp [maxLen], fun k hk => ⟨_, _, rfl, by simp, ?_⟩⟩
  simp at hk
  subst hk
  simp

def findE (rows : List Rw) (a b k : Int) : Int := if hasH rows a b then (if inB k 0 7 then 0 else 1) else 7
def findR (rows : List Rw) (a b k : Int) : Rw := if findE rows a b k = 0 then getR rows a b else rowZ
def findS (rows : List Rw) (a b k : Int) : Int := if findE rows a b k = 0 then 2 ^ k.toNat else 0
def FindPost (w : World) (rows : List Rw) (a b k : Int) (e : Ending) (w' : World) : Prop :=
  e = .returned (.tuple #[.agg #[.int .i64 (findR rows a b k).m, .int .i64 ((findR rows a b k).f 0), .int .i64 ((findR rows a b k).f 1), .int .i64 ((findR rows a b k).f 2), .int .i64 ((findR rows a b k).f 3), .int .i64 ((findR rows a b k).f 4), .int .i64 ((findR rows a b k).f 5), .int .i64 ((findR rows a b k).f 6), .int .i64 ((findR rows a b k).f 7)], .int .i64 (findS rows a b k), .int .i64 (findE rows a b k)]) ∧ Below w.heap.size w w'

set_option maxHeartbeats 4000000 in
theorem worldFind_any (p : Nat) (F : Nat → Prop) (l : List (Int × Bool)) (rows : List Rw) (a b k : Int) (w : World) (h : WldIn ZT zr w p F l (· ∈ rows)) (ha : I64r a) (hb : I64r b) :
    Calls Tryz.prog 61 #[.pointer (some ⟨p, 0, none⟩), .agg #[.int .i64 a, .int .i64 b], .int .i64 k] w (FindPost w rows a b k) := by
  cases hh : hasH rows a b
  · have HF : Hid (findE rows a b k = 7 ∧ findS rows a b k = 0 ∧ findR rows a b k = rowZ) := Lib.hid (by
      have h7 : findE rows a b k = 7 := by rw [findE, hh]; rfl
      exact ⟨h7, by rw [findS, h7]; rfl, by rw [findR, h7]; rfl⟩)
    have hX : Below w.heap.size w ((w.alloc (.cells #[.int .i64 a, .int .i64 b] 34)).alloc (.cells #[.int .i64 0, .int .i64 0, .int .i64 0, .int .i64 0, .int .i64 0, .int .i64 0, .int .i64 0, .int .i64 0, .int .i64 0] 37)) := nb_alloc (nb_alloc (Below.refl _ _) _) _
    have hb1 : ((w.alloc (.cells #[.int .i64 a, .int .i64 b] 34)).alloc (.cells #[.int .i64 0, .int .i64 0, .int .i64 0, .int .i64 0, .int .i64 0, .int .i64 0, .int .i64 0, .int .i64 0, .int .i64 0] 37)).heap[w.heap.size + 1]? = some (.cells #[.int .i64 0, .int .i64 0, .int .i64 0, .int .i64 0, .int .i64 0, .int .i64 0, .int .i64 0, .int .i64 0, .int .i64 0] 37) := heap_alloc2_new _ _ _
    have hbl := (Array.getElem?_eq_some_iff.1 hb1).1
    have HW := Lib.hid (h.later hX)
    have HX := Lib.hid hX
    have HB1 := Lib.hid hb1
    clear h hX hb1
    go_enter Tryz.func61, Tryz.ntmps61
    go_wp2_with fail
    generalize ((w.alloc (.cells #[.int .i64 a, .int .i64 b] 34)).alloc (.cells #[.int .i64 0, .int .i64 0, .int .i64 0, .int .i64 0, .int .i64 0, .int .i64 0, .int .i64 0, .int .i64 0, .int .i64 0] 37)) = X at *
    refine (worldGet_no p F l rows a b _ HW.out ha hb hh).mono ?_
    rintro e w1 ⟨rfl, hb1⟩
    have hq1 : w1.heap[w.heap.size + 1]? = some (.cells #[.int .i64 0, .int .i64 0, .int .i64 0, .int .i64 0, .int .i64 0, .int .i64 0, .int .i64 0, .int .i64 0, .int .i64 0] 37) := by rw [hb1.block _ hbl]; exact HB1.out
    obtain ⟨kz0, kz1, kz2, kz3, kz4, kz5, kz6, kz7, kz8⟩ := bCells0 hq1
    have fz : ∀ j, w1.frozen? ⟨w.heap.size + 1, j, none⟩ = false := fun j => frozen_of_row _ _ _ _ _ hq1
    have hl1 := (Array.getElem?_eq_some_iff.1 hq1).1
    have hl2 : w.heap.size + 1 < w1.heap.size + 1 := by omega
    have HB := Lib.hid (nb_trans HX.out hb1)
    clear hb1 hq1 hbl
    clear hh
    go_wp2
    refine bodyPost_ret (v := .tuple #[.agg #[.int .i64 rowZ.m, .int .i64 (rowZ.f 0), .int .i64 (rowZ.f 1), .int .i64 (rowZ.f 2), .int .i64 (rowZ.f 3), .int .i64 (rowZ.f 4), .int .i64 (rowZ.f 5), .int .i64 (rowZ.f 6), .int .i64 (rowZ.f 7)], .int .i64 0, .int .i64 7]) (by simp [results, Tryz.results61, go_sem, rowZ, hl1, kz0, kz1, kz2, kz3, kz4, kz5, kz6, kz7, kz8]) rfl ⟨by rw [HF.out.1, HF.out.2.1, HF.out.2.2], ?_⟩
    refine nb_alloc ?_ _
    iterate 9 (refine nb_set ?_ _ _ _ (by omega))
    exact HB.out
  · obtain ⟨r, hr⟩ : ∃ r, rows.getD (atN rows a b) rowZ = r := ⟨_, rfl⟩
    have HR : Hid (getR rows a b = r) := Lib.hid ((getE_yes hh).2.trans hr)
    have HRG := Lib.hid hr
    clear hr
    have hX : Below w.heap.size w ((w.alloc (.cells #[.int .i64 a, .int .i64 b] 34)).alloc (.cells #[.int .i64 0, .int .i64 0, .int .i64 0, .int .i64 0, .int .i64 0, .int .i64 0, .int .i64 0, .int .i64 0, .int .i64 0] 37)) := nb_alloc (nb_alloc (Below.refl _ _) _) _
    have hb1 : ((w.alloc (.cells #[.int .i64 a, .int .i64 b] 34)).alloc (.cells #[.int .i64 0, .int .i64 0, .int .i64 0, .int .i64 0, .int .i64 0, .int .i64 0, .int .i64 0, .int .i64 0, .int .i64 0] 37)).heap[w.heap.size + 1]? = some (.cells #[.int .i64 0, .int .i64 0, .int .i64 0, .int .i64 0, .int .i64 0, .int .i64 0, .int .i64 0, .int .i64 0, .int .i64 0] 37) := heap_alloc2_new _ _ _
    have hbl := (Array.getElem?_eq_some_iff.1 hb1).1
    have HW := Lib.hid (h.later hX)
    have HX := Lib.hid hX
    have HB1 := Lib.hid hb1
    clear h hX hb1
    go_enter Tryz.func61, Tryz.ntmps61
    go_wp2_with fail
    generalize ((w.alloc (.cells #[.int .i64 a, .int .i64 b] 34)).alloc (.cells #[.int .i64 0, .int .i64 0, .int .i64 0, .int .i64 0, .int .i64 0, .int .i64 0, .int .i64 0, .int .i64 0, .int .i64 0] 37)) = X at *
    refine (worldGet_yes p F l rows a b r _ HW.out ha hb hh HRG.out).mono ?_
    rintro e w1 ⟨rfl, hb1⟩
    have hq1 : w1.heap[w.heap.size + 1]? = some (.cells #[.int .i64 0, .int .i64 0, .int .i64 0, .int .i64 0, .int .i64 0, .int .i64 0, .int .i64 0, .int .i64 0, .int .i64 0] 37) := by rw [hb1.block _ hbl]; exact HB1.out
    obtain ⟨kz0, kz1, kz2, kz3, kz4, kz5, kz6, kz7, kz8⟩ := bCells0 hq1
    have fz : ∀ j, w1.frozen? ⟨w.heap.size + 1, j, none⟩ = false := fun j => frozen_of_row _ _ _ _ _ hq1
    have hl1 := (Array.getElem?_eq_some_iff.1 hq1).1
    have hl2 : w.heap.size + 1 < w1.heap.size + 1 := by omega
    have HB := Lib.hid (nb_trans HX.out hb1)
    clear hb1 hq1 hbl
    have HOF := Lib.hid (ofR_one k)
    have HI1 : Hid (Ints ((w1.alloc (.cells #[.int .i64 r.m, .int .i64 (r.f 0), .int .i64 (r.f 1), .int .i64 (r.f 2), .int .i64 (r.f 3), .int .i64 (r.f 4), .int .i64 (r.f 5), .int .i64 (r.f 6), .int .i64 (r.f 7)] 37)).alloc (.cells #[.int .i64 k] 3)) (.slice (some ⟨(w1.alloc (.cells #[.int .i64 r.m, .int .i64 (r.f 0), .int .i64 (r.f 1), .int .i64 (r.f 2), .int .i64 (r.f 3), .int .i64 (r.f 4), .int .i64 (r.f 5), .int .i64 (r.f 6), .int .i64 (r.f 7)] 37)).heap.size, 0, none⟩) 1 1) [k]) := Lib.hid (Ints.one _ _ _)
    rw [show (w1.alloc (.cells #[.int .i64 r.m, .int .i64 (r.f 0), .int .i64 (r.f 1), .int .i64 (r.f 2), .int .i64 (r.f 3), .int .i64 (r.f 4), .int .i64 (r.f 5), .int .i64 (r.f 6), .int .i64 (r.f 7)] 37)).heap.size = w1.heap.size + 1 by simp] at HI1
    go_wp2_with fail
    refine (of_any _ [k] _ HI1.out).mono ?_
    rintro e w2 ⟨rfl, rfl⟩
    rw [HOF.out]
    cases hk : inB k 0 7
    · have HF : Hid (findE rows a b k = 1 ∧ findS rows a b k = 0 ∧ findR rows a b k = rowZ) := Lib.hid (by
        have h7 : findE rows a b k = 1 := by rw [findE, hh, hk]; rfl
        exact ⟨h7, by rw [findS, h7]; rfl, by rw [findR, h7]; rfl⟩)
      rw [if_neg (by simp)]
      clear hh hk
      go_wp2
      refine bodyPost_ret (v := .tuple #[.agg #[.int .i64 rowZ.m, .int .i64 (rowZ.f 0), .int .i64 (rowZ.f 1), .int .i64 (rowZ.f 2), .int .i64 (rowZ.f 3), .int .i64 (rowZ.f 4), .int .i64 (rowZ.f 5), .int .i64 (rowZ.f 6), .int .i64 (rowZ.f 7)], .int .i64 0, .int .i64 1]) (by simp [results, Tryz.results61, go_sem, rowZ, hl1, hl2, kz0, kz1, kz2, kz3, kz4, kz5, kz6, kz7, kz8]) rfl ⟨by rw [HF.out.1, HF.out.2.1, HF.out.2.2], ?_⟩
      refine nb_alloc (nb_alloc ?_ _) _
      iterate 9 (refine nb_set ?_ _ _ _ (by omega))
      exact HB.out
    · have HF : Hid (findE rows a b k = 0 ∧ findS rows a b k = 2 ^ k.toNat ∧ findR rows a b k = r) := Lib.hid (by
        have h7 : findE rows a b k = 0 := by rw [findE, hh, hk]; rfl
        exact ⟨h7, by rw [findS, h7]; rfl, by rw [findR, h7]; exact HR.out⟩)
      rw [if_pos rfl]
      obtain ⟨s, hs⟩ : ∃ s : Int, 2 ^ k.toNat = s := ⟨_, rfl⟩
      rw [hs] at HF ⊢
      clear hh hk hs
      go_wp2
      refine bodyPost_ret (v := .tuple #[.agg #[.int .i64 r.m, .int .i64 (r.f 0), .int .i64 (r.f 1), .int .i64 (r.f 2), .int .i64 (r.f 3), .int .i64 (r.f 4), .int .i64 (r.f 5), .int .i64 (r.f 6), .int .i64 (r.f 7)], .int .i64 s, .int .i64 0]) (by simp [results, Tryz.results61, go_sem, hl1, hl2, kz0, kz1, kz2, kz3, kz4, kz5, kz6, kz7, kz8]) rfl ⟨by rw [HF.out.1, HF.out.2.1, HF.out.2.2], ?_⟩
      refine nb_alloc (nb_alloc ?_ _) _
      iterate 9 (refine nb_set ?_ _ _ _ (by omega))
      exact HB.out
end Go.Proofs.YtcmpaohefihijabGreatDoor

/- The contract of Kill of package world. -/
namespace Go.Proofs.YtcmpaohefihijabGreatDoor
set_option maxRecDepth 8000
open Go.RowKit
variable {ZT : TypeId} {zr : List Value}

/-- as KillPost, and from n0 on only cells -/
def KillPostN (n0 : Nat) (ZT : TypeId) (zr : List Value) (w : World) (p : Nat) (F : Nat → Prop) (l : List (Int × Bool)) (rows : List Rw) (a b : Int) (e : Ending) (w' : World) : Prop :=
  e = .returned (.int .i64 (killE rows a b)) ∧ ∃ F', WldIn ZT zr w' p F' (freeL l a b) (· ∈ killR rows a b) ∧ Kept F w w' ∧ Moves w F F' ∧ NewC n0 w' F'
def KillPost (ZT : TypeId) (zr : List Value) (w : World) (p : Nat) (F : Nat → Prop) (l : List (Int × Bool)) (rows : List Rw) (a b : Int) (e : Ending) (w' : World) : Prop :=
  e = .returned (.int .i64 (killE rows a b)) ∧ ∃ F', WldIn ZT zr w' p F' (freeL l a b) (· ∈ killR rows a b) ∧ Kept F w w' ∧ Moves w F F'
theorem mem_of_hasH {rows : List Rw} {a b : Int} (h : hasH rows a b = true) : ∃ x, x ∈ rows ∧ hd x = (a, b) := by
  obtain ⟨r, hr, e1, e2⟩ := hasH_iff.1 h
  exact ⟨r, hr, by rw [hd, e1, e2]⟩
theorem not_mem_of_hasH {rows : List Rw} {a b : Int} (h : hasH rows a b = false) : ∀ x ∈ rows, hd x ≠ (a, b) := fun x hx e => by
  simp only [hd, Prod.mk.injEq] at e
  have := hasH_iff.2 ⟨x, hx, e⟩
  rw [h] at this; cases this

set_option maxHeartbeats 4000000 in
theorem worldKill_anyN (p : Nat) (F : Nat → Prop) (l : List (Int × Bool)) (rows : List Rw) (a b : Int) (n0 : Nat) (w : World) (hnc : NewC n0 w F) (h : WldIn ZT zr w p F l (· ∈ rows)) (ok : WOk l rows) (ha : I64r a) (hb : I64r b) :
    Calls Tryz.prog 97 #[.pointer (some ⟨p, 0, none⟩), .agg #[.int .i64 a, .int .i64 b]] w (KillPostN n0 ZT zr w p F l rows a b) := by
  have HNC0 := Lib.hid hnc
  clear hnc
  have H0 := Lib.hid h
  have HOK := Lib.hid ok
  have HAB : Hid (I64r a ∧ I64r b) := Lib.hid ⟨ha, hb⟩
  have HLT := Lib.hid h.lt
  obtain ⟨c, tm, pm, ks, tb, tr, hk, pl, h⟩ := h
  have hX : Below w.heap.size w (w.alloc (.cells #[.int .i64 a, .int .i64 b] 34)) := nb_alloc (Below.refl _ _) _
  have hhb : (w.alloc (.cells #[.int .i64 a, .int .i64 b] 34)).heap[w.heap.size]? = some (.cells #[.int .i64 a, .int .i64 b] 34) := heap_alloc_new _ _
  have hsz : (w.alloc (.cells #[.int .i64 a, .int .i64 b] 34)).heap.size = w.heap.size + 1 := by simp
  have HW := Lib.hid (h.later hX)
  have HWA := Lib.hid (H0.out.later hX)
  have HX := Lib.hid hX
  have hmk := h.laid.hasH a b
  clear h hX ok
  go_enter Tryz.func97, Tryz.ntmps97
  go_wp2_with fail
  generalize (w.alloc (.cells #[.int .i64 a, .int .i64 b] 34)) = X at *
  have c2 := HW.out.cell2
  have hpl := HW.out.plt
  obtain ⟨kh0, kh1⟩ := hCells (a := a) (b := b) hhb
  have hhl : w.heap.size < X.heap.size := by omega
  have HHB := Lib.hid hhb
  clear hhb hsz
  cases hh : hasH rows a b
  · as_aux_lemma =>
    have hm : ¬ (a, b) ∈ hk := of_decide_eq_false (hmk.trans hh)
    have hlk : (Instr.lookup 69 pm (.agg #[.int .i64 a, .int .i64 b]) true).run Tryz.prog X.drew = .ok (.tuple #[.agg #[.pointer none, .int .i64 0], .bool false]) X.drew := (HW.out.later (Below.refl _ _).drew).look2o a b ha hb hm
    have hlk1 : (Instr.lookup 69 pm (.agg #[.int .i64 a, .int .i64 b]) true).run Tryz.prog (X.alloc (.cells #[.pointer none, .int .i64 0] 133)).drew = .ok (.tuple #[.agg #[.pointer none, .int .i64 0], .bool false]) (X.alloc (.cells #[.pointer none, .int .i64 0] 133)).drew := (HW.out.later (nb_alloc (Below.refl _ _) (.cells #[.pointer none, .int .i64 0] 133)).drew).look2o a b ha hb hm
    have HEND : Hid (∀ w', Below X.heap.size X w' → KillPostN n0 ZT zr w p F l rows a b (.returned (.int .i64 7)) w') := Lib.hid (fun w' h' => by
      have hb' : Below w.heap.size w w' := nb_trans HX.out h'
      have hl : liveB l a b = false := by rw [← HOK.out.has a b]; exact hh
      refine ⟨by rw [killE, hh]; rfl, F, ?_, Kept.ofBelow hb', Moves.refl _ _, HNC0.out.later HLT.out hb'⟩
      rw [freeL, hl]
      refine (H0.out.later hb').congr (fun x => ?_)
      rw [mem_killR]
      exact ⟨fun hx => ⟨hx, not_mem_of_hasH hh x hx⟩, And.left⟩)
    clear hmk hh hm HW HWA HHB
    go_region
    all_goals
      clear hlk hlk1 kh0 kh1 c2
      go_wp2
      go_ret
      exact HEND.out _ (nb_alloc (Below.refl _ _) _).drew
  · as_aux_lemma =>
    have hm : (a, b) ∈ hk := of_decide_eq_true (hmk.trans hh)
    obtain ⟨q, hq⟩ : ∃ q, tb (pl (a, b)).1 = q := ⟨_, rfl⟩
    obtain ⟨i, hi⟩ : ∃ i, (pl (a, b)).2 = i := ⟨_, rfl⟩
    have hlk : (Instr.lookup 69 pm (.agg #[.int .i64 a, .int .i64 b]) true).run Tryz.prog X.drew = .ok (.tuple #[.agg #[.pointer (some ⟨q, 0, none⟩), .int .i64 i], .bool true]) X.drew := by
      have := (HW.out.later (Below.refl _ _).drew).look2i a b ha hb hm
      rw [plV, hq, hi] at this; exact this
    have hlk1 : (Instr.lookup 69 pm (.agg #[.int .i64 a, .int .i64 b]) true).run Tryz.prog (X.alloc (.cells #[.pointer none, .int .i64 0] 133)).drew = .ok (.tuple #[.agg #[.pointer (some ⟨q, 0, none⟩), .int .i64 i], .bool true]) (X.alloc (.cells #[.pointer none, .int .i64 0] 133)).drew := by
      have := (HW.out.later (nb_alloc (Below.refl _ _) (.cells #[.pointer none, .int .i64 0] 133)).drew).look2i a b ha hb hm
      rw [plV, hq, hi] at this; exact this
    have HH := Lib.hid hh
    clear hmk hm hq hi HW hh
    go_region
    all_goals
      clear hlk hlk1 kh0 kh1 c2
      have HWV : Hid (WldIn ZT zr (X.alloc (.cells #[.pointer (some ⟨q, 0, none⟩), .int .i64 i] 133)).drew p F l (· ∈ rows)) := Lib.hid (HWA.out.later (nb_alloc (Below.refl _ _) _).drew)
      have HXV : Hid (Below X.heap.size X (X.alloc (.cells #[.pointer (some ⟨q, 0, none⟩), .int .i64 i] 133)).drew) := Lib.hid (nb_alloc (Below.refl _ _) _).drew
      generalize (X.alloc (.cells #[.pointer (some ⟨q, 0, none⟩), .int .i64 i] 133)).drew = V at *
      have hvb : V.heap[w.heap.size]? = some (.cells #[.int .i64 a, .int .i64 b] 34) := by rw [HXV.out.block _ hhl]; exact HHB.out
      obtain ⟨kv0, kv1⟩ := hCells (a := a) (b := b) hvb
      have hvl : w.heap.size < V.heap.size := (Array.getElem?_eq_some_iff.1 hvb).1
      have HVB := Lib.hid hvb
      clear hvb
      go_wp2_with fail
      refine (worldRemove_anyN p F l _ a b n0 _ (HNC0.out.later HLT.out (HX.out.trans (HXV.out.mono HX.out.size))) HWV.out HAB.out.1 HAB.out.2 (mem_of_hasH HH.out) HOK.out.few).mono ?_
      rintro e w2 ⟨rfl, F2, h2, hk2, hm2, hnc2⟩
      have HNC := Lib.hid hnc2
      clear hnc2
      have hb2 : w2.heap[w.heap.size]? = some (.cells #[.int .i64 a, .int .i64 b] 34) := by rw [hk2.block _ hvl (fun e => by have := HLT.out _ e; omega)]; exact HVB.out
      obtain ⟨kw0, kw1⟩ := hCells (a := a) (b := b) hb2
      obtain ⟨c2, tm2, pm2, ks2, tb2, tr2, hk2', pl2, hw2⟩ := h2
      have hpl2 := hw2.plt
      have hwl2 : w.heap.size < w2.heap.size := (Array.getElem?_eq_some_iff.1 hb2).1
      have HW2 := Lib.hid hw2
      have HK2 := Lib.hid hk2
      have HM2 := Lib.hid hm2
      clear hw2 hk2 hm2 hb2 kv0 kv1
      go_wp2_with fail
      go_still_tail 4, (by kernel_rfl)
      change wpList _ _ _ _ _ w2.drew
      clear kw0 kw1
      go_wp2_with fail
      refine (free_any p _ l a b _ (HW2.out.slots.kept (Kept.drew (fun _ => False) _) (fun _ _ => id)) HOK.out.slots).mono ?_
      rintro e w3 ⟨rfl, hs3, hk3⟩
      have HEND : Hid (KillPostN n0 ZT zr w p F l rows a b (.returned (.int .i64 (freeE l a b))) w3) := Lib.hid (by
        have hlv : liveB l a b = true := by rw [← HOK.out.has a b]; exact HH.out
        have hk3' : Kept (fun b => F2 b ∧ c2 b = -1) w2 w3 := (Kept.drew _ w2).trans hk3 (fun _ h => .inl h)
        obtain ⟨hw3, hkF3⟩ := HW2.out.slotSame hs3 hk3' HNC.out
        have hXs := HX.out.size
        have hXv := HXV.out.size
        refine ⟨by rw [freeE, killE, hlv, HH.out], _, WldIn.congr ⟨_, _, _, _, _, _, _, _, hw3⟩ (fun x => mem_killR.symm), ?_, fun b hb => (HM2.out b hb.1).imp id (fun h => by omega), fun b hb => hb.2⟩
        exact ((Kept.ofBelow (HX.out.trans (HXV.out.mono hXs))).trans HK2.out (fun _ h => .inl h)).trans hkF3 (fun b hb => (HM2.out b hb).imp id (fun h => by omega)))
      clear hs3 hk3
      go_wp2
      go_ret
      exact HEND.out
theorem worldKill_any (p : Nat) (F : Nat → Prop) (l : List (Int × Bool)) (rows : List Rw) (a b : Int) (w : World) (h : WldIn ZT zr w p F l (· ∈ rows)) (ok : WOk l rows) (ha : I64r a) (hb : I64r b) :
    Calls Tryz.prog 97 #[.pointer (some ⟨p, 0, none⟩), .agg #[.int .i64 a, .int .i64 b]] w (KillPost ZT zr w p F l rows a b) :=
  (worldKill_anyN p F l rows a b w.heap.size w (NewC.lt h.lt) h ok ha hb).mono fun _ _ ⟨h1, F', h2, h3, h4, _⟩ => ⟨h1, F', h2, h3, h4⟩
end Go.Proofs.YtcmpaohefihijabGreatDoor

/- The contract of Drop of package world. -/
namespace Go.Proofs.YtcmpaohefihijabGreatDoor
set_option maxRecDepth 8000
open Go.RowKit
variable {ZT : TypeId} {zr : List Value}

theorem findE_zero {rows : List Rw} {a b k : Int} (h : findE rows a b k = 0) : hasH rows a b = true ∧ inB k 0 7 = true := by
  unfold findE at h
  cases h1 : hasH rows a b
  · rw [h1] at h; simp at h
  · cases h2 : inB k 0 7
    · rw [h1, h2] at h; simp at h
    · exact ⟨rfl, rfl⟩
def DropPost (ZT : TypeId) (zr : List Value) (w : World) (p : Nat) (F : Nat → Prop) (l : List (Int × Bool)) (rows : List Rw) (a b k : Int) (e : Ending) (w' : World) : Prop :=
  e = .returned (.int .i64 (dropE rows a b k)) ∧ ∃ F', WldIn ZT zr w' p F' l (· ∈ dropR rows a b k) ∧ Kept F w w' ∧ Moves w F F'

set_option maxHeartbeats 4000000 in
theorem worldDrop_any (p : Nat) (F : Nat → Prop) (l : List (Int × Bool)) (rows : List Rw) (a b k : Int) (w : World) (h : WldIn ZT zr w p F l (· ∈ rows)) (ok : WOk l rows) (ha : I64r a) (hb : I64r b) :
    Calls Tryz.prog 38 #[.pointer (some ⟨p, 0, none⟩), .agg #[.int .i64 a, .int .i64 b], .int .i64 k] w (DropPost ZT zr w p F l rows a b k) := by
  have H0 := Lib.hid h
  have HOK := Lib.hid ok
  have HAB : Hid (I64r a ∧ I64r b) := Lib.hid ⟨ha, hb⟩
  have HLT := Lib.hid h.lt
  have hX : Below w.heap.size w (w.alloc (.cells #[.int .i64 a, .int .i64 b] 34)) := nb_alloc (Below.refl _ _) _
  have hhb : (w.alloc (.cells #[.int .i64 a, .int .i64 b] 34)).heap[w.heap.size]? = some (.cells #[.int .i64 a, .int .i64 b] 34) := heap_alloc_new _ _
  have HW := Lib.hid (h.later hX)
  have HX := Lib.hid hX
  have HHB := Lib.hid hhb
  have hhl := (Array.getElem?_eq_some_iff.1 hhb).1
  clear h hX ok hhb
  go_enter Tryz.func38, Tryz.ntmps38
  go_wp2_with fail
  generalize (w.alloc (.cells #[.int .i64 a, .int .i64 b] 34)) = X at *
  refine (worldFind_any p F l rows a b k _ HW.out HAB.out.1 HAB.out.2).mono ?_
  rintro e w1 ⟨rfl, hb1⟩
  have HB1 := Lib.hid hb1
  have hXs := HX.out.size
  have hs1 := hb1.size
  have h1b : w1.heap[w.heap.size]? = some (.cells #[.int .i64 a, .int .i64 b] 34) := by rw [hb1.block _ hhl]; exact HHB.out
  have H1B := Lib.hid h1b
  have h1l := (Array.getElem?_eq_some_iff.1 h1b).1
  clear hb1 h1b
  obtain ⟨x, hx⟩ : ∃ x, findE rows a b k = x := ⟨_, rfl⟩
  by_cases h0 : x = 0
  · subst h0
    have hf := findE_zero hx
    obtain ⟨r, hr⟩ : ∃ r, getR rows a b = r := ⟨_, rfl⟩
    have hi : atN rows a b < rows.length := of_decide_eq_true hf.1
    have hrg : rows.getD (atN rows a b) rowZ = r := by rw [← hr, (getE_yes hf.1).2]
    obtain ⟨r1, r2⟩ := atN_is hi
    rw [hrg] at r1 r2
    have hrok := HOK.out.ok r (by rw [← hrg]; exact mem_getD hi)
    have hrm := (bErr_zero hrok).1
    obtain ⟨j, hj, rfl⟩ : ∃ j : Nat, j < 8 ∧ k = (j : Int) := by
      have := inB_t hf.2
      exact ⟨k.toNat, by omega, by omega⟩
    obtain ⟨s, hs⟩ : ∃ s : Int, 2 ^ j = s := ⟨_, rfl⟩
    have hs0 : 0 < s := by rw [← hs]; exact pow_pos2 j
    have hsr : findS rows a b j = s := by rw [findS, hx, if_pos rfl, Int.toNat_natCast, hs]
    have hrr : findR rows a b j = r := by rw [findR, hx, if_pos rfl, hr]
    rw [hsr, hrr, hx]
    have HX0 := Lib.hid hx
    have HS := Lib.hid hs
    have HRG := Lib.hid hrg
    have HRI := Lib.hid hi
    have HR12 : Hid (r.s = a ∧ r.g = b) := Lib.hid ⟨r1, r2⟩
    have HRM := Lib.hid hrm
    have HROK := Lib.hid hrok
    have HHAS := Lib.hid hf.1
    clear hf hr hi hrg r1 r2 hrok hsr hrr hx
    cases ht : tb r.m j
    · have hand : bits .and .i64 r.m s = 0 := by rw [← HS.out, bit_and _ _ hrm.1 hrm.2 hj, ht]; rfl
      have HEND : Hid (∀ w', Below w1.heap.size w1 w' → DropPost ZT zr w p F l rows a b j (.returned (.int .i64 5)) w') := Lib.hid (fun w' h' => by
        have hb' : Below w.heap.size w w' := nb_trans (nb_trans HX.out HB1.out) h'
        have he : dropE rows a b j = 5 := by
          have h1 := findE_zero HX0.out
          rw [dropE, h1.1, h1.2, HRG.out, Int.toNat_natCast, ht]; rfl
        refine ⟨by rw [he], F, ?_, Kept.ofBelow hb', Moves.refl _ _⟩
        rw [dropR, he]; exact H0.out.later hb')
      clear ht hrm
      go_wp2
      go_ret
      exact HEND.out _ (nb_alloc (Below.refl _ _) _)
    · have hand : bits .and .i64 r.m s = s := by rw [← HS.out, bit_and _ _ hrm.1 hrm.2 hj, ht]; rfl
      have hnot : bits .andNot .i64 r.m s = r.m - s := by rw [← HS.out, bit_andNot _ _ hrm.1 hrm.2 hj ht]
      have hse : (s == 0) = false := by simp; omega
      have HE0 : Hid (dropE rows a b j = 0) := Lib.hid (by
        have h1 := findE_zero HX0.out
        rw [dropE, h1.1, h1.2, HRG.out, Int.toNat_natCast, ht]; rfl)
      have HPK : Hid (dropK r (j : Int).toNat = ⟨a, b, r.m - s, upd r.f j 0⟩) := Lib.hid (by rw [dropK, Int.toNat_natCast, HS.out, HR12.out.1, HR12.out.2])
      have HBE : Hid (bErr (r.m - s) [(upd r.f j 0) 0, (upd r.f j 0) 1, (upd r.f j 0) 2, (upd r.f j 0) 3, (upd r.f j 0) 4, (upd r.f j 0) 5, (upd r.f j 0) 6, (upd r.f j 0) 7] = 0) := Lib.hid (by have := dropK_ok HROK.out hj ht; rw [← HS.out]; exact this)
      clear ht hrm
      have hold : (w1.alloc (.cells #[.int .i64 (r.m - s), .int .i64 (r.f 0), .int .i64 (r.f 1), .int .i64 (r.f 2), .int .i64 (r.f 3), .int .i64 (r.f 4), .int .i64 (r.f 5), .int .i64 (r.f 6), .int .i64 (r.f 7)] 37)).cell? ⟨w1.heap.size, 1 + j, none⟩ = some (.int .i64 (r.f j)) := by rw [cell_of_row _ _ _ _ _ _ (heap_alloc_new w1 _)]; exact vals_at (r.m - s) r.f j hj
      have fzo : (w1.alloc (.cells #[.int .i64 (r.m - s), .int .i64 (r.f 0), .int .i64 (r.f 1), .int .i64 (r.f 2), .int .i64 (r.f 3), .int .i64 (r.f 4), .int .i64 (r.f 5), .int .i64 (r.f 6), .int .i64 (r.f 7)] 37)).frozen? ⟨w1.heap.size, 1 + j, none⟩ = false := frozen_of_row _ _ _ _ _ (heap_alloc_new w1 _)
      have hls : ([.int .i64 (r.m - s), .int .i64 (r.f 0), .int .i64 (r.f 1), .int .i64 (r.f 2), .int .i64 (r.f 3), .int .i64 (r.f 4), .int .i64 (r.f 5), .int .i64 (r.f 6), .int .i64 (r.f 7)] : List Value).set (1 + j) (.int .i64 0) = [.int .i64 (r.m - s), .int .i64 ((upd r.f j 0) 0), .int .i64 ((upd r.f j 0) 1), .int .i64 ((upd r.f j 0) 2), .int .i64 ((upd r.f j 0) 3), .int .i64 ((upd r.f j 0) 4), .int .i64 ((upd r.f j 0) 5), .int .i64 ((upd r.f j 0) 6), .int .i64 ((upd r.f j 0) 7)] := by
        have := congrArg Array.toList (vals_set (r.m - s) r.f j 0 hj)
        simpa using this
      obtain ⟨kw0, kw1⟩ := hCells (a := a) (b := b) H1B.out
      have HZW : Hid (Below w1.heap.size w1 (w1.alloc (.cells #[.int .i64 (r.m - s), .int .i64 ((upd r.f j 0) 0), .int .i64 ((upd r.f j 0) 1), .int .i64 ((upd r.f j 0) 2), .int .i64 ((upd r.f j 0) 3), .int .i64 ((upd r.f j 0) 4), .int .i64 ((upd r.f j 0) 5), .int .i64 ((upd r.f j 0) 6), .int .i64 ((upd r.f j 0) 7)] 37))) := Lib.hid (nb_alloc (Below.refl _ _) _)
      have hj0 : (0 : Int) ≤ (j : Int) := by omega
      have hj8 : (j : Int) < 8 := by omega
      go_wp2_with fail
      refine (worldMove_any p F l _ ⟨a, b, r.m - s, upd r.f j 0⟩ _ (HW.out.later (nb_trans HB1.out HZW.out)) (mem_of_hasH HHAS.out) HBE.out HAB.out HOK.out.few).mono ?_
      rintro e w5 ⟨rfl, F5, h5, hk5, hm5⟩
      have HEND : Hid (DropPost ZT zr w p F l rows a b j (.returned (.int .i64 0)) w5) := Lib.hid (by
        have hbz : Below w.heap.size w (w1.alloc (.cells #[.int .i64 (r.m - s), .int .i64 ((upd r.f j 0) 0), .int .i64 ((upd r.f j 0) 1), .int .i64 ((upd r.f j 0) 2), .int .i64 ((upd r.f j 0) 3), .int .i64 ((upd r.f j 0) 4), .int .i64 ((upd r.f j 0) 5), .int .i64 ((upd r.f j 0) 6), .int .i64 ((upd r.f j 0) 7)] 37)) := nb_trans (nb_trans HX.out HB1.out) HZW.out
        have hsz := hbz.size
        refine ⟨by rw [HE0.out], F5, h5.congr (fun y => ?_), (Kept.ofBelow hbz).trans hk5 (fun _ h => .inl h), fun b hb => (hm5 b hb).imp id (fun h => by omega)⟩
        rw [dropR, if_pos HE0.out, mem_set_at HOK.out.up HRI.out, HRG.out, HPK.out]
        exact Iff.rfl)
      clear h5 hk5 hm5
      go_wp2
      go_ret
      exact HEND.out
  · have hs : findS rows a b k = 0 := by rw [findS, hx, if_neg h0]
    have hr : findR rows a b k = rowZ := by rw [findR, hx, if_neg h0]
    rw [hs, hr, hx]
    have HEND : Hid (∀ w', Below w1.heap.size w1 w' → DropPost ZT zr w p F l rows a b k (.returned (.int .i64 x)) w') := Lib.hid (fun w' h' => by
      have hb' : Below w.heap.size w w' := nb_trans (nb_trans HX.out HB1.out) h'
      have he : dropE rows a b k = x := (by
        unfold findE at hx
        unfold dropE
        cases h1 : hasH rows a b
        · rw [h1] at hx; exact hx
        · rw [h1, if_pos rfl] at hx
          cases h2 : inB k 0 7
          · rw [h2] at hx; rw [if_pos rfl]; exact hx
          · rw [h2] at hx; simp at hx; exact absurd hx.symm h0)
      refine ⟨by rw [he], F, ?_, Kept.ofBelow hb', Moves.refl _ _⟩
      rw [dropR, he, if_neg h0]; exact H0.out.later hb')
    have hne : (x != 0) = true := by simpa using h0
    clear h0 hx hs hr
    go_wp2
    go_ret
    exact HEND.out _ (nb_alloc (Below.refl _ _) _)
end Go.Proofs.YtcmpaohefihijabGreatDoor

/- The contract of Put of package world. -/
namespace Go.Proofs.YtcmpaohefihijabGreatDoor
set_option maxRecDepth 8000
open Go.RowKit
variable {ZT : TypeId} {zr : List Value}

theorem len_pred' {α : Type} {xs : List α} {i : Nat} (h : i < xs.length) : inB (i : Int) 0 (xs.length - 1) = true := by simp [inB]; omega
def PutPost (ZT : TypeId) (zr : List Value) (w : World) (p : Nat) (F : Nat → Prop) (l : List (Int × Bool)) (rows : List Rw) (a b k n : Int) (e : Ending) (w' : World) : Prop :=
  e = .returned (.int .i64 (putWE rows a b k n)) ∧ ∃ F', WldIn ZT zr w' p F' l (· ∈ putWR rows a b k n) ∧ Kept F w w' ∧ Moves w F F'

set_option maxHeartbeats 4000000 in
theorem worldPut_any (p : Nat) (F : Nat → Prop) (l : List (Int × Bool)) (rows : List Rw) (a b k n : Int) (w : World) (h : WldIn ZT zr w p F l (· ∈ rows)) (ok : WOk l rows) (ha : I64r a) (hb : I64r b) :
    Calls Tryz.prog 37 #[.pointer (some ⟨p, 0, none⟩), .agg #[.int .i64 a, .int .i64 b], .int .i64 k, .int .i64 n] w (PutPost ZT zr w p F l rows a b k n) := by
  have H0 := Lib.hid h
  have HOK := Lib.hid ok
  have HAB : Hid (I64r a ∧ I64r b) := Lib.hid ⟨ha, hb⟩
  have HLT := Lib.hid h.lt
  have hX : Below w.heap.size w (w.alloc (.cells #[.int .i64 a, .int .i64 b] 34)) := nb_alloc (Below.refl _ _) _
  have hhb : (w.alloc (.cells #[.int .i64 a, .int .i64 b] 34)).heap[w.heap.size]? = some (.cells #[.int .i64 a, .int .i64 b] 34) := heap_alloc_new _ _
  have HW := Lib.hid (h.later hX)
  have HX := Lib.hid hX
  have HHB := Lib.hid hhb
  have hhl := (Array.getElem?_eq_some_iff.1 hhb).1
  clear h hX ok hhb
  go_enter Tryz.func37, Tryz.ntmps37
  go_wp2_with fail
  generalize (w.alloc (.cells #[.int .i64 a, .int .i64 b] 34)) = X at *
  refine (worldFind_any p F l rows a b k _ HW.out HAB.out.1 HAB.out.2).mono ?_
  rintro e w1 ⟨rfl, hb1⟩
  have HB1 := Lib.hid hb1
  have hXs := HX.out.size
  have hs1 := hb1.size
  have h1b : w1.heap[w.heap.size]? = some (.cells #[.int .i64 a, .int .i64 b] 34) := by rw [hb1.block _ hhl]; exact HHB.out
  have H1B := Lib.hid h1b
  have h1l := (Array.getElem?_eq_some_iff.1 h1b).1
  clear hb1 h1b
  obtain ⟨x, hx⟩ : ∃ x, findE rows a b k = x := ⟨_, rfl⟩
  by_cases h0 : x = 0
  · subst h0
    have hf := findE_zero hx
    obtain ⟨r, hr⟩ : ∃ r, getR rows a b = r := ⟨_, rfl⟩
    have hi : atN rows a b < rows.length := of_decide_eq_true hf.1
    have hrg : rows.getD (atN rows a b) rowZ = r := by rw [← hr, (getE_yes hf.1).2]
    obtain ⟨r1, r2⟩ := atN_is hi
    rw [hrg] at r1 r2
    have hrok := HOK.out.ok r (by rw [← hrg]; exact mem_getD hi)
    have hrm := (bErr_zero hrok).1
    obtain ⟨j, hj, rfl⟩ : ∃ j : Nat, j < 8 ∧ k = (j : Int) := by
      have := inB_t hf.2
      exact ⟨k.toNat, by omega, by omega⟩
    obtain ⟨s, hs⟩ : ∃ s : Int, 2 ^ j = s := ⟨_, rfl⟩
    have hs0 : 0 < s := by rw [← hs]; exact pow_pos2 j
    have hsr : findS rows a b j = s := by rw [findS, hx, if_pos rfl, Int.toNat_natCast, hs]
    have hrr : findR rows a b j = r := by rw [findR, hx, if_pos rfl, hr]
    rw [hsr, hrr, hx]
    have HX0 := Lib.hid hx
    have HS := Lib.hid hs
    have HRG := Lib.hid hrg
    have HRI := Lib.hid hi
    have HR12 : Hid (r.s = a ∧ r.g = b) := Lib.hid ⟨r1, r2⟩
    have HRM := Lib.hid hrm
    have HROK := Lib.hid hrok
    have HHAS := Lib.hid hf.1
    clear hf hr hi hrg r1 r2 hrok hsr hrr hx
    cases hn : inB n (-1000000000) 1000000000
    · have HEND : Hid (∀ w', Below w1.heap.size w1 w' → PutPost ZT zr w p F l rows a b j n (.returned (.int .i64 1)) w') := Lib.hid (fun w' h' => by
        have hb' : Below w.heap.size w w' := nb_trans (nb_trans HX.out HB1.out) h'
        have he : putWE rows a b j n = 1 := by
          have h1 := findE_zero HX0.out
          rw [putWE, h1.1, h1.2, hn]; rfl
        refine ⟨by rw [he], F, ?_, Kept.ofBelow hb', Moves.refl _ _⟩
        rw [putWR, he]; exact H0.out.later hb')
      clear hrm
      rcases inB_f hn with b1 | b1
      all_goals
        clear hn
        go_wp2
        go_ret
        exact HEND.out _ (nb_alloc (Below.refl _ _) _)
    obtain ⟨b1, b2⟩ := inB_t hn
    have HE0 : Hid (putWE rows a b j n = 0) := Lib.hid (by
      have h1 := findE_zero HX0.out
      rw [putWE, h1.1, h1.2, hn]; rfl)
    have HN := Lib.hid hn
    clear hn
    cases ht : tb r.m j
    · have hand : bits .and .i64 r.m s = 0 := by rw [← HS.out, bit_and _ _ hrm.1 hrm.2 hj, ht]; rfl
      have hor : bits .or .i64 r.m s = r.m + s := by rw [← HS.out, bit_or _ _ hrm.1 hrm.2 hj ht]
      have HPK : Hid (putK r (j : Int).toNat n = ⟨a, b, r.m + s, upd r.f j n⟩) := Lib.hid (by rw [putK, Int.toNat_natCast, HS.out, HR12.out.1, HR12.out.2, ht]; rfl)
      have HBE : Hid (bErr (r.m + s) [(upd r.f j n) 0, (upd r.f j n) 1, (upd r.f j n) 2, (upd r.f j n) 3, (upd r.f j n) 4, (upd r.f j n) 5, (upd r.f j n) 6, (upd r.f j n) 7] = 0) := Lib.hid (by
        have := putK_ok (n := n) HROK.out hj HN.out
        rw [putK, ht] at this
        rw [← HS.out]; exact this)
      clear ht hrm
      have hold : (w1.alloc (.cells #[.int .i64 (r.m + s), .int .i64 (r.f 0), .int .i64 (r.f 1), .int .i64 (r.f 2), .int .i64 (r.f 3), .int .i64 (r.f 4), .int .i64 (r.f 5), .int .i64 (r.f 6), .int .i64 (r.f 7)] 37)).cell? ⟨w1.heap.size, 1 + j, none⟩ = some (.int .i64 (r.f j)) := by rw [cell_of_row _ _ _ _ _ _ (heap_alloc_new w1 _)]; exact vals_at (r.m + s) r.f j hj
      have fzo : (w1.alloc (.cells #[.int .i64 (r.m + s), .int .i64 (r.f 0), .int .i64 (r.f 1), .int .i64 (r.f 2), .int .i64 (r.f 3), .int .i64 (r.f 4), .int .i64 (r.f 5), .int .i64 (r.f 6), .int .i64 (r.f 7)] 37)).frozen? ⟨w1.heap.size, 1 + j, none⟩ = false := frozen_of_row _ _ _ _ _ (heap_alloc_new w1 _)
      have hls : ([.int .i64 (r.m + s), .int .i64 (r.f 0), .int .i64 (r.f 1), .int .i64 (r.f 2), .int .i64 (r.f 3), .int .i64 (r.f 4), .int .i64 (r.f 5), .int .i64 (r.f 6), .int .i64 (r.f 7)] : List Value).set (1 + j) (.int .i64 n) = [.int .i64 (r.m + s), .int .i64 ((upd r.f j n) 0), .int .i64 ((upd r.f j n) 1), .int .i64 ((upd r.f j n) 2), .int .i64 ((upd r.f j n) 3), .int .i64 ((upd r.f j n) 4), .int .i64 ((upd r.f j n) 5), .int .i64 ((upd r.f j n) 6), .int .i64 ((upd r.f j n) 7)] := by
        have := congrArg Array.toList (vals_set (r.m + s) r.f j n hj)
        simpa using this
      obtain ⟨kw0, kw1⟩ := hCells (a := a) (b := b) H1B.out
      have HZW : Hid (Below w1.heap.size w1 (w1.alloc (.cells #[.int .i64 (r.m + s), .int .i64 ((upd r.f j n) 0), .int .i64 ((upd r.f j n) 1), .int .i64 ((upd r.f j n) 2), .int .i64 ((upd r.f j n) 3), .int .i64 ((upd r.f j n) 4), .int .i64 ((upd r.f j n) 5), .int .i64 ((upd r.f j n) 6), .int .i64 ((upd r.f j n) 7)] 37))) := Lib.hid (nb_alloc (Below.refl _ _) _)
      have hj0 : (0 : Int) ≤ (j : Int) := by omega
      have hj8 : (j : Int) < 8 := by omega
      go_wp2_with fail
      refine (worldMove_any p F l _ ⟨a, b, r.m + s, upd r.f j n⟩ _ (HW.out.later (nb_trans HB1.out HZW.out)) (mem_of_hasH HHAS.out) HBE.out HAB.out HOK.out.few).mono ?_
      rintro e w5 ⟨rfl, F5, h5, hk5, hm5⟩
      have HEND : Hid (PutPost ZT zr w p F l rows a b j n (.returned (.int .i64 0)) w5) := Lib.hid (by
        have hbz : Below w.heap.size w (w1.alloc (.cells #[.int .i64 (r.m + s), .int .i64 ((upd r.f j n) 0), .int .i64 ((upd r.f j n) 1), .int .i64 ((upd r.f j n) 2), .int .i64 ((upd r.f j n) 3), .int .i64 ((upd r.f j n) 4), .int .i64 ((upd r.f j n) 5), .int .i64 ((upd r.f j n) 6), .int .i64 ((upd r.f j n) 7)] 37)) := nb_trans (nb_trans HX.out HB1.out) HZW.out
        have hsz := hbz.size
        refine ⟨by rw [HE0.out], F5, h5.congr (fun y => ?_), (Kept.ofBelow hbz).trans hk5 (fun _ h => .inl h), fun b hb => (hm5 b hb).imp id (fun h => by omega)⟩
        rw [putWR, if_pos HE0.out, mem_set_at HOK.out.up HRI.out, HRG.out, HPK.out]
        exact Iff.rfl)
      clear h5 hk5 hm5
      go_wp2
      go_ret
      exact HEND.out
    · have hand : bits .and .i64 r.m s = s := by rw [← HS.out, bit_and _ _ hrm.1 hrm.2 hj, ht]; rfl
      have hse : (s != 0) = true := by simp; omega
      have hw1 := HW.out.later HB1.out
      obtain ⟨c, tm, pm, ks, tb, tr, hk, pl, hwi⟩ := hw1
      have hm : (a, b) ∈ hk := of_decide_eq_true ((hwi.laid.hasH a b).trans HHAS.out)
      have hg := hwi.laid.get hm
      rw [HRG.out] at hg
      obtain ⟨hkk, hil, -⟩ := hwi.laid.at_ _ hm
      obtain ⟨kk, hkq⟩ : ∃ kk, (pl (a, b)).1 = kk := ⟨_, rfl⟩
      obtain ⟨i, hiq⟩ : ∃ i, (pl (a, b)).2 = i := ⟨_, rfl⟩
      obtain ⟨q, hqq⟩ : ∃ q, tb kk = q := ⟨_, rfl⟩
      rw [hkq] at hkk
      rw [hkq, hiq] at hg hil
      have HPL : Hid (pl (a, b) = (kk, i)) := Lib.hid (by rw [← hkq, ← hiq])
      have hi60 : i < 60 := Nat.lt_of_lt_of_le hil (Nat.le_trans (hwi.laid.trLen (fun _ h => h) hkk) HOK.out.len60)
      have hmk : r.m = kk := (hwi.laid.row kk hkk r (by rw [hg]; exact mem_getD hil)).1
      have hWX : Below w1.heap.size w1 (w1.alloc (.cells #[.int .i64 r.m, .int .i64 (r.f 0), .int .i64 (r.f 1), .int .i64 (r.f 2), .int .i64 (r.f 3), .int .i64 (r.f 4), .int .i64 (r.f 5), .int .i64 (r.f 6), .int .i64 (r.f 7)] 37)) := nb_alloc (Below.refl _ _) _
      have HWX := Lib.hid hWX
      have HWI := Lib.hid (hwi.later hWX)
      have hxh : (w1.alloc (.cells #[.int .i64 r.m, .int .i64 (r.f 0), .int .i64 (r.f 1), .int .i64 (r.f 2), .int .i64 (r.f 3), .int .i64 (r.f 4), .int .i64 (r.f 5), .int .i64 (r.f 6), .int .i64 (r.f 7)] 37)).heap[w.heap.size]? = some (.cells #[.int .i64 a, .int .i64 b] 34) := by rw [Below.heap_alloc _ _ _ h1l]; exact H1B.out
      have hxb : (w1.alloc (.cells #[.int .i64 r.m, .int .i64 (r.f 0), .int .i64 (r.f 1), .int .i64 (r.f 2), .int .i64 (r.f 3), .int .i64 (r.f 4), .int .i64 (r.f 5), .int .i64 (r.f 6), .int .i64 (r.f 7)] 37)).cell? ⟨w1.heap.size, 0, none⟩ = some (.int .i64 r.m) := by rw [cell_of_row _ _ _ _ _ _ (heap_alloc_new w1 _)]; rfl
      have HG := Lib.hid hg
      have HKK := Lib.hid hkk
      have HIL := Lib.hid hil
      have HQ := Lib.hid hqq
      have HMK := Lib.hid hmk
      have HT := Lib.hid ht
      have HMM := Lib.hid hm
      clear hwi hWX hg hkk hil hmk ht hrm
      go_wp2_with fail
      generalize (w1.alloc (.cells #[.int .i64 r.m, .int .i64 (r.f 0), .int .i64 (r.f 1), .int .i64 (r.f 2), .int .i64 (r.f 3), .int .i64 (r.f 4), .int .i64 (r.f 5), .int .i64 (r.f 6), .int .i64 (r.f 7)] 37)) = Z at *
      have c2 := HWI.out.cell2
      have hplz := HWI.out.plt
      obtain ⟨y0, y1⟩ := hCells (a := a) (b := b) hxh
      have hlk : (Instr.lookup 69 pm (.agg #[.int .i64 a, .int .i64 b]) false).run Tryz.prog Z.drew = .ok (.agg #[.pointer (some ⟨q, 0, none⟩), .int .i64 i]) Z.drew := by
        have := (HWI.out.later (Below.refl _ _).drew).look1i a b ha hb hm
        rw [plV, hkq, hiq, hqq] at this; exact this
      have hlk1 : (Instr.lookup 69 pm (.agg #[.int .i64 a, .int .i64 b]) false).run Tryz.prog (Z.alloc (.cells #[.pointer none, .int .i64 0] 133)).drew = .ok (.agg #[.pointer (some ⟨q, 0, none⟩), .int .i64 i]) (Z.alloc (.cells #[.pointer none, .int .i64 0] 133)).drew := by
        have := (HWI.out.later (nb_alloc (Below.refl _ _) (.cells #[.pointer none, .int .i64 0] 133)).drew).look1i a b ha hb hm
        rw [plV, hkq, hiq, hqq] at this; exact this
      have hzl : w.heap.size < Z.heap.size := (Array.getElem?_eq_some_iff.1 hxh).1
      clear hm hkq hiq hqq hxh hxb
      go_region
      all_goals
        clear hlk hlk1 y0 y1 c2
        have HV : Hid (Below Z.heap.size Z (Z.alloc (.cells #[.pointer (some ⟨q, 0, none⟩), .int .i64 i] 133)).drew) := Lib.hid (nb_alloc (Below.refl _ _) _).drew
        go_wp2_with fail
        refine (tabSet_any q _ kk (tr kk) i j n _ (by have := (HWI.out.later HV.out).tabs kk HKK.out; rw [HQ.out] at this; exact this)).mono ?_
        rintro e w5 ⟨rfl, F5, ht5, hk5, hm5⟩
        have HEND : Hid (PutPost ZT zr w p F l rows a b j n (.returned (.int .i64 (setE kk (tr kk) i j n))) w5) := Lib.hid (by
          have h1 := findE_zero HX0.out
          have hse : setE kk (tr kk) i j n = 0 := by
            have hi1 : inB (i : Int) 0 ((tr kk).length - 1) = true := len_pred' HIL.out
            have hc : colE kk j = 0 := by rw [colE, h1.2, Int.toNat_natCast, ← HMK.out, HT.out]; rfl
            rw [setE, hi1, hc, HN.out]; rfl
          have hsl : setL kk (tr kk) i j n = (tr kk).set i (putK r j n) := by
            rw [setL, hse, if_pos rfl, Int.toNat_natCast, Int.toNat_natCast, ← HG.out, putK, HT.out]; rfl
          rw [hsl] at ht5
          have hpm : (putK r j n).m = kk := by rw [putK, HT.out, ← HMK.out]; rfl
          obtain ⟨F6, c6, hw6, hkk6, hmm6⟩ := (HWI.out.later HV.out).setRow (r' := putK r j n) HMM.out HPL.out (by rw [hd, putK, HR12.out.1, HR12.out.2]) hpm (putK_ok HROK.out hj HN.out) (by rw [HQ.out]; exact ht5) hk5 hm5
          have hbz : Below w.heap.size w (Z.alloc (.cells #[.pointer (some ⟨q, 0, none⟩), .int .i64 i] 133)).drew := nb_trans (nb_trans (nb_trans HX.out HB1.out) HWX.out) HV.out
          have hsz := hbz.size
          refine ⟨by rw [hse, HE0.out], F6, WldIn.congr ⟨c6, _, _, _, _, _, _, _, hw6⟩ (fun y => ?_), (Kept.ofBelow hbz).trans hkk6 (fun _ h => .inl h), fun b hb => (hmm6 b hb).imp id (fun h => by omega)⟩
          rw [putWR, if_pos HE0.out, mem_set_at HOK.out.up HRI.out, HRG.out, Int.toNat_natCast])
        clear ht5 hk5 hm5
        go_wp2
        go_ret
        exact HEND.out
  · have hs : findS rows a b k = 0 := by rw [findS, hx, if_neg h0]
    have hr : findR rows a b k = rowZ := by rw [findR, hx, if_neg h0]
    rw [hs, hr, hx]
    have HEND : Hid (∀ w', Below w1.heap.size w1 w' → PutPost ZT zr w p F l rows a b k n (.returned (.int .i64 x)) w') := Lib.hid (fun w' h' => by
      have hb' : Below w.heap.size w w' := nb_trans (nb_trans HX.out HB1.out) h'
      have he : putWE rows a b k n = x := (by
        unfold findE at hx
        unfold putWE
        cases h1 : hasH rows a b
        · rw [h1] at hx; exact hx
        · rw [h1, if_pos rfl] at hx
          cases h2 : inB k 0 7
          · rw [h2] at hx; rw [if_pos rfl]; exact hx
          · rw [h2] at hx; simp at hx; exact absurd hx.symm h0)
      refine ⟨by rw [he], F, ?_, Kept.ofBelow hb', Moves.refl _ _⟩
      rw [putWR, he, if_neg h0]; exact H0.out.later hb')
    have hne : (x != 0) = true := by simpa using h0
    clear h0 hx hs hr
    go_wp2
    go_ret
    exact HEND.out _ (nb_alloc (Below.refl _ _) _)
end Go.Proofs.YtcmpaohefihijabGreatDoor

/- The contract of Spawn of package world. -/
namespace Go.Proofs.YtcmpaohefihijabGreatDoor
set_option maxRecDepth 8000
open Go.RowKit
variable {ZT : TypeId} {zr : List Value}

def SpawnPost (ZT : TypeId) (zr : List Value) (w : World) (p : Nat) (F : Nat → Prop) (l : List (Int × Bool)) (rows : List Rw) (m : Int) (f : Nat → Int) (e : Ending) (w' : World) : Prop :=
  e = .returned (.tuple #[.agg #[.int .i64 (spawnH l m f).1, .int .i64 (spawnH l m f).2], .int .i64 (spawnE l m f)]) ∧ ∃ F', WldIn ZT zr w' p F' (spawnL l m f) (· ∈ spawnR l rows m f) ∧ Kept F w w' ∧ Moves w F F'
theorem takeH_I64 {l : List (Int × Bool)} (ok : SlotOk l) (he : takeE l = 0) : I64r (takeH l).1 ∧ I64r (takeH l).2 := by
  have h := (liveB_take he (takeH l).1 (takeH l).2).2 (.inl rfl)
  obtain ⟨h0, h1, h2⟩ := liveB_iff.1 h
  have hl := ok.take.len
  have hg := ok.take.gen (takeH l).1.toNat (by omega)
  rw [h2] at hg
  simp only at hg
  exact ⟨⟨by omega, by omega⟩, ⟨by omega, by omega⟩⟩
theorem takeE_ne {l : List (Int × Bool)} (h : takeE l ≠ 0) : takeL l = l ∧ takeH l = (0, 0) := by
  by_cases h1 : firstFree l < l.length
  · exact absurd (takeE_old h1) h
  · by_cases h2 : l.length < 60
    · exact absurd (takeE_new h1 h2) h
    · exact ⟨takeL_no h1 h2, takeH_no h1 h2⟩

set_option maxHeartbeats 4000000 in
theorem worldSpawn_any (p : Nat) (F : Nat → Prop) (l : List (Int × Bool)) (rows : List Rw) (m : Int) (f : Nat → Int) (w : World) (h : WldIn ZT zr w p F l (· ∈ rows)) (ok : WOk l rows) :
    Calls Tryz.prog 35 #[.pointer (some ⟨p, 0, none⟩), .agg #[.int .i64 m, .int .i64 (f 0), .int .i64 (f 1), .int .i64 (f 2), .int .i64 (f 3), .int .i64 (f 4), .int .i64 (f 5), .int .i64 (f 6), .int .i64 (f 7)]] w (SpawnPost ZT zr w p F l rows m f) := by
  have hX : Below w.heap.size w ((w.alloc (.cells #[.int .i64 m, .int .i64 (f 0), .int .i64 (f 1), .int .i64 (f 2), .int .i64 (f 3), .int .i64 (f 4), .int .i64 (f 5), .int .i64 (f 6), .int .i64 (f 7)] 37)).alloc (.cells #[.int .i64 0, .int .i64 0] 34)) := nb_alloc (nb_alloc (Below.refl _ _) _) _
  have hb0 : ((w.alloc (.cells #[.int .i64 m, .int .i64 (f 0), .int .i64 (f 1), .int .i64 (f 2), .int .i64 (f 3), .int .i64 (f 4), .int .i64 (f 5), .int .i64 (f 6), .int .i64 (f 7)] 37)).alloc (.cells #[.int .i64 0, .int .i64 0] 34)).heap[w.heap.size]? = some (.cells #[.int .i64 m, .int .i64 (f 0), .int .i64 (f 1), .int .i64 (f 2), .int .i64 (f 3), .int .i64 (f 4), .int .i64 (f 5), .int .i64 (f 6), .int .i64 (f 7)] 37) := heap_alloc2_old _ _ _
  have hb1 : ((w.alloc (.cells #[.int .i64 m, .int .i64 (f 0), .int .i64 (f 1), .int .i64 (f 2), .int .i64 (f 3), .int .i64 (f 4), .int .i64 (f 5), .int .i64 (f 6), .int .i64 (f 7)] 37)).alloc (.cells #[.int .i64 0, .int .i64 0] 34)).heap[w.heap.size + 1]? = some (.cells #[.int .i64 0, .int .i64 0] 34) := heap_alloc2_new _ _ _
  have HLT := Lib.hid h.lt
  have HW := Lib.hid (h.later hX)
  have HX := Lib.hid hX
  have HB0 := Lib.hid hb0
  have HB1 := Lib.hid hb1
  have HOK := Lib.hid ok
  have hbl := (Array.getElem?_eq_some_iff.1 hb1).1
  clear h hX ok hb0 hb1
  go_enter Tryz.func35, Tryz.ntmps35
  go_wp2_with fail
  generalize ((w.alloc (.cells #[.int .i64 m, .int .i64 (f 0), .int .i64 (f 1), .int .i64 (f 2), .int .i64 (f 3), .int .i64 (f 4), .int .i64 (f 5), .int .i64 (f 6), .int .i64 (f 7)] 37)).alloc (.cells #[.int .i64 0, .int .i64 0] 34)) = X at *
  have HBOX : Hid (∀ Y, Kept F X Y → Y.heap[w.heap.size]? = some (.cells #[.int .i64 m, .int .i64 (f 0), .int .i64 (f 1), .int .i64 (f 2), .int .i64 (f 3), .int .i64 (f 4), .int .i64 (f 5), .int .i64 (f 6), .int .i64 (f 7)] 37) ∧ Y.heap[w.heap.size + 1]? = some (.cells #[.int .i64 0, .int .i64 0] 34)) := Lib.hid (fun Y hY => ⟨by rw [hY.block _ (by omega) (fun e => by have := HLT.out _ e; omega)]; exact HB0.out, by rw [hY.block _ hbl (fun e => by have := HLT.out _ e; omega)]; exact HB1.out⟩)
  refine (checkBeast_any _ _ _ _ _ _ _ _ _ _).mono ?_
  rintro e w1 ⟨rfl, hw1⟩
  have hX1 : Below X.heap.size X w1 := by rw [← hw1]; exact nb_alloc (Below.refl _ _) _
  have HX1 := Lib.hid hX1
  clear hw1 hX1
  by_cases hbe : bErr m [f 0, f 1, f 2, f 3, f 4, f 5, f 6, f 7] = 0
  · rw [hbe]
    have hwf := HW.out.later HX1.out
    obtain ⟨c, tm, pm, ks, tb, tr, hk, pl, hwi⟩ := hwf
    have HWI := Lib.hid hwi
    have hpl := hwi.plt
    have HBE := Lib.hid hbe
    clear hwi hbe
    go_wp2_with fail
    refine (take_any p _ l _ HWI.out.slots HOK.out.slots).mono ?_
    rintro e w2 ⟨rfl, F2, hs2, hk2, hm2⟩
    obtain ⟨hw2, hkF2⟩ := HWI.out.slotStep hs2 hk2 hm2
    have HW2 := Lib.hid hw2
    have HKX2 : Hid (Kept F X w2) := Lib.hid ((Kept.ofBelow HX1.out).trans hkF2 (fun _ h => .inl h))
    have hs12 := hkF2.size
    clear hs2 hk2 hm2 hw2 hkF2 HWI
    have hXs := HX.out.size
    have hs1 := HX1.out.size
    by_cases hte : takeE l = 0
    · as_aux_lemma =>
      obtain ⟨⟨ta, tb2⟩, hth⟩ : ∃ x, takeH l = x := ⟨_, rfl⟩
      have HTE := Lib.hid hte
      have HTH := Lib.hid hth
      rw [hte, hth]
      have HOKT : Hid (I64r ta ∧ I64r tb2) := Lib.hid (by have := takeH_I64 HOK.out.slots hte; rw [hth] at this; exact this)
      have HNEW : Hid (∀ x, x ∈ rows → hd x ≠ hd ⟨ta, tb2, m, f⟩) := Lib.hid (fun x hx e => by
        have h1 := HOK.out.live x hx
        simp only [hd, Prod.mk.injEq] at e
        have h2 := take_dead hte x.g
        rw [hth] at h2
        rw [e.1] at h1
        rw [h1] at h2
        cases h2)
      obtain ⟨hq0, hq1⟩ := HBOX.out w2 HKX2.out
      obtain ⟨kb0, kb1, kb2, kb3, kb4, kb5, kb6, kb7, kb8⟩ := bCells (m := m) (f := f) hq0
      have hqa := (Array.getElem?_eq_some_iff.1 hq0).1
      clear hte hth hq0 hq1
      go_wp2_with fail
      refine (worldAdd_any p _ _ _ ⟨ta, tb2, m, f⟩ _ ⟨_, _, _, _, _, _, _, _, HW2.out.later (nb_alloc (Below.refl _ _) _)⟩ HBE.out HNEW.out HOKT.out HOK.out.few).mono ?_
      rintro e w4 ⟨rfl, F4, h4, hk4, hm4⟩
      have hk24 : Kept (growF F w1 w2) w2 w4 := (Kept.alloc (growF F w1 w2) w2 _).trans hk4 (fun _ h => .inl h)
      have hkX4 : Kept F X w4 := HKX2.out.trans hk24 (fun b e => e.imp id (fun h => by omega))
      obtain ⟨hq0, hq1⟩ := HBOX.out w4 hkX4
      have hqh : w4.heap[w2.heap.size]? = some (.cells #[.int .i64 ta, .int .i64 tb2] 34) := by
        rw [hk4.block _ (by simp) (fun e => by rcases e with e | e; · have := HLT.out _ e; omega
                                               · omega)]
        exact heap_alloc_new w2 _
      obtain ⟨kz0, kz1⟩ := hCells (a := 0) (b := 0) hq1
      obtain ⟨kt0, kt1⟩ := hCells (a := ta) (b := tb2) hqh
      have fz : ∀ j, w4.frozen? ⟨w.heap.size + 1, j, none⟩ = false := fun j => frozen_of_row _ _ _ _ _ hq1
      have hl1 := (Array.getElem?_eq_some_iff.1 hq1).1
      have hl2 := (Array.getElem?_eq_some_iff.1 hqh).1
      have hne : ¬ w2.heap.size = w.heap.size + 1 := by omega
      have hne' : ¬ w.heap.size + 1 = w2.heap.size := by omega
      have HL : Hid (spawnL l m f = takeL l ∧ spawnH l m f = (ta, tb2) ∧ spawnE l m f = 0) := Lib.hid ⟨by rw [spawnL, if_pos HBE.out], by rw [spawnH, if_pos HBE.out]; exact HTH.out, by rw [spawnE, if_pos HBE.out]; exact HTE.out⟩
      have HEND : Hid (∀ w5, Kept (fun b => b = w.heap.size + 1) w4 w5 → ∃ F', WldIn ZT zr w5 p F' (spawnL l m f) (· ∈ spawnR l rows m f) ∧ Kept F w w5 ∧ Moves w F F') := Lib.hid (fun w5 hk5 => by
        have hF4 : ∀ b, F4 b → b ≠ w.heap.size + 1 := fun b hb e => by
          rcases hm4 b hb with h1 | h1
          · rcases h1 with h1 | h1
            · have := HLT.out _ h1; omega
            · omega
          · simp at h1; omega
        rw [HL.out.1]
        refine ⟨F4, (h4.kept hk5 hF4).congr (fun x => ?_), ((Kept.ofBelow HX.out).trans hkX4 (fun _ h => .inl h)).trans hk5 (fun b e => .inr (by omega)), fun b hb => ?_⟩
        · unfold spawnR spawnE
          rw [if_pos HBE.out, if_pos HTE.out, mem_insR, HTH.out]
        · rcases hm4 b hb with h1 | h1
          · exact h1.imp id (fun h => by omega)
          · right; simp at h1; omega)
      clear h4 hk4 hm4 hk24 hkX4 hq0 hq1 hqh kb0 kb1 kb2 kb3 kb4 kb5 kb6 kb7 kb8
      go_wp2
      refine bodyPost_ret (v := .tuple #[.agg #[.int .i64 ta, .int .i64 tb2], .int .i64 0]) (by simp [results, Tryz.results35, go_sem, kz0, kz1]) rfl ⟨by rw [HL.out.2.1, HL.out.2.2], HEND.out _ ?_⟩
      exact (Kept.setCell (F := fun b => b = w.heap.size + 1) _ (p := ⟨w.heap.size + 1, 0, none⟩) rfl _).trans (Kept.setCell (F := fun b => b = w.heap.size + 1) _ (p := ⟨w.heap.size + 1, 1, none⟩) rfl _) (fun _ h => .inl h)
    · as_aux_lemma =>
      obtain ⟨hL, hH⟩ := takeE_ne hte
      rw [hH]
      obtain ⟨E, hE⟩ : ∃ E, takeE l = E := ⟨_, rfl⟩
      rw [hE] at hte ⊢
      have hne : (E != 0) = true := by simpa using hte
      obtain ⟨hq0, hq1⟩ := HBOX.out w2 HKX2.out
      obtain ⟨kz0, kz1⟩ := hCells (a := 0) (b := 0) hq1
      have fz : ∀ j, w2.frozen? ⟨w.heap.size + 1, j, none⟩ = false := fun j => frozen_of_row _ _ _ _ _ hq1
      have hl1 := (Array.getElem?_eq_some_iff.1 hq1).1
      have HL : Hid (spawnH l m f = (0, 0) ∧ spawnE l m f = E) := Lib.hid ⟨by rw [spawnH, if_pos HBE.out]; exact hH, by rw [spawnE, if_pos HBE.out]; exact hE⟩
      have HEND : Hid (∀ w5, Kept (fun b => b = w.heap.size + 1 ∨ w2.heap.size ≤ b) w2 w5 → ∃ F', WldIn ZT zr w5 p F' (spawnL l m f) (· ∈ spawnR l rows m f) ∧ Kept F w w5 ∧ Moves w F F') := Lib.hid (fun w5 hk5 => by
        have e1 : spawnL l m f = takeL l := by rw [spawnL, if_pos HBE.out]
        have e2 : spawnR l rows m f = rows := by rw [spawnR, spawnE, if_pos HBE.out, if_neg (by rw [hE]; exact hte)]
        rw [e1, e2]
        refine ⟨growF F w1 w2, ⟨_, _, _, _, _, _, _, _, HW2.out.kept hk5 (fun b hb e => ?_)⟩, ((Kept.ofBelow HX.out).trans HKX2.out (fun _ h => .inl h)).trans hk5 (fun b e => ?_), fun b hb => hb.imp id (fun h => by omega)⟩
        · have := HW2.out.lt b hb
          rcases e with e | e
          · rcases hb with hb | hb
            · have := HLT.out _ hb; omega
            · omega
          · omega
        · right; omega)
      clear hte hH hE hL hq0 hq1
      go_wp2
      refine bodyPost_ret (v := .tuple #[.agg #[.int .i64 0, .int .i64 0], .int .i64 E]) (by simp [results, Tryz.results35, go_sem, hl1, kz0, kz1]) rfl ⟨by rw [HL.out.1, HL.out.2], HEND.out _ ?_⟩
      exact ((Kept.setCell (F := fun b => b = w.heap.size + 1 ∨ w2.heap.size ≤ b) _ (p := ⟨w.heap.size + 1, 0, none⟩) (.inl rfl) _).trans (Kept.setCell (F := fun b => b = w.heap.size + 1 ∨ w2.heap.size ≤ b) _ (p := ⟨w.heap.size + 1, 1, none⟩) (.inl rfl) _) (fun _ h => .inl h)).trans (Kept.alloc (fun b => b = w.heap.size + 1 ∨ w2.heap.size ≤ b) _ _) (fun _ h => .inl h)
  · as_aux_lemma =>
    obtain ⟨E, hE⟩ : ∃ E, bErr m [f 0, f 1, f 2, f 3, f 4, f 5, f 6, f 7] = E := ⟨_, rfl⟩
    rw [hE] at hbe ⊢
    have hne : (E != 0) = true := by simpa using hbe
    obtain ⟨hq0, hq1⟩ := HBOX.out w1 (Kept.ofBelow HX1.out)
    obtain ⟨kz0, kz1⟩ := hCells (a := 0) (b := 0) hq1
    have fz : ∀ j, w1.frozen? ⟨w.heap.size + 1, j, none⟩ = false := fun j => frozen_of_row _ _ _ _ _ hq1
    have hl1 := (Array.getElem?_eq_some_iff.1 hq1).1
    have hbe' : bErr m [f 0, f 1, f 2, f 3, f 4, f 5, f 6, f 7] ≠ 0 := by rw [hE]; exact hbe
    have HL : Hid (spawnH l m f = (0, 0) ∧ spawnE l m f = E) := Lib.hid ⟨by rw [spawnH, if_neg hbe'], by rw [spawnE, if_neg hbe']; exact hE⟩
    have HEND : Hid (∀ w5, Kept (fun b => b = w.heap.size + 1) w1 w5 → ∃ F', WldIn ZT zr w5 p F' (spawnL l m f) (· ∈ spawnR l rows m f) ∧ Kept F w w5 ∧ Moves w F F') := Lib.hid (fun w5 hk5 => by
      have e1 : spawnL l m f = l := by rw [spawnL, if_neg hbe']
      have e2 : spawnR l rows m f = rows := by rw [spawnR, spawnE, if_neg hbe', if_neg hbe']
      rw [e1, e2]
      exact ⟨F, (HW.out.later HX1.out).kept hk5 (fun b hb e => by have := HLT.out _ hb; omega), (((Kept.ofBelow HX.out).trans (Kept.ofBelow (F := F) HX1.out) (fun _ h => .inl h))).trans hk5 (fun b e => by right; omega), Moves.refl _ _⟩)
    clear hbe hbe' hE hq0 hq1
    go_wp2
    refine bodyPost_ret (v := .tuple #[.agg #[.int .i64 0, .int .i64 0], .int .i64 E]) (by simp [results, Tryz.results35, go_sem, kz0, kz1]) rfl ⟨by rw [HL.out.1, HL.out.2], HEND.out _ ?_⟩
    exact (Kept.setCell (F := fun b => b = w.heap.size + 1) _ (p := ⟨w.heap.size + 1, 0, none⟩) rfl _).trans (Kept.setCell (F := fun b => b = w.heap.size + 1) _ (p := ⟨w.heap.size + 1, 1, none⟩) rfl _) (fun _ h => .inl h)
end Go.Proofs.YtcmpaohefihijabGreatDoor

/- The reference's slots in memory; the contracts of its All, Is and Free. -/
namespace Go.Proofs.YtcmpaohefihijabGreatDoor
open Go.RowKit

def livesL (l : List (Int × Bool)) : List Bool := l.map (·.2)
theorem gensL_len (l : List (Int × Bool)) : (gensL l).length = l.length := by simp [gensL]
theorem livesL_len (l : List (Int × Bool)) : (livesL l).length = l.length := by simp [livesL]
theorem gensL_at (l : List (Int × Bool)) (k : Nat) : (gensL l).getD k 0 = (l.getD k slotZ).1 := by
  simp only [gensL, List.getD_eq_getElem?_getD, List.getElem?_map]
  cases l[k]? <;> rfl
theorem livesL_at (l : List (Int × Bool)) (k : Nat) : (livesL l).getD k false = (l.getD k slotZ).2 := by
  simp only [livesL, List.getD_eq_getElem?_getD, List.getElem?_map]
  cases l[k]? <;> rfl

/-- At block q, first in it, lie the reference's slots l, in the blocks G; 'rest': what else lies in block q. -/
def RefAt (w : World) (q : Nat) (T : TypeId) (rest : List Value) (G : Nat → Prop) (l : List (Int × Bool)) : Prop :=
  ∃ vg vl, w.heap[q]? = some (.cells (vg :: vl :: rest).toArray T (0, 0)) ∧ Owns elInt w 3 vg (gensL l) ∧ Owns elBool w 4 vl (livesL l) ∧ G q ∧
    (∀ k, vg.ownBlock = some k → G k ∧ k ≠ q) ∧ (∀ k, vl.ownBlock = some k → G k ∧ k ≠ q ∧ vg.ownBlock ≠ some k) ∧ (∀ k, G k → k < w.heap.size)

theorem RefAt.kept {w w' : World} {q : Nat} {T : TypeId} {rest : List Value} {G F : Nat → Prop} {l : List (Int × Bool)} (h : RefAt w q T rest G l) (hk : Kept F w w') (hf : ∀ k, G k → ¬ F k) : RefAt w' q T rest G l := by
  obtain ⟨vg, vl, hq, hg, hl, hG, hvg, hvl, hlt⟩ := h
  refine ⟨vg, vl, ?_, hg.kept hk (fun k e => hf k (hvg k e).1), hl.kept hk (fun k e => hf k (hvl k e).1), hG, hvg, hvl, fun k hk' => Nat.lt_of_lt_of_le (hlt k hk') hk.size⟩
  rw [hk.block q (hlt q hG) (hf q hG)]; exact hq
theorem RefAt.later {w w' : World} {q : Nat} {T : TypeId} {rest : List Value} {G : Nat → Prop} {l : List (Int × Bool)} (h : RefAt w q T rest G l) (hb : Below w.heap.size w w') : RefAt w' q T rest G l :=
  h.kept (F := fun _ => False) (Kept.ofBelow hb) (fun _ _ f => f)
theorem RefAt.lt {w : World} {q : Nat} {T : TypeId} {rest : List Value} {G : Nat → Prop} {l : List (Int × Bool)} (h : RefAt w q T rest G l) : ∀ k, G k → k < w.heap.size := by
  obtain ⟨vg, vl, hq, hg, hl, hG, hvg, hvl, hlt⟩ := h; exact hlt


/-- What the walks read: the two slices, their cells at k. -/
theorem RefAt.cells {w : World} {q : Nat} {T : TypeId} {rest : List Value} {G : Nat → Prop} {l : List (Int × Bool)} (h : RefAt w q T rest G l) :
    l.length ≤ 0 ∧ (∃ a c a' c', w.cell? ⟨q, 0, none⟩ = some (.slice a l.length c) ∧ w.cell? ⟨q, 1, none⟩ = some (.slice a' l.length c')) ∨
    ∃ b c b' c', w.cell? ⟨q, 0, none⟩ = some (.slice (some ⟨b, 0, none⟩) l.length c) ∧ w.cell? ⟨q, 1, none⟩ = some (.slice (some ⟨b', 0, none⟩) l.length c') ∧ b < w.heap.size ∧ b' < w.heap.size ∧ l.length ≤ c ∧ l.length ≤ c' ∧ c ≤ maxLen ∧ c' ≤ maxLen ∧
      (∀ k, k < l.length → w.cell? ⟨b, k, none⟩ = some (.int .i64 (l.getD k slotZ).1)) ∧ (∀ k, k < l.length → w.cell? ⟨b', k, none⟩ = some (.bool (l.getD k slotZ).2)) := by
  obtain ⟨vg, vl, hq, hg, hl, hG, hvg, hvl, hlt⟩ := h
  have q0 : w.cell? ⟨q, 0, none⟩ = some vg := by rw [cell_of_row _ _ _ _ _ _ hq]; simp
  have q1 : w.cell? ⟨q, 1, none⟩ = some vl := by rw [cell_of_row _ _ _ _ _ _ hq]; simp
  by_cases e : l.length ≤ 0
  · obtain ⟨a, c, rfl, _⟩ := hg.reads
    obtain ⟨a', c', rfl, _⟩ := hl.reads
    rw [gensL_len] at q0; rw [livesL_len] at q1
    exact .inl ⟨e, a, c, a', c', q0, q1⟩
  · rcases hg.form with ⟨rfl, e0⟩ | ⟨b, c, cur, rfl, _, hb, hn, hc, _⟩
    · have := gensL_len l; rw [e0] at this; simp at this; omega
    rcases hl.form with ⟨rfl, e0⟩ | ⟨b', c', cur', rfl, _, hb', hn', hc', _⟩
    · have := livesL_len l; rw [e0] at this; simp at this; omega
    obtain ⟨_, ⟨_, _, ea, e1⟩ | ⟨_, _, _, ea, _, _, _, h1⟩⟩ := hg.reads.open
    · rw [gensL_len] at e1; omega
    obtain ⟨_, ⟨_, _, ea', e1⟩ | ⟨_, _, _, ea', _, _, _, h1'⟩⟩ := hl.reads.open
    · rw [livesL_len] at e1; omega
    simp only [Value.slice.injEq, Option.some.injEq, Addr.mk.injEq] at ea ea'
    obtain ⟨⟨rfl, rfl, _⟩, _, rfl⟩ := ea
    obtain ⟨⟨rfl, rfl, _⟩, _, rfl⟩ := ea'
    rw [gensL_len] at q0 h1 hn
    rw [livesL_len] at q1 h1' hn'
    refine .inr ⟨b, c, b', c', q0, q1, hb, hb', hn, hn', hc, hc', fun k hk => ?_, fun k hk => ?_⟩
    · have := cells1 rfl h1 hk
      rw [show elInt.zero = 0 from rfl, gensL_at, Nat.zero_add] at this; exact this
    · have := cells1 rfl h1' hk
      rw [show elBool.zero = false from rfl, livesL_at, Nat.zero_add] at this; exact this

theorem mem_all_live (l : List (Int × Bool)) (a b : Int) : decide ((a, b) ∈ allL l) = liveB l a b := by
  rw [Bool.eq_iff_iff]; simp [mem_allL]
theorem RefAt.drew {w : World} {q : Nat} {T : TypeId} {rest : List Value} {G : Nat → Prop} {l : List (Int × Bool)} (h : RefAt w q T rest G l) : RefAt w.drew q T rest G l := h.kept (Kept.drew (fun _ => False) w) (fun _ _ f => f)

theorem gensL_set (l : List (Int × Bool)) (i : Nat) (x : Int × Bool) : gensL (l.set i x) = (gensL l).set i x.1 := by simp [gensL, List.map_set]
theorem livesL_set (l : List (Int × Bool)) (i : Nat) (x : Int × Bool) : livesL (l.set i x) = (livesL l).set i x.2 := by simp [livesL, List.map_set]

/-- Where there is a slot i. -/
theorem RefAt.open {w : World} {q : Nat} {T : TypeId} {rest : List Value} {G : Nat → Prop} {l : List (Int × Bool)} (h : RefAt w q T rest G l) {i : Nat} (hi : i < l.length) :
    ∃ g c g' c', w.heap[q]? = some (.cells (.slice (some ⟨g, 0, none⟩) l.length c :: .slice (some ⟨g', 0, none⟩) l.length c' :: rest).toArray T (0, 0)) ∧
      Owns elInt w 3 (.slice (some ⟨g, 0, none⟩) l.length c) (gensL l) ∧ Owns elBool w 4 (.slice (some ⟨g', 0, none⟩) l.length c') (livesL l) ∧ G q ∧ G g ∧ G g' ∧ g ≠ q ∧ g' ≠ q ∧ g ≠ g' ∧ (∀ k, G k → k < w.heap.size) ∧
      w.cell? ⟨q, 0, none⟩ = some (.slice (some ⟨g, 0, none⟩) l.length c) ∧ w.cell? ⟨q, 1, none⟩ = some (.slice (some ⟨g', 0, none⟩) l.length c') ∧
      w.cell? ⟨g, i, none⟩ = some (.int .i64 (l.getD i slotZ).1) ∧ w.cell? ⟨g', i, none⟩ = some (.bool (l.getD i slotZ).2) ∧ w.frozen? ⟨g, i, none⟩ = false ∧ w.frozen? ⟨g', i, none⟩ = false := by
  obtain ⟨vg, vl, hq, hg, hl, hG, hvg, hvl, hlt⟩ := h
  rcases hg.form with ⟨rfl, e0⟩ | ⟨b, c, cur, rfl, _, hb, hn, hc, _⟩
  · have := gensL_len l; rw [e0] at this; simp at this; omega
  rcases hl.form with ⟨rfl, e0⟩ | ⟨b', c', cur', rfl, _, hb', hn', hc', _⟩
  · have := livesL_len l; rw [e0] at this; simp at this; omega
  obtain ⟨x1, x2, _⟩ := OwnsF.open1 (E := elInt) rfl (show OwnsF elInt w 0 3 _ _ from hg) (k := i) (by rw [gensL_len]; exact hi)
  obtain ⟨y1, y2, _⟩ := OwnsF.open1 (E := elBool) rfl (show OwnsF elBool w 0 4 _ _ from hl) (k := i) (by rw [livesL_len]; exact hi)
  rw [show elInt.zero = 0 from rfl, gensL_at] at x1
  rw [show elBool.zero = false from rfl, livesL_at] at y1
  have q0 := cell_of_row w q 0 _ _ _ hq
  have q1 := cell_of_row w q 1 _ _ _ hq
  rw [gensL_len] at hq hg q0 q1
  rw [livesL_len] at hq hl q1
  simp at q0 q1
  exact ⟨b, c, b', c', hq, hg, hl, hG, (hvg b rfl).1, (hvl b' rfl).1, (hvg b rfl).2, (hvl b' rfl).2.1, fun e => (hvl b' rfl).2.2 (by rw [e]; rfl), hlt, q0, q1, x1, y1, x2, y2⟩

theorem Owns.stored1 {α : Type} {E : El α} (hE : E.size = 1) {w : World} {T : TypeId} {g n cap : Nat} {xs : List α} (h : Owns E w T (.slice (some ⟨g, 0, none⟩) n cap) xs) (k : Nat) (x : α) (u : Value)
    (hk : k < xs.length) (hx : E.enc x = (E.enc (xs.getD k E.zero)).set 0 u) : Owns E (w.setCell ⟨g, k, none⟩ u) T (.slice (some ⟨g, 0, none⟩) n cap) (xs.set k x) := by
  have := h.stored k 0 x u hk (by omega) hx
  rwa [hE, Nat.mul_one, Nat.add_zero] at this

/-- The flag, then the generation of slot i are written. -/
theorem refAt_store {w : World} {q g c g' c' i : Nat} {T : TypeId} {rest : List Value} {G : Nat → Prop} {l : List (Int × Bool)} {x : Int × Bool}
    (hq : w.heap[q]? = some (.cells (.slice (some ⟨g, 0, none⟩) l.length c :: .slice (some ⟨g', 0, none⟩) l.length c' :: rest).toArray T (0, 0)))
    (hg : Owns elInt w 3 (.slice (some ⟨g, 0, none⟩) l.length c) (gensL l)) (hl : Owns elBool w 4 (.slice (some ⟨g', 0, none⟩) l.length c') (livesL l))
    (hG : G q) (hGg : G g) (hGg' : G g') (n1 : g ≠ q) (n2 : g' ≠ q) (n3 : g ≠ g') (hlt : ∀ k, G k → k < w.heap.size) (hi : i < l.length) :
    RefAt ((w.setCell ⟨g', i, none⟩ (.bool x.2)).setCell ⟨g, i, none⟩ (.int .i64 x.1)) q T rest G (l.set i x) ∧ Kept G w ((w.setCell ⟨g', i, none⟩ (.bool x.2)).setCell ⟨g, i, none⟩ (.int .i64 x.1)) := by
  have k1 : Kept (fun k => k = g') w (w.setCell ⟨g', i, none⟩ (.bool x.2)) := Kept.setCell (F := fun k => k = g') w (p := ⟨g', i, none⟩) rfl _
  have k2 : Kept (fun k => k = g) (w.setCell ⟨g', i, none⟩ (.bool x.2)) ((w.setCell ⟨g', i, none⟩ (.bool x.2)).setCell ⟨g, i, none⟩ (.int .i64 x.1)) := Kept.setCell (F := fun k => k = g) _ (p := ⟨g, i, none⟩) rfl _
  refine ⟨⟨.slice (some ⟨g, 0, none⟩) l.length c, .slice (some ⟨g', 0, none⟩) l.length c', ?_, ?_, ?_, hG, ?_, ?_, fun k hk => by simpa using hlt k hk⟩, ?_⟩
  · rw [heap_setCell_other _ _ _ _ (Ne.symm n1), heap_setCell_other _ _ _ _ (Ne.symm n2)]; exact hq
  · have h1 := hg.kept k1 (fun k hk => by simp [Value.ownBlock] at hk; subst hk; exact n3)
    rw [gensL_set]
    exact h1.stored1 rfl i x.1 _ (by rw [gensL_len]; exact hi) rfl
  · have h1 := hl.stored1 rfl i x.2 (.bool x.2) (by rw [livesL_len]; exact hi) rfl
    rw [livesL_set]
    exact h1.kept k2 (fun k hk => by simp [Value.ownBlock] at hk; subst hk; exact Ne.symm n3)
  · intro k hk; simp [Value.ownBlock] at hk; subst hk; exact ⟨hGg, n1⟩
  · intro k hk; simp [Value.ownBlock] at hk; subst hk; exact ⟨hGg', n2, by simp [Value.ownBlock]; exact n3⟩
  · exact (k1.mono (G := G) (fun k e => by rw [e]; exact .inl hGg')).trans (k2.mono (G := G) (fun k e => by rw [e]; exact .inl hGg)) (fun _ h => .inl h)

end Go.Proofs.YtcmpaohefihijabGreatDoor

/- The contracts of Index, Contains, listOf, enliven and Load of package slots. -/
namespace Go.Proofs.YtcmpaohefihijabGreatDoor
set_option maxRecDepth 8000
open Go.RowKit

/-- what Index answers -/
def idxI (l : List (Int × Bool)) (x : Int × Bool) : Int := if x ∈ l then (l.idxOf x : Int) else -1
theorem idxI_mem {l : List (Int × Bool)} {x : Int × Bool} {k : Nat} (hk : k < l.length) (h : ∀ j, j < k → l.getD j slotZ ≠ x) (hx : l.getD k slotZ = x) : idxI l x = k := by
  have hm : x ∈ l := by rw [← hx]; exact memD hk
  rw [idxI, if_pos hm]
  congr 1
  have e : l[k] = x := by rw [← hx, List.getD_eq_getElem?_getD, List.getElem?_eq_getElem hk]; rfl
  have h1 : l.idxOf x < l.length := List.idxOf_lt_length_of_mem hm
  have h2 : l[l.idxOf x] = x := List.getElem_idxOf h1
  rcases Nat.lt_trichotomy (l.idxOf x) k with hlt | heq | hgt
  · exact absurd (by rw [List.getD_eq_getElem?_getD, List.getElem?_eq_getElem h1]; exact h2) (h _ hlt)
  · exact heq
  · have := List.not_of_lt_findIdx (p := (· == x)) (xs := l) hgt
    simp [e] at this
theorem idxI_nonneg {l : List (Int × Bool)} {x : Int × Bool} : decide (0 ≤ idxI l x) = decide (x ∈ l) := by
  unfold idxI; split <;> simp [*]

set_option maxHeartbeats 1000000 in
theorem slotIndex_any (v : Value) (l : List (Int × Bool)) (x : Int × Bool) (w : World) (h : Reads elSlot w v l) :
    Calls Tryz.prog 155 #[v, .agg #[.int .i64 x.1, .bool x.2]] w fun e w' => e = .returned (.int .i64 (idxI l x)) ∧ Below w.heap.size w w' := by
  obtain ⟨x1, x2⟩ := x
  obtain ⟨hm, h⟩ := h.open
  unfold maxLen at hm
  generalize hn : l.length = n at *
  have HN := Lib.hid hn
  clear hn
  rcases h with ⟨a, cap, rfl, hz⟩ | ⟨b, off, cap, rfl, hb, hlc, hcm, hc⟩
  all_goals
    go_enter Tryz.func155, Tryz.ntmps155
    go_wp2
    go_loopw [8] (fun i wr => ∃ k : Nat, k ≤ n ∧ i = .int .i64 k ∧ Hid (∀ j, j < k → l.getD j slotZ ≠ (x1, x2)) ∧ Hid (Below (w.heap.size + 1) (w.alloc (.cells #[.int .i64 x1, .bool x2] 142)) wr)) (fun i _ => n - (intOf i).toNat)
    case atStart => exact ⟨0, by omega, rfl, fun j hj => by omega, Below.refl _ _⟩
    case round =>
      obtain ⟨k, hk, rfl, hno, hB⟩ := hrel
      have HBW : Hid (Below w.heap.size w wr) := Lib.hid ((nb_alloc (Below.refl _ _) _).trans (hB.out.mono (by omega)))
      by_cases hlt : k < n
      · first
          | omega
          | (obtain ⟨c0, c1⟩ := cells2 rfl hc hlt
             clear hc
             have c0' : wr.cell? ⟨b, off + k * 2, none⟩ = some (.int .i64 (l.getD k slotZ).1) := by rw [HBW.out.cell (p := ⟨b, _, none⟩) hb, c0]; rfl
             have c1' : wr.cell? ⟨b, off + k * 2 + 1, none⟩ = some (.bool (l.getD k slotZ).2) := by rw [HBW.out.cell (p := ⟨b, _, none⟩) hb, c1]; rfl
             have k0 : wr.cell? ⟨w.heap.size, 0, none⟩ = some (.int .i64 x1) := by rw [hB.out.cell (p := ⟨w.heap.size, 0, none⟩) (by simp)]; simp
             have k1 : wr.cell? ⟨w.heap.size, 1, none⟩ = some (.bool x2) := by rw [hB.out.cell (p := ⟨w.heap.size, 1, none⟩) (by simp)]; simp
             clear c0 c1
             have HI : Hid (l.getD k slotZ = (x1, x2) → idxI l (x1, x2) = k) := Lib.hid (fun e => idxI_mem (by rw [HN.out]; exact hlt) hno.out e)
             generalize hy : l.getD k slotZ = y at *
             have HY := Lib.hid hy
             clear hy
             obtain ⟨y1, y2⟩ := y
             cases h1 : (x1 == y1) <;> cases x2 <;> cases y2
             all_goals
               go_wp2
               go_quiet (fail)
               go_wp2
               first
                 | (go_roundw
                    case rel => exact ⟨k + 1, by omega, by go_num, fun j hj => if e : j = k then by rw [e, HY.out]; intro e2; simp only [Prod.mk.injEq] at e2; obtain ⟨rfl, e3⟩ := e2; first | (simp at h1; done) | (cases e3; done) else hno.out j (by omega), nb_drewN hB.out⟩
                    case measure => simp [intOf]; omega)
                 | (go_ret
                    obtain rfl := eq_of_beq h1
                    exact ⟨ret_int (HI.out rfl).symm, nb_drewN HBW.out⟩))
      · obtain rfl : k = n := by omega
        go_wp2
        go_ret
        exact ⟨ret_int (by rw [idxI, if_neg (notMemD (by rw [HN.out]; exact hno.out))]), HBW.out⟩

set_option maxHeartbeats 400000 in
theorem slotContains_any (v : Value) (l : List (Int × Bool)) (x : Int × Bool) (w : World) (h : Reads elSlot w v l) :
    Calls Tryz.prog 143 #[v, .agg #[.int .i64 x.1, .bool x.2]] w fun e w' => e = .returned (.bool (decide (x ∈ l))) ∧ Below w.heap.size w w' := by
  have HI := Lib.hid (idxI_nonneg (l := l) (x := x))
  have HR := Lib.hid (h.later (nb_alloc (Below.refl _ _) (.cells #[.int .i64 x.1, .bool x.2] 142)))
  clear h
  go_enter Tryz.func143, Tryz.ntmps143
  go_wp2_with fail
  refine (slotIndex_any _ l x _ HR.out).mono ?_
  rintro e w' ⟨rfl, hb'⟩
  have HB := Lib.hid (nb_trans (nb_alloc (Below.refl _ _) _) hb')
  clear hb'
  generalize idxI l x = ii at *
  go_wp2
  all_goals (go_ret; exact ⟨ret_bool (by rw [← HI.out]), HB.out⟩)

theorem made_enc {α : Type} (E : El α) (z : Array Value) (hz : z.toList = E.enc E.zero) (n : Nat) : (madeCells z (n * E.size)).toList = (List.replicate n E.zero).flatMap E.enc := by
  have hs : z.size = E.size := by rw [← Array.length_toList, hz, E.len]
  apply List.ext_getElem?
  intro j
  by_cases hj : j < n * E.size
  · have hd : j / E.size < n := Nat.div_lt_of_lt_mul (by rwa [Nat.mul_comm])
    have hm := Nat.mod_lt j E.pos
    have he := enc_at E (List.replicate n E.zero) (j / E.size) (j % E.size) (by simpa using hd) hm
    rw [Nat.mul_comm, Nat.div_add_mod] at he
    have e0 : (List.replicate n E.zero).getD (j / E.size) E.zero = E.zero := by simp [List.getD_eq_getElem?_getD, hd]
    have hm' : j % z.size < z.size := by rw [hs]; exact hm
    have e1 : (madeCells z (n * E.size)).toList[j]? = some (z[j % z.size]!) := by simp [madeCells, hj]
    rw [he, e0, ← hz, e1, ← hs, getElem!_pos z _ hm', Array.getElem?_toList, Array.getElem?_eq_getElem hm']
  · rw [List.getElem?_eq_none (by simp [madeCells]; omega), List.getElem?_eq_none (by rw [length_enc]; simp; omega)]

theorem OwnsF.stored2 {w : World} {B : Nat} {T : TypeId} {g n cap : Nat} {xs : List (Int × Bool)} (h : OwnsF elSlot w B T (.slice (some ⟨g, 0, none⟩) n cap) xs) (k : Nat) (z : Int) (hk : k < xs.length) :
    OwnsF elSlot (w.setCell ⟨g, k * 2, none⟩ (.int .i64 z)) B T (.slice (some ⟨g, 0, none⟩) n cap) (xs.set k (z, (xs.getD k slotZ).2)) := h.stored k 0 _ (.int .i64 z) hk (by decide) rfl
theorem Owns.flagged {w : World} {T : TypeId} {g n cap : Nat} {xs : List (Int × Bool)} (h : Owns elSlot w T (.slice (some ⟨g, 0, none⟩) n cap) xs) (k : Nat) (b : Bool) (hk : k < xs.length) :
    Owns elSlot (w.setCell ⟨g, k * 2 + 1, none⟩ (.bool b)) T (.slice (some ⟨g, 0, none⟩) n cap) (xs.set k ((xs.getD k slotZ).1, b)) := h.stored k 1 _ (.bool b) hk (by decide) rfl

/-- the generations of the first k, in slots -/
def lsTo (gens : List Int) (k : Nat) : List (Int × Bool) := zeroL (gensTo (zeroL gens) k)
theorem lsTo_zero (gens : List Int) : lsTo gens 0 = List.replicate gens.length slotZ := by rw [lsTo, gensTo_zero, zeroL_len]; simp [zeroL, slotZ]
theorem lsTo_end (gens : List Int) : lsTo gens gens.length = zeroL gens := by
  have := gensTo_end (zeroL gens); rw [zeroL_len, gensL_zeroL] at this; rw [lsTo, this]
theorem lsTo_len (gens : List Int) (k : Nat) (h : k ≤ gens.length) : (lsTo gens k).length = gens.length := by rw [lsTo, zeroL_len, gensTo_len _ _ (by rw [zeroL_len]; exact h), zeroL_len]
theorem lsTo_next (gens : List Int) (k : Nat) (h : k < gens.length) : (lsTo gens k).set k (gens.getD k 0, ((lsTo gens k).getD k slotZ).2) = lsTo gens (k + 1) := by
  have e1 : ((lsTo gens k).getD k slotZ).2 = false := by
    simp only [lsTo, zeroL, List.getD_eq_getElem?_getD, List.getElem?_map]
    cases (gensTo (List.map (fun g => (g, false)) gens) k)[k]? <;> rfl
  rw [e1]
  have e2 := gensTo_next (zeroL gens) k (by rw [zeroL_len]; exact h)
  rw [zeroL_at] at e2
  rw [lsTo, lsTo, ← e2]
  simp [zeroL, List.map_set]

def ListPost (w : World) (zs : List Int) (e : Ending) (w' : World) : Prop :=
  (∃ v, e = .returned (.tuple #[v, .int .i64 (lstE zs)]) ∧ (lstE zs = 0 → ∃ g, v = .slice (some ⟨g, 0, none⟩) zs.length zs.length ∧ w.heap.size ≤ g ∧ OwnsF elSlot w' w.heap.size 142 v (zeroL zs))) ∧ Below w.heap.size w w'
theorem ListPost.bad {w w' : World} {zs : List Int} {v : Value} {c : Int} (h : lstE zs = c) (hc : c ≠ 0) (hb : Below w.heap.size w w') : ListPost w zs (.returned (.tuple #[v, .int .i64 c])) w' :=
  ⟨⟨v, by rw [h], fun e => absurd (h.symm.trans e) hc⟩, hb⟩

set_option maxHeartbeats 2000000 in
theorem listOf_any (v : Value) (zs : List Int) (w : World) (h : Ints w v zs) : Calls Tryz.prog 109 #[v] w (ListPost w zs) := by
  obtain ⟨i0, hi, hz0, hz1, hz2⟩ := info_parts infoSlot
  obtain ⟨hm, h⟩ := h.open
  unfold maxLen at hm
  by_cases hlen : zs.length ≤ 60
  · have HZ := Lib.hid (lsTo_zero zs)
    have HEND := Lib.hid (lsTo_end zs)
    have HLEN := Lib.hid (lsTo_len zs)
    have HNX := Lib.hid (lsTo_next zs)
    generalize hn : zs.length = n at *
    have HN := Lib.hid hn
    clear hn
    rcases h with ⟨a, cap, rfl, hz⟩ | ⟨b, off, cap, rfl, hb, hlc, hcm, hc⟩
    all_goals
      go_enter Tryz.func109, Tryz.ntmps109
      go_wp2_with (first | (at_make; refine wpList_make_full _ rfl _ _ 65 rfl w.heap.size 142 i0 (.agg #[.int .i64 0, .bool false]) 2 Tryz.underlying65 hi hz0 hz1 .i64 .i64 _ _ n rfl rfl rfl rfl ?c1 ?c2 ?c3 ?_))
      case c1 => rw [hz2]; omega
      case c2 => unfold maxLen; omega
      case c3 => exact Nat.le_refl _
      intro w1 hown hgr
      have hb1 : Below w.heap.size w w1 := (Below.refl _ _).grown hgr (Nat.le_refl _) (fun k hk => by cases hk)
      clear hgr
      have HO : Hid (OwnsF elSlot w1 w.heap.size 142 (.slice (some ⟨w.heap.size, 0, none⟩) n n) (lsTo zs 0)) := Lib.hid (by
        unfold OwnsF; rw [HZ.out, List.length_replicate, show slotZ = elSlot.zero from rfl, ← made_enc elSlot #[.int .i64 0, .bool false] rfl n]; exact hown)
      have HB1 := Lib.hid hb1
      clear hown hb1
      go_wp2
      go_loopw [15] (fun i wr => ∃ k : Nat, k ≤ n ∧ i = .int .i64 k ∧ Hid (∀ j, j < k → okG (zs.getD j 0) = true) ∧ Hid (OwnsF elSlot wr w.heap.size 142 (.slice (some ⟨w.heap.size, 0, none⟩) n n) (lsTo zs k)) ∧ Hid (Below w.heap.size w wr)) (fun i _ => n - (intOf i).toNat)
      case atStart => exact ⟨0, by omega, rfl, fun j hj => by omega, HO.out, HB1.out⟩
      case round =>
        obtain ⟨k, hk, rfl, hno, hO, hB⟩ := hrel
        by_cases hltk : k < n
        · first
            | omega
            | (have c0 : wr.cell? ⟨b, off + k, none⟩ = some (.int .i64 (zs.getD k 0)) := by rw [hB.out.cell (p := ⟨b, _, none⟩) hb]; exact hc k hltk
               clear hc
               have HBAD : Hid (okG (zs.getD k 0) = false → lstE zs = 1) := Lib.hid (fun h => lstE_arg (by rw [HN.out]; exact hlen) (by rw [HN.out]; exact hltk) h)
               have hln := HLEN.out k hk
               obtain ⟨g', cap', eg, hgw, -, x0, x1, hfz⟩ := hO.out.owns.open2 rfl (k := k) (by omega)
               simp only [Value.slice.injEq, Option.some.injEq, Addr.mk.injEq, and_true] at eg
               obtain ⟨rfl, -, -⟩ := eg
               have x0' : wr.cell? ⟨w.heap.size, k * 2, none⟩ = some (.int .i64 ((lsTo zs k).getD k slotZ).1) := x0
               have f0 := hfz (k * 2)
               have HST := Lib.hid (fun (z : Int) => hO.out.stored2 k z (by omega))
               have HNXK := Lib.hid (HNX.out k hltk)
               clear hln hfz x0 x1
               generalize ((lsTo zs k).getD k slotZ).1 = y0 at *
               generalize hg : zs.getD k 0 = y at *
               have HY := Lib.hid hg
               clear hg
               cases hy : okG y
               · have HE := Lib.hid (HBAD.out hy)
                 rcases inB_f hy with hy' | hy'
                 all_goals
                   have HYY := Lib.hid hy
                   clear hy
                   go_wp2
                   go_ret2
                   exact ListPost.bad HE.out (by decide) hB.out
               · obtain ⟨y1, y2⟩ := inB_t hy
                 have HYY := Lib.hid hy
                 clear hy
                 go_wp2
                 go_roundw
                 case rel => exact ⟨k + 1, by omega, by go_num, fun j hj => if e : j = k then by rw [e, HY.out]; exact HYY.out else hno.out j (by omega), by rw [← HNXK.out]; exact HST.out y, hB.out.setCell (p := ⟨w.heap.size, _, none⟩) (Nat.le_refl _) _⟩
                 case measure => simp [intOf]; omega)
        · obtain rfl : k = n := by omega
          have HE := Lib.hid (lstE_ok (by rw [HN.out]; exact hlen) (by rw [HN.out]; exact hno.out))
          go_wp2
          go_ret2
          exact ⟨⟨.slice (some ⟨w.heap.size, 0, none⟩) k k, by rw [HE.out]; rfl, fun _ => ⟨_, by rw [HN.out], Nat.le_refl _, by rw [← HEND.out]; exact hO.out⟩⟩, hB.out⟩
  · have HE := Lib.hid (lstE_large hlen)
    generalize zs.length = n at *
    rcases h with ⟨a, cap, rfl, hz⟩ | ⟨b, off, cap, rfl, hb, hlc, hcm, hc⟩
    all_goals first
      | (exfalso; omega)
      | (go_enter Tryz.func109, Tryz.ntmps109
         go_wp2
         go_ret2
         exact ListPost.bad HE.out (by decide) (Below.refl _ _))

def EnlPost (w : World) (v : Value) (g : Nat) (gens live : List Int) (e : Ending) (w' : World) : Prop :=
  e = .returned (.int .i64 (enlE gens live)) ∧ (enlE gens live = 0 → Owns elSlot w' 142 v (mkL gens live)) ∧ Kept (fun k => k = g) w w'
theorem EnlPost.bad {w w' : World} {v : Value} {g : Nat} {gens live : List Int} {c : Int} (h : enlE gens live = c) (hc : c ≠ 0) (hb : Kept (fun k => k = g) w w') : EnlPost w v g gens live (.returned (.int .i64 c)) w' :=
  ⟨by rw [h], fun e => absurd (h.symm.trans e) hc, hb⟩

set_option maxHeartbeats 4000000 in
theorem enliven_any (g : Nat) (u : Value) (gens live : List Int) (w : World) (hv : Owns elSlot w 142 (.slice (some ⟨g, 0, none⟩) gens.length gens.length) (zeroL gens)) (hl : Ints w u live) (hu : 0 < live.length → ∀ k, u.ownBlock = some k → k ≠ g) :
    Calls Tryz.prog 110 #[.slice (some ⟨g, 0, none⟩) gens.length gens.length, u] w (EnlPost w (.slice (some ⟨g, 0, none⟩) gens.length gens.length) g gens live) := by
  have hR := Lib.hid hv.reads
  have HV := Lib.hid hv
  have HGL := Lib.hid (zeroL_len gens)
  obtain ⟨hm, h⟩ := hl.open
  unfold maxLen at hm
  generalize hn : live.length = n at *
  have HN := Lib.hid hn
  generalize hng : gens.length = m at *
  have HM := Lib.hid hng
  clear hn hng hv hl
  rcases h with ⟨a, cap, rfl, hz⟩ | ⟨b, off, cap, rfl, hb, hlc, hcm, hc⟩
  all_goals
    go_enter Tryz.func110, Tryz.ntmps110
    go_wp2
    go_loop [11] (fun i => ∃ k : Nat, k ≤ n ∧ i = .int .i64 k ∧ Hid (∀ j, j < k → inB (live.getD j 0) 0 (gens.length - 1) = true)) (fun i => n - (intOf i).toNat)
    case atStart => exact ⟨0, by omega, rfl, fun j hj => by omega⟩
    case round =>
      obtain ⟨k, hk, rfl, hno⟩ := hrel
      by_cases hlt : k < n
      · first
          | omega
          | (have hck := hc k hlt
             clear hc
             have HBAD : Hid (inB (live.getD k 0) 0 (gens.length - 1) = false → enlE gens live = 5) := Lib.hid (fun h => enlE_none (by rw [HN.out]; exact hlt) h)
             generalize hg : live.getD k 0 = y at *
             have HY := Lib.hid hg
             clear hg
             have HYZ : Hid (inB y 0 ((zeroL gens).length - 1) = inB y 0 (gens.length - 1)) := Lib.hid (by rw [HGL.out, HM.out])
             cases hy : inB y 0 (gens.length - 1)
             all_goals
               have HYY := Lib.hid hy
               clear hy
               go_wp2_with fail
               refine (isSlot_is hR.out (HYZ.out.trans HYY.out)).mono ?_
               rintro e w' ⟨rfl, rfl⟩
               go_wp2
             · go_ret
               exact EnlPost.bad (HBAD.out HYY.out) (by decide) (Kept.refl _ _)
             · go_round
               case rel => exact ⟨k + 1, by omega, by go_num, fun j hj => if e : j = k then by rw [e, HY.out]; exact HYY.out else hno.out j (by omega)⟩
               case measure => simp [intOf]; omega)
      · obtain rfl : k = n := by omega
        have HALL : Hid (∀ j, j < live.length → inB (live.getD j 0) 0 (gens.length - 1) = true) := Lib.hid (by rw [HN.out]; exact hno.out)
        clear hno
        go_wp2
        go_loopw [22] (fun i wr => ∃ j : Nat, j ≤ k ∧ i = .int .i64 j ∧ Hid ((live.take j).Nodup) ∧ Hid (Owns elSlot wr 142 (.slice (some ⟨g, 0, none⟩) m m) (mkL gens (live.take j))) ∧ Hid (Kept (fun q => q = g) w wr)) (fun i _ => k - (intOf i).toNat)
        case atStart => exact ⟨0, by omega, rfl, by simp [Hid], by rw [List.take_zero, mkL_nil]; exact HV, Kept.refl _ _⟩
        case round =>
          obtain ⟨j, hj, rfl, hnd, hO, hK⟩ := hrel
          by_cases hjk : j < k
          · first
              | omega
              | (have hck : wr.cell? ⟨b, off + j, none⟩ = some (.int .i64 (live.getD j 0)) := hK.out.cellS (p := ⟨b, off + j, none⟩) (hc j hjk) (hu (by omega) b rfl)
                 clear hc
                 have hyk := inB_t (HALL.out j (by rw [HN.out]; exact hjk))
                 have HT := Lib.hid (take_snoc (show j < live.length by rw [HN.out]; exact hjk))
                 have HTW : Hid (live.getD j 0 ∈ live.take j → enlE gens live = 6) := Lib.hid (fun h => enlE_twice HALL.out (by rw [HN.out]; exact hjk) h)
                 generalize hg : live.getD j 0 = y at *
                 clear hg
                 rw [HM.out] at hyk
                 obtain ⟨y0, y1⟩ := hyk
                 obtain ⟨i, rfl⟩ := Int.eq_ofNat_of_zero_le y0
                 have hin : i < m := by omega
                 obtain ⟨g', cap', eg, hgw, -, x0, x1, hfz⟩ := hO.out.open2 rfl (k := i) (by rw [mkL_len, HM.out]; exact hin)
                 simp only [Value.slice.injEq, Option.some.injEq, Addr.mk.injEq, and_true] at eg
                 obtain ⟨rfl, -, -⟩ := eg
                 rw [show elSlot.zero = slotZ from rfl, mkL_at (by rw [HM.out]; exact hin)] at x0 x1
                 have x1' : wr.cell? ⟨g, i * 2 + 1, none⟩ = some (.bool (decide ((i : Int) ∈ live.take j))) := x1
                 have f1 := hfz (i * 2 + 1)
                 have HST := Lib.hid (hO.out.flagged i true (by rw [mkL_len, HM.out]; exact hin))
                 rw [mkL_set (by rw [HM.out]; exact hin), ← HT.out] at HST
                 clear hfz x0 x1
                 cases hd : decide ((i : Int) ∈ live.take j)
                 all_goals
                   rw [hd] at x1'
                   have HD := Lib.hid hd
                   clear hd
                   go_wp2
                 · go_roundw
                   case rel => exact ⟨j + 1, by omega, by go_num, by rw [HT.out]; exact nodup_snoc hnd.out (of_decide_eq_false HD.out), HST, hK.out.trans (Kept.setCell (F := fun q => q = g) _ (p := ⟨g, _, none⟩) rfl _) (fun _ h => .inl h)⟩
                   case measure => simp [intOf]; omega
                 · go_ret
                   exact EnlPost.bad (HTW.out (of_decide_eq_true HD.out)) (by decide) hK.out)
          · obtain rfl : j = k := by omega
            have HL : Hid (live.take j = live) := Lib.hid (List.take_of_length_le (by rw [HN.out]; exact Nat.le_refl _))
            rw [HL.out] at hnd hO
            have HE := Lib.hid (fun b hb => enlE_end (b := b) HALL.out hnd.out hb)
            cases hd : decide (((1000000 : Int), true) ∈ mkL gens live)
            all_goals
              have HD := Lib.hid hd
              clear hd
              go_wp2_with fail
              refine (slotContains_any _ (mkL gens live) (1000000, true) _ hO.out.reads).mono ?_
              rintro e w' ⟨rfl, hb'⟩
              rw [HD.out]
              have HB := Lib.hid hb'
              clear hb'
              go_wp2
              go_ret
            · exact ⟨ret_int (HE.out _ HD.out).symm, fun _ => hO.out.later HB.out, hK.out.trans (Kept.ofBelow (F := fun q => q = g) HB.out) (fun _ h => .inl h)⟩
            · exact EnlPost.bad (HE.out _ HD.out) (by decide) (hK.out.trans (Kept.ofBelow (F := fun q => q = g) HB.out) (fun _ h => .inl h))

def LoadPost (w : World) (gens live : List Int) (e : Ending) (w' : World) : Prop :=
  ∃ u, e = .returned (.tuple #[u, .int .i64 (ldE gens live)]) ∧ Below w.heap.size w w' ∧ (ldE gens live ≠ 0 → u = .pointer none) ∧
    (ldE gens live = 0 → ∃ p F, u = .pointer (some ⟨p, 0, none⟩) ∧ SlotsAt w' p F (mkL gens live) ∧ ∀ k, F k → w.heap.size ≤ k)
theorem LoadPost.bad {w w' : World} {gens live : List Int} {c : Int} (h : ldE gens live = c) (hc : c ≠ 0) (hb : Below w.heap.size w w') : LoadPost w gens live (.returned (.tuple #[.pointer none, .int .i64 c])) w' :=
  ⟨_, by rw [h], hb, fun _ => rfl, fun e => absurd (h.symm.trans e) hc⟩
theorem LoadPost.good {w w' : World} {gens live : List Int} {p : Nat} {F : Nat → Prop} (h : ldE gens live = 0) (hb : Below w.heap.size w w') (hs : SlotsAt w' p F (mkL gens live)) (hF : ∀ k, F k → w.heap.size ≤ k) : LoadPost w gens live (.returned (.tuple #[.pointer (some ⟨p, 0, none⟩), .int .i64 0])) w' :=
  ⟨_, by rw [h], hb, fun e => absurd h e, fun _ => ⟨p, F, rfl, hs, hF⟩⟩
theorem Ints.blk {w : World} {v : Value} {zs : List Int} (h : Ints w v zs) (hp : 0 < zs.length) {k : Nat} (hk : v.ownBlock = some k) : k < w.heap.size := by
  obtain ⟨a, cap, rfl, _, _, h⟩ := h
  obtain ⟨b, off, rfl, hb, _⟩ := h 0 hp
  simp [Value.ownBlock] at hk; omega

set_option maxHeartbeats 1000000 in
theorem load_any (u v : Value) (gens live : List Int) (w : World) (hg : Ints w u gens) (hl : Ints w v live) : Calls Tryz.prog 74 #[u, v] w (LoadPost w gens live) := by
  have HG := Lib.hid hg
  have HL := Lib.hid hl
  clear hg hl
  go_enter Tryz.func74, Tryz.ntmps74
  go_wp2_with fail
  refine (listOf_any _ gens _ HG.out).mono ?_
  rintro e w1 ⟨⟨v1, rfl, h1⟩, hb1⟩
  have HB1 := Lib.hid hb1
  have H1 := Lib.hid h1
  clear hb1 h1
  cases he : (lstE gens != 0)
  · have he0 : lstE gens = 0 := by simpa using he
    obtain ⟨g, rfl, hgw, ho⟩ := H1.out he0
    have HLD := Lib.hid (ldE_ok (l := live) he0)
    have HO := Lib.hid ho
    rw [he0]
    clear he he0 ho H1
    go_wp2_with fail
    refine (enliven_any g _ gens live _ HO.out.owns (HL.out.later HB1.out) (fun hp k hk => by have := HL.out.blk hp hk; omega)).mono ?_
    rintro e w2 ⟨rfl, h2, hk2⟩
    have H2 := Lib.hid h2
    have HB2 : Hid (Below w.heap.size w w2) := Lib.hid (HB1.out.trans (hk2.below HB1.out.size (fun k e => by omega)))
    have HG2 : Hid (g < w2.heap.size) := Lib.hid (by have := HO.out.owns.lt (k := g) rfl; have := hk2.size; omega)
    clear h2 hk2
    cases he : (enlE gens live != 0)
    · have he0 : enlE gens live = 0 := by simpa using he
      have HO2 := Lib.hid (H2.out he0)
      have HZ := Lib.hid (HLD.out.trans he0)
      rw [he0]
      clear he he0 H2
      go_wp2
      go_ret2
      refine LoadPost.good HZ.out (nb_alloc HB2.out _) (p := w2.heap.size) (F := fun k => k = g ∨ k = w2.heap.size) ⟨.slice (some ⟨g, 0, none⟩) gens.length gens.length, heap_alloc_new w2 _, HO2.out.later (nb_alloc (Below.refl _ _) _), .inr rfl, ?_, ?_⟩ ?_
      · intro k hk; simp [Value.ownBlock] at hk; subst hk; exact ⟨.inl rfl, by have := HG2.out; omega⟩
      · intro k hk; have := HG2.out; simp; omega
      · intro k hk; have := HB2.out.size; rcases hk with rfl | rfl <;> omega
    · have hne : enlE gens live ≠ 0 := by simpa using he
      have HZ := Lib.hid HLD.out
      have HNE := Lib.hid hne
      generalize enlE gens live = c at *
      clear hne
      go_wp2
      go_ret2
      exact LoadPost.bad HZ.out HNE.out HB2.out
  · have hne : lstE gens ≠ 0 := by simpa using he
    have HZ := Lib.hid (ldE_bad (l := live) hne)
    have HNE := Lib.hid hne
    clear H1
    generalize lstE gens = c at *
    clear hne
    go_wp2
    go_ret2
    exact LoadPost.bad HZ.out HNE.out HB1.out
end Go.Proofs.YtcmpaohefihijabGreatDoor

/- The contracts of slotsOf and Load of package world. -/
namespace Go.Proofs.YtcmpaohefihijabGreatDoor
set_option maxRecDepth 8000
open Go.RowKit

set_option maxHeartbeats 2000000 in
theorem slotsOf_any (v : Value) (rs : List Rw) (w : World) (h : Reads elRow w v rs) (h60 : rs.length ≤ 60) :
    Calls Tryz.prog 75 #[v] w fun e w' => ∃ v', e = .returned v' ∧ OwnsF elInt w' w.heap.size 3 v' (sNums rs) ∧ Below w.heap.size w w' := by
  obtain ⟨i0, hi, hz0, hz1, hz2⟩ := info_parts infoInt
  obtain ⟨hm, hop⟩ := h.open
  have HEND := Lib.hid (gensTo_end (sloL rs))
  have HZ := Lib.hid (gensTo_zero (sloL rs))
  have HLEN := Lib.hid (gensTo_len (sloL rs))
  have HNX := Lib.hid (gensTo_next (sloL rs))
  have HSL := Lib.hid (fun k (hk : k < rs.length) => sloL_at hk)
  rw [sloL_len] at HEND HZ HLEN HNX
  rw [gensL_sloL] at HEND
  generalize hn : rs.length = n at *
  clear hn h
  rcases hop with ⟨a, cap, rfl, hz⟩ | ⟨b, off, cap, rfl, hb, hlc, hcm, hc⟩
  all_goals
    go_enter Tryz.func75, Tryz.ntmps75
    go_wp2_with (first | (at_make; refine wpList_make_full _ rfl _ _ 27 rfl w.heap.size 3 i0 (.int .i64 0) 1 Tryz.underlying27 hi hz0 hz1 .i64 .i64 _ _ n rfl rfl rfl rfl ?c1 ?c2 ?c3 ?_))
    case c1 => rw [hz2]; omega
    case c2 => unfold maxLen; omega
    case c3 => exact Nat.le_refl _
    intro w1 hown hgr
    have hb1 : Below w.heap.size w w1 := (Below.refl _ _).grown hgr (Nat.le_refl _) (fun k hk => by cases hk)
    clear hgr
    have HO : Hid (OwnsF elInt w1 w.heap.size 3 (.slice (some ⟨w.heap.size, 0, none⟩) n n) (gensTo (sloL rs) 0)) := Lib.hid (by
      unfold OwnsF; rw [HZ.out, List.length_replicate, flatMap_int, List.map_replicate, ← toList_madeCells_one, ← Nat.mul_one n]
      rw [Nat.mul_one]; exact hown)
    have HB1 := Lib.hid hb1
    clear hown hb1
    go_wp2
    go_loopw [11] (fun i wr => ∃ k : Nat, k ≤ n ∧ i = .int .i64 k ∧ Hid (OwnsF elInt wr w.heap.size 3 (.slice (some ⟨w.heap.size, 0, none⟩) n n) (gensTo (sloL rs) k)) ∧ Hid (Below w.heap.size w wr)) (fun i _ => n - (intOf i).toNat)
    case atStart => exact ⟨0, by omega, rfl, HO.out, HB1.out⟩
    case round =>
      obtain ⟨k, hk, rfl, hO, hB⟩ := hrel
      by_cases hltk : k < n
      · first
          | omega
          | (have hcr : ∀ jj, jj < 11 → wr.cell? ⟨b, off + k * 11 + jj, none⟩ = (elRow.enc (rs.getD k rowZ))[jj]? := fun jj hjj => by rw [hB.out.cell (p := ⟨b, _, none⟩) hb]; exact hc k hltk jj hjj
             clear hc
             have hln := HLEN.out k hk
             obtain ⟨hcg, hfg, hwr⟩ := hO.out.open1 rfl (k := k) (by omega)
             have HNXK := Lib.hid (HNX.out k hltk)
             rw [HSL.out k hltk] at HNXK
             have HST := Lib.hid (fun (W : World) (hW : OwnsF elInt W w.heap.size 3 (.slice (some ⟨w.heap.size, 0, none⟩) n n) (gensTo (sloL rs) k)) (z : Int) => hW.stored1 rfl k z (.int .i64 z) (by omega) rfl)
             clear hln
             have hbw : b < wr.heap.size := Nat.lt_of_lt_of_le hb hB.out.size
             generalize rs.getD k rowZ = r at *
             obtain ⟨c0, c1, c2, c3, c4, c5, c6, c7, c8, c9, c10⟩ := lRow (O := off + k * 11) (r := r) hcr
             clear hcr
             go_wp2
             go_roundw
             case rel => exact ⟨k + 1, by omega, by go_num, by rw [← HNXK.out]; exact (HST.out _ hO.out r.s).later (nb_alloc (Below.refl _ _) _), nb_alloc (hB.out.setCell (p := ⟨w.heap.size, _, none⟩) (Nat.le_refl _) _) _⟩
             case measure => simp [intOf]; omega)
      · obtain rfl : k = n := by omega
        go_wp2
        go_ret
        exact ⟨_, rfl, by rw [← HEND.out]; exact hO.out, hB.out⟩

/-- A world of loaded slots, with no rows yet. -/
theorem WldAt.ofSlots {w : World} {p : Nat} {F : Nat → Prop} {l : List (Int × Bool)} (h : SlotsAt w p F l) : ∃ v, w.cell? ⟨p, 0, none⟩ = some v ∧ p < w.heap.size ∧
    WldAt (w.alloc (.cells #[v, .map none, .map none] 71)) w.heap.size (fun b => b = w.heap.size ∨ F b) l (fun _ => False) := by
  obtain ⟨v, hp, ho, hF, hv, hlt⟩ := h
  refine ⟨v, by rw [cell_of_row _ _ _ _ _ _ hp]; simp, hlt p hF, fun _ => -1, .map none, .map none, [], fun _ => 0, fun _ => [], [], fun _ => (0, 0), ⟨⟨v, heap_alloc_new w _, ho.later (nb_alloc (Below.refl _ _) _), ⟨.inl rfl, rfl⟩, fun k e => ⟨⟨.inr (hv k e).1, rfl⟩, fun e2 => by have := hlt k (hv k e).1; omega⟩, fun k e => ?_⟩, .inl ⟨rfl, rfl, rfl, rfl⟩, fun k hk => by simp at hk, Laid.nil _, fun b e => ?_⟩⟩
  · rcases e.1 with e | e
    · simp [e]
    · have := hlt k e; simp; omega
  · rcases e with e | e
    · simp [e]
    · have := hlt b e; simp; omega

def WLoadPost (w : World) (gens : List Int) (rs : List Rw) (e : Ending) (w' : World) : Prop :=
  ∃ u, e = .returned (.tuple #[u, .int .i64 (wldE gens rs)]) ∧ Below w.heap.size w w' ∧ (wldE gens rs ≠ 0 → u = .pointer none) ∧
    (wldE gens rs = 0 → ∃ p F, u = .pointer (some ⟨p, 0, none⟩) ∧ WldAt w' p F (mkL gens (sNums rs)) (· ∈ rs) ∧ ∀ k, F k → w.heap.size ≤ k)
theorem WLoadPost.bad {w w' : World} {gens : List Int} {rs : List Rw} {c : Int} (h : wldE gens rs = c) (hc : c ≠ 0) (hb : Below w.heap.size w w') : WLoadPost w gens rs (.returned (.tuple #[.pointer none, .int .i64 c])) w' :=
  ⟨_, by rw [h], hb, fun _ => rfl, fun e => absurd (h.symm.trans e) hc⟩

set_option maxHeartbeats 4000000 in
theorem worldLoad_any (u v : Value) (gens : List Int) (rs : List Rw) (w : World) (hg : Ints w u gens) (hr : Reads elRow w v rs) : Calls Tryz.prog 46 #[u, v] w (WLoadPost w gens rs) := by
  obtain ⟨hm, hop⟩ := hr.open
  unfold maxLen at hm
  have HR := Lib.hid hr
  have HG := Lib.hid hg
  obtain ⟨n, hn⟩ : ∃ n, rs.length = n := ⟨_, rfl⟩
  have HN := Lib.hid hn
  rw [hn] at hm hop
  clear hr hg hn
  by_cases h60 : n ≤ 60
  · have h60' : decide ((60 : Int) < (n : Int)) = false := by rw [decide_eq_false_iff_not]; omega
    have HW60 : Hid (wldE gens rs = if ldE gens (sNums rs) = 0 then rowsE (mkL gens (sNums rs)) rs else ldE gens (sNums rs)) := Lib.hid (by rw [wldE, HN.out, if_pos h60])
    have HV : Hid (Reads elRow w v rs) := HR
    rcases hop with ⟨a, cap, rfl, hz⟩ | ⟨b, off, cap, rfl, hb, hlc, hcm, hc⟩
    all_goals
      go_enter Tryz.func46, Tryz.ntmps46
      go_wp2_with fail
      refine (slotsOf_any _ rs _ HR.out (by rw [HN.out]; exact h60)).mono ?_
      rintro e w1 ⟨v1, rfl, ho1, hb1⟩
      have HO1 := Lib.hid (Ints.ofReads ho1.reads)
      have HB1 := Lib.hid hb1
      clear ho1 hb1
      go_wp2_with fail
      refine (load_any _ _ gens (sNums rs) _ (HG.out.later HB1.out) HO1.out).mono ?_
      rintro e w2 ⟨u2, rfl, hb2, hbad, hgood⟩
      have HB2 := Lib.hid (nb_trans HB1.out hb2)
      obtain ⟨x, hx⟩ : ∃ x, ldE gens (sNums rs) = x := ⟨_, rfl⟩
      rw [hx] at hbad hgood HW60 ⊢
      by_cases h0 : x = 0
      · subst h0
        rw [if_pos rfl] at HW60
        obtain ⟨p0, F0, rfl, hs0, hF0⟩ := hgood rfl
        obtain ⟨v0, hc0, hp0, hw0⟩ := WldAt.ofSlots hs0
        have HF0 : Hid (∀ b, b = w2.heap.size ∨ F0 b → w.heap.size ≤ b) := Lib.hid (fun b e => by
          rcases e with e | e
          · have := HB2.out.size; omega
          · have := hF0 b e; have := HB1.out.size; omega)
        have HLOK : Hid (SlotOk (mkL gens (sNums rs))) := Lib.hid (mkL_ok hx)
        have HND := Lib.hid (ldE_zero hx)
        obtain ⟨l, hll⟩ : ∃ l, mkL gens (sNums rs) = l := ⟨_, rfl⟩
        rw [hll] at hw0 HLOK HW60
        have HLL := Lib.hid hll
        clear hll
        have HW0 := Lib.hid hw0
        clear hs0
        have HBA : Hid (Below w.heap.size w (w2.alloc (.cells #[v0, .map none, .map none] 71))) := Lib.hid (nb_alloc HB2.out _)
        clear hx hbad hgood hF0 hw0 hb2
        go_wp2
        clear hc0 hp0
        generalize hpn : w2.heap.size = pn at *
        clear hpn
        generalize w2.alloc (.cells #[v0, .map none, .map none] 71) = w3 at *
        go_loopw [32] (fun i wr => ∃ (t : Nat) (F : Nat → Prop), t ≤ n ∧ i = .int .i64 t ∧ Hid (WldAt wr pn F l (· ∈ rs.take t)) ∧ Hid (∀ x ∈ rs.take t, goodR l x) ∧ Hid (∀ b, F b → w.heap.size ≤ b) ∧ Hid (Below w.heap.size w wr)) (fun i _ => n - (intOf i).toNat)
        case atStart => exact ⟨0, _, by omega, rfl, HW0.out.congr (fun r => by simp), fun x hx => by simp at hx, HF0, HBA⟩
        case round =>
          obtain ⟨t, F, htn, rfl, hW, hGd, hF, hB⟩ := hrel
          by_cases hlt : t < n
          · first
              | omega
              | (have hcr : ∀ jj, jj < 11 → wr.cell? ⟨b, off + t * 11 + jj, none⟩ = (elRow.enc (rs.getD t rowZ))[jj]? := fun jj hjj => by rw [hB.out.cell (p := ⟨b, _, none⟩) hb]; exact hc t hlt jj hjj
                 have htl : t < rs.length := by rw [HN.out]; exact hlt
                 have HRT : Hid (rs.getD t rowZ = rs.getD t rowZ) := Lib.hid rfl
                 have HDE := Lib.hid (fun h => rowsE_dead (l := l) hGd.out htl rfl h)
                 have HBE := Lib.hid (fun h hb => rowsE_bad (l := l) hGd.out htl rfl h hb)
                 have HNX := Lib.hid (fun h => good_next (l := l) hGd.out htl rfl h)
                 have HNE := Lib.hid (new_handle HND.out htl rfl)
                 clear hc
                 generalize rs.getD t rowZ = r at *
                 have hbw : b < wr.heap.size := Nat.lt_of_lt_of_le hb hB.out.size
                 obtain ⟨c0, c1, c2, c3, c4, c5, c6, c7, c8, c9, c10⟩ := lRow (O := off + t * 11) (r := r) hcr
                 clear hcr
                 have hwa : Below wr.heap.size wr (wr.alloc (.cells #[.int .i64 r.s, .int .i64 r.g, .int .i64 r.m, .int .i64 (r.f 0), .int .i64 (r.f 1), .int .i64 (r.f 2), .int .i64 (r.f 3), .int .i64 (r.f 4), .int .i64 (r.f 5), .int .i64 (r.f 6), .int .i64 (r.f 7)] 39)) := nb_alloc (Below.refl _ _) _
                 have HWA := Lib.hid hwa
                 have hA : (wr.alloc (.cells #[.int .i64 r.s, .int .i64 r.g, .int .i64 r.m, .int .i64 (r.f 0), .int .i64 (r.f 1), .int .i64 (r.f 2), .int .i64 (r.f 3), .int .i64 (r.f 4), .int .i64 (r.f 5), .int .i64 (r.f 6), .int .i64 (r.f 7)] 39)).heap[wr.heap.size]? = some (.cells #[.int .i64 r.s, .int .i64 r.g, .int .i64 r.m, .int .i64 (r.f 0), .int .i64 (r.f 1), .int .i64 (r.f 2), .int .i64 (r.f 3), .int .i64 (r.f 4), .int .i64 (r.f 5), .int .i64 (r.f 6), .int .i64 (r.f 7)] 39) := heap_alloc_new _ _
                 have HA := Lib.hid hA
                 have hpl : pn < wr.heap.size := hW.out.lt pn hW.out.at_
                 go_wp2_with fail
                 generalize wr.alloc (.cells #[.int .i64 r.s, .int .i64 r.g, .int .i64 r.m, .int .i64 (r.f 0), .int .i64 (r.f 1), .int .i64 (r.f 2), .int .i64 (r.f 3), .int .i64 (r.f 4), .int .i64 (r.f 5), .int .i64 (r.f 6), .int .i64 (r.f 7)] 39) = W at *
                 clear c0 c1 c2 c3 c4 c5 c6 c7 c8 c9 c10 hwa
                 have HWW := Lib.hid (hW.out.later HWA.out)
                 have HLV : Hid (∀ y : Later W, Calls Tryz.prog 76 #[.pointer (some ⟨pn, 0, none⟩), .agg #[.int .i64 r.s, .int .i64 r.g]] y.w fun e w' => e = .returned (.bool (liveB l r.s r.g)) ∧ Below y.w.heap.size y.w w') := Lib.hid (fun y => by
                   obtain ⟨c, tm, pm, ks, tb, tr, hk, pl, hwi⟩ := HWW.out.later y.below
                   exact live_any pn _ l r.s r.g _ hwi.slots)
                 have q0 : ∀ y : Later W, y.w.cell? ⟨wr.heap.size, 0, none⟩ = some (.int .i64 r.s) := fun y => y.cell (by rw [cell_of_row _ _ _ _ _ _ hA]; rfl)
                 have q1 : ∀ y : Later W, y.w.cell? ⟨wr.heap.size, 1, none⟩ = some (.int .i64 r.g) := fun y => y.cell (by rw [cell_of_row _ _ _ _ _ _ hA]; rfl)
                 clear hA
                 cases hlv : liveB l r.s r.g
                 · rw [hlv] at HLV
                   have HEE := Lib.hid (HDE.out hlv)
                   refine wp_region_later (by kernel_rfl) (by kernel_rfl) ?_
                   repeat (go_big_quiet_step ((first | (go_at_call 76; exact Calls.later (HLV.out _)))))
                   refine wpQuiet_nil ?_
                   rintro _ ⟨nq, rfl⟩
                   have HBN := Lib.hid (nb_trans (nb_trans hB.out HWA.out) nq.below)
                   go_wp2
                   go_ret2
                   exact WLoadPost.bad (by rw [HW60.out, HEE.out]) (by decide) HBN.out
                 · rw [hlv] at HLV
                   have HEB := Lib.hid (fun hb => HBE.out hlv hb)
                   have HOKR := Lib.hid (live_I64 HLOK.out hlv)
                   have HGR := Lib.hid (fun hb => HNX.out ⟨hlv, hb⟩)
                   refine wp_region_later (by kernel_rfl) (by kernel_rfl) ?_
                   repeat (go_big_quiet_step ((first | (go_at_call 76; exact Calls.later (HLV.out _)))))
                   refine wpQuiet_nil ?_
                   rintro _ ⟨nq, rfl⟩
                   have HNQ := Lib.hid nq.below
                   clear q0 q1
                   generalize nq.w = Y at *
                   have hY : Y.heap[wr.heap.size]? = some (.cells #[.int .i64 r.s, .int .i64 r.g, .int .i64 r.m, .int .i64 (r.f 0), .int .i64 (r.f 1), .int .i64 (r.f 2), .int .i64 (r.f 3), .int .i64 (r.f 4), .int .i64 (r.f 5), .int .i64 (r.f 6), .int .i64 (r.f 7)] 39) := by rw [HNQ.out.block _ (Array.getElem?_eq_some_iff.1 HA.out).1]; exact HA.out
                   have hYl := (Array.getElem?_eq_some_iff.1 hY).1
                   obtain ⟨k0, k1, k2, k3, k4, k5, k6, k7, k8, k9, k10⟩ := rCells (r := r) hY
                   have HY := Lib.hid hY
                   clear hY
                   go_wp2_with fail
                   refine (checkBeast_any _ _ _ _ _ _ _ _ _ _).mono ?_
                   rintro e w5 ⟨rfl, hw5⟩
                   have HB5 : Hid (Below Y.heap.size Y w5) := Lib.hid (by rw [← hw5]; exact nb_alloc (Below.refl _ _) _)
                   have hY5 : w5.heap[wr.heap.size]? = some (.cells #[.int .i64 r.s, .int .i64 r.g, .int .i64 r.m, .int .i64 (r.f 0), .int .i64 (r.f 1), .int .i64 (r.f 2), .int .i64 (r.f 3), .int .i64 (r.f 4), .int .i64 (r.f 5), .int .i64 (r.f 6), .int .i64 (r.f 7)] 39) := by rw [HB5.out.block _ hYl]; exact HY.out
                   clear hw5 k0 k1 k2 k3 k4 k5 k6 k7 k8 k9 k10
                   have hYl5 := (Array.getElem?_eq_some_iff.1 hY5).1
                   obtain ⟨be, hbe⟩ : ∃ be, bErr r.m [r.f 0, r.f 1, r.f 2, r.f 3, r.f 4, r.f 5, r.f 6, r.f 7] = be := ⟨_, rfl⟩
                   rw [hbe]
                   by_cases hb0 : be = 0
                   · subst hb0
                     obtain ⟨k0, k1, k2, k3, k4, k5, k6, k7, k8, k9, k10⟩ := rCells (r := r) hY5
                     have HBEE := Lib.hid hbe
                     have HW5 := Lib.hid (HWW.out.later (nb_trans HNQ.out HB5.out))
                     clear hbe hY5
                     go_wp2_with fail
                     refine (worldAdd_any pn F l _ r _ HW5.out HBEE.out (fun x hx e => HNE.out x hx (by have := congrArg Prod.fst e; exact this)) HOKR.out ⟨rs.take t, by rw [List.length_take, HN.out]; omega, fun _ h => h⟩).mono ?_
                     rintro e w6 ⟨rfl, F6, h6, hk6, hm6⟩
                     have HB6 : Hid (Below w.heap.size w w5) := Lib.hid (nb_trans (nb_trans (nb_trans hB.out HWA.out) HNQ.out) HB5.out)
                     have HNXT : Hid (WldAt w6 pn F6 l (· ∈ rs.take (t + 1)) ∧ (∀ x ∈ rs.take (t + 1), goodR l x) ∧ (∀ b, F6 b → w.heap.size ≤ b) ∧ Below w.heap.size w w6) := Lib.hid (by
                       obtain ⟨g1, g2⟩ := HGR.out HBEE.out
                       exact ⟨h6.congr (fun y => (g2 y).symm), g1, hm6.above HB6.out.size hF.out, HB6.out.trans (hk6.below HB6.out.size hF.out)⟩)
                     clear h6 hk6 hm6 k0 k1 k2 k3 k4 k5 k6 k7 k8 k9 k10
                     go_wp2
                     go_roundw
                     case rel => exact ⟨t + 1, F6, by omega, by go_num, HNXT.out.1, HNXT.out.2.1, HNXT.out.2.2.1, HNXT.out.2.2.2⟩
                     case measure => simp [intOf]; omega
                   · have hne : (be != 0) = true := by simpa using hb0
                     have HEE := Lib.hid (HEB.out (by rw [hbe]; exact hb0))
                     rw [hbe] at HEE
                     have HBN := Lib.hid (nb_trans (nb_trans (nb_trans hB.out HWA.out) HNQ.out) HB5.out)
                     have HNE0 := Lib.hid hb0
                     clear hbe hY5 hb0
                     go_wp2
                     go_ret2
                     exact WLoadPost.bad (by rw [HW60.out, HEE.out]) HNE0.out HBN.out)
          · obtain rfl : t = n := by omega
            have HALL : Hid (rs.take t = rs) := Lib.hid (by rw [List.take_of_length_le (by rw [HN.out]; exact Nat.le_refl _)])
            rw [HALL.out] at hW hGd
            have HEE := Lib.hid (rowsE_ok hGd.out)
            go_wp2
            go_ret2
            exact ⟨.pointer (some ⟨pn, 0, none⟩), by rw [HW60.out, HEE.out]; rfl, hB.out, fun h => absurd (by rw [HW60.out, HEE.out]) h, fun _ => ⟨pn, F, rfl, by rw [HLL.out]; exact hW.out, hF.out⟩⟩
      · rw [if_neg h0] at HW60
        obtain rfl := hbad h0
        have hne : (x != 0) = true := by simpa using h0
        have H0 := Lib.hid h0
        clear hx hbad hgood h0 hb2
        go_wp2
        go_ret2
        exact WLoadPost.bad HW60.out H0.out HB2.out
  · have h60' : decide ((60 : Int) < (n : Int)) = true := by rw [decide_eq_true_iff]; omega
    have HW60 : Hid (wldE gens rs = 2) := Lib.hid (by rw [wldE, HN.out, if_neg h60])
    rcases hop with ⟨a, cap, rfl, hz⟩ | ⟨b, off, cap, rfl, hb, hlc, hcm, hc⟩
    all_goals
      go_enter Tryz.func46, Tryz.ntmps46
      go_wp2
      go_ret2
      exact WLoadPost.bad HW60.out (by decide) (Below.refl _ _)
end Go.Proofs.YtcmpaohefihijabGreatDoor

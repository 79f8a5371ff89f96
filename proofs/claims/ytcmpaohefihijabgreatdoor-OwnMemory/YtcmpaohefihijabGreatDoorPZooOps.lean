/- The embedded methods of the program's zoo: what each returns and leaves of the whole. -/
import Derived.Test.YtcmpaohefihijabGreatDoorPZooAt
import Derived.Test.YtcmpaohefihijabGreatDoorGroundE
import Derived.Test.YtcmpaohefihijabGreatDoorGroundF
import Derived.Test.YtcmpaohefihijabGreatDoorGroundH
namespace Go.Proofs.YtcmpaohefihijabGreatDoor
set_option maxRecDepth 8000
open Go.RowKit

def PzPost (w : World) (p : Nat) (F : Nat → Prop) (x : Value) (s' : Zs) (e : Ending) (w' : World) : Prop := e = .returned x ∧ ∃ F', PzAt w' p F' s' ∧ Kept F w w' ∧ Moves w F F'
section
variable {w w' : World} {p : Nat} {F : Nat → Prop} {s : Zs}
theorem PzPost.same {x : Value} (h : PzAt w p F s) (hb : Below w.heap.size w w') : PzPost w p F x s (.returned x) w' := ⟨rfl, F, h.later hb, Kept.ofBelow hb, Moves.refl _ _⟩
/-- What has been made before a call does not matter. -/
theorem PzPost.from {X : World} {x : Value} {s' : Zs} {e : Ending} (h : PzPost X p F x s' e w') (hX : Below w.heap.size w X) : PzPost w p F x s' e w' := by
  obtain ⟨h1, F', h2, h3, h4⟩ := h
  exact ⟨h1, F', h2, (Kept.ofBelow hX).trans h3 (fun _ h => .inl h), fun b hb => (h4 b hb).imp id (fun e => Nat.le_trans hX.size e)⟩
theorem ZOk.len32' (ok : ZOk s) : s.bs.length * 32 ≤ 140737488355328 := by have := ok.len; omega
theorem ZOk.lenM (ok : ZOk s) : s.bs.length < maxLen := by have := ok.len; unfold maxLen; omega
end

theorem pzSpawn (p : Nat) (F : Nat → Prop) (s : Zs) (m : Int) (f : Nat → Int) (w : World) (h : PzAt w p F s) (ok : ZOk s) :
    Calls Tryz.prog 35 #[.pointer (some ⟨p, 0, none⟩), .agg #[.int .i64 m, .int .i64 (f 0), .int .i64 (f 1), .int .i64 (f 2), .int .i64 (f 3), .int .i64 (f 4), .int .i64 (f 5), .int .i64 (f 6), .int .i64 (f 7)]] w (PzPost w p F (.tuple #[.agg #[.int .i64 (spawnH s.l m f).1, .int .i64 (spawnH s.l m f).2], .int .i64 (spawnE s.l m f)]) ⟨spawnL s.l m f, spawnR s.l s.rows m f, s.bs⟩) := by
  obtain ⟨F0, F1, u, vm, hz, rfl⟩ := h.open
  exact (worldSpawn_any p F0 s.l s.rows m f w hz.wld ok.w).mono fun e w' ⟨he, _, h1, h2, h3⟩ => ⟨he, hz.worldStep h1 h2 h3⟩
theorem pzPut (p : Nat) (F : Nat → Prop) (s : Zs) (a b k n : Int) (w : World) (h : PzAt w p F s) (ok : ZOk s) (ha : I64r a) (hb : I64r b) :
    Calls Tryz.prog 37 #[.pointer (some ⟨p, 0, none⟩), .agg #[.int .i64 a, .int .i64 b], .int .i64 k, .int .i64 n] w (PzPost w p F (.int .i64 (putWE s.rows a b k n)) ⟨s.l, putWR s.rows a b k n, s.bs⟩) := by
  obtain ⟨F0, F1, u, vm, hz, rfl⟩ := h.open
  exact (worldPut_any p F0 s.l s.rows a b k n w hz.wld ok.w ha hb).mono fun e w' ⟨he, _, h1, h2, h3⟩ => ⟨he, hz.worldStep h1 h2 h3⟩
theorem pzDrop (p : Nat) (F : Nat → Prop) (s : Zs) (a b k : Int) (w : World) (h : PzAt w p F s) (ok : ZOk s) (ha : I64r a) (hb : I64r b) :
    Calls Tryz.prog 38 #[.pointer (some ⟨p, 0, none⟩), .agg #[.int .i64 a, .int .i64 b], .int .i64 k] w (PzPost w p F (.int .i64 (dropE s.rows a b k)) ⟨s.l, dropR s.rows a b k, s.bs⟩) := by
  obtain ⟨F0, F1, u, vm, hz, rfl⟩ := h.open
  exact (worldDrop_any p F0 s.l s.rows a b k w hz.wld ok.w ha hb).mono fun e w' ⟨he, _, h1, h2, h3⟩ => ⟨he, hz.worldStep h1 h2 h3⟩
/-- Kill of the world: the family's blocks are the same. -/
theorem pzKill1 (p : Nat) (F0 F1 : Nat → Prop) (u : Value × Value × Value) (vm : Value) (s : Zs) (a b : Int) (n0 : Nat) (w : World) (hn : NewC n0 w F0) (h : PzIs w p F0 F1 u vm s) (ok : ZOk s) (ha : I64r a) (hb : I64r b) :
    Calls Tryz.prog 97 #[.pointer (some ⟨p, 0, none⟩), .agg #[.int .i64 a, .int .i64 b]] w fun e w' => e = .returned (.int .i64 (killE s.rows a b)) ∧ ∃ F0' u', PzIs w' p F0' F1 u' vm ⟨freeL s.l a b, killR s.rows a b, s.bs⟩ ∧ Kept F0 w w' ∧ Moves w F0 F0' ∧ NewC n0 w' F0' :=
  (worldKill_anyN p F0 s.l s.rows a b n0 w hn h.wld ok.w ha hb).mono fun e w' ⟨he, F0', h1, h2, h3, h4⟩ => by
    obtain ⟨u', h5⟩ := h.worldAt h1 h2 h3
    exact ⟨he, F0', u', h5, h2, h3, h4⟩
theorem pzGet (p : Nat) (F : Nat → Prop) (s : Zs) (a b : Int) (r : Rw) (x : Int) (w : World) (h : PzAt w p F s) (ha : I64r a) (hb : I64r b) (hr : getR s.rows a b = r) (hx : getE s.rows a b = x) :
    Calls Tryz.prog 99 #[.pointer (some ⟨p, 0, none⟩), .agg #[.int .i64 a, .int .i64 b]] w fun e w' => e = .returned (.tuple #[.agg #[.int .i64 r.m, .int .i64 (r.f 0), .int .i64 (r.f 1), .int .i64 (r.f 2), .int .i64 (r.f 3), .int .i64 (r.f 4), .int .i64 (r.f 5), .int .i64 (r.f 6), .int .i64 (r.f 7)], .int .i64 x]) ∧ Below w.heap.size w w' := by
  obtain ⟨F0, F1, u, vm, hz, rfl⟩ := h.open
  exact worldGet_any p F0 s.l s.rows a b r x w hz.wld ha hb hr hx
theorem pzRows (p : Nat) (F : Nat → Prop) (s : Zs) (a b c : Int) (w : World) (h : PzAt w p F s) (ok : ZOk s) :
    Calls Tryz.prog 41 #[.pointer (some ⟨p, 0, none⟩), .agg #[.int .i64 a, .int .i64 b, .int .i64 c]] w (RowsPost w s.rows a b c) := by
  obtain ⟨F0, F1, u, vm, hz, rfl⟩ := h.open
  exact worldRows_any p F0 s.l s.rows a b c w hz.wld ok.w
theorem pzGens (p : Nat) (F : Nat → Prop) (s : Zs) (w : World) (h : PzAt w p F s) (ok : ZOk s) :
    Calls Tryz.prog 18 #[.pointer (some ⟨p, 0, none⟩)] w fun e w' => ∃ v, e = .returned v ∧ OwnsF elInt w' w.heap.size 3 v (gensL s.l) ∧ Below w.heap.size w w' := by
  obtain ⟨F0, F1, u, vm, hz, rfl⟩ := h.open
  exact worldGens_any p F0 s.l _ w hz.wld ok.w.slots
theorem pzLive (p : Nat) (F : Nat → Prop) (s : Zs) (a b : Int) (g : Bool) (w : World) (h : PzAt w p F s) (hg : liveH s.l (a, b) = g) :
    Calls Tryz.prog 76 #[.pointer (some ⟨p, 0, none⟩), .agg #[.int .i64 a, .int .i64 b]] w fun e w' => e = .returned (.bool g) ∧ Below w.heap.size w w' := by
  obtain ⟨F0, F1, u, vm, hz, rfl⟩ := h.open
  obtain ⟨c, tm, pm, ks, tb, tr, hk, pl, h2⟩ := hz.wld
  rw [← hg]
  exact live_any p _ s.l a b w h2.slots
theorem pzParent (p : Nat) (F : Nat → Prop) (s : Zs) (a b c d : Int) (g : Bool) (w : World) (h : PzAt w p F s) (ok : ZOk s) (ha : I64r a) (hb : I64r b) (hq : parB s.bs (a, b) = (c, d)) (hg : hasP s.bs (a, b) = g) :
    Calls Tryz.prog 26 #[.pointer (some ⟨p, 3, none⟩), .agg #[.int .i64 a, .int .i64 b]] w fun e w' => e = .returned (.tuple #[.agg #[.int .i64 c, .int .i64 d], .bool g]) ∧ Below w.heap.size w w' := by
  obtain ⟨F0, F1, u, vm, hz, rfl⟩ := h.open
  exact famParent_any p F1 s.bs a b c d g w ⟨vm, hz.fam⟩ ok.f.sorted ha hb hq hg
/-- All under h, in some order, each once. -/
theorem pzUnder (p : Nat) (F : Nat → Prop) (s : Zs) (a b : Int) (w : World) (h : PzAt w p F s) (ok : ZOk s) (hab : okH (a, b)) : ∃ U : List Hd, (∀ x, x ∈ U ↔ Und s.bs x (a, b)) ∧ U.length ≤ s.bs.length ∧
    Calls Tryz.prog 59 #[.pointer (some ⟨p, 3, none⟩), .agg #[.int .i64 a, .int .i64 b]] w (HandsPost w U) := by
  obtain ⟨F0, F1, u, vm, hz, rfl⟩ := h.open
  obtain ⟨d, M, ha⟩ := ok.f.acy
  exact ⟨under s.bs M (a, b), fun x => ha.in_under, ha.under_len ok.f.sorted _, famUnder_any p F1 s.bs d M a b w ⟨vm, hz.fam⟩ ok.f ha hab ok.len32'⟩
theorem pzBonds (p : Nat) (F : Nat → Prop) (s : Zs) (w : World) (h : PzAt w p F s) (ok : ZOk s) :
    Calls Tryz.prog 19 #[.pointer (some ⟨p, 3, none⟩)] w (SelPost w s.bs) := by
  obtain ⟨F0, F1, u, vm, hz, rfl⟩ := h.open
  exact famBonds_any p F1 s.bs w ⟨vm, hz.fam⟩ ok.f.sorted ok.len32'
theorem pzAdopt (p : Nat) (F : Nat → Prop) (s : Zs) (a b c d : Int) (w : World) (h : PzAt w p F s) (ok : ZOk s) (hab : okH (a, b)) (hcd : okH (c, d)) :
    Calls Tryz.prog 64 #[.pointer (some ⟨p, 3, none⟩), .agg #[.int .i64 a, .int .i64 b], .agg #[.int .i64 c, .int .i64 d]] w (PzPost w p F (.int .i64 (adoptE s.bs (a, b) (c, d))) ⟨s.l, s.rows, adoptB s.bs (a, b) (c, d)⟩) := by
  obtain ⟨F0, F1, u, vm, hz, rfl⟩ := h.open
  exact (famAdopt_any p F1 s.bs a b c d w ⟨vm, hz.fam⟩ ok.f hab hcd ok.lenM).mono fun e w' ⟨he, _, h1, h2, h3⟩ => ⟨he, hz.famStep h1 h2 h3⟩
theorem pzLoosen (p : Nat) (F : Nat → Prop) (s : Zs) (a b : Int) (w : World) (h : PzAt w p F s) (ok : ZOk s) (ha : I64r a) (hb : I64r b) :
    Calls Tryz.prog 65 #[.pointer (some ⟨p, 3, none⟩), .agg #[.int .i64 a, .int .i64 b]] w (PzPost w p F (.int .i64 (looseE s.bs (a, b))) ⟨s.l, s.rows, rmB s.bs (a, b)⟩) := by
  obtain ⟨F0, F1, u, vm, hz, rfl⟩ := h.open
  exact (famLoosen_any p F1 s.bs a b w ⟨vm, hz.fam⟩ ok.f.sorted ha hb).mono fun e w' ⟨he, h1, h2⟩ => ⟨he, hz.famStep h1 h2 (Moves.refl _ _)⟩
/-- Gone of the family: the same blocks. -/
theorem pzGone (p : Nat) (F0 F1 : Nat → Prop) (u : Value × Value × Value) (vm : Value) (s : Zs) (a b : Int) (n0 : Nat) (w : World) (h : PzIs w p F0 F1 u vm s) (ok : FOk s.bs) (h32 : s.bs.length * 32 ≤ 140737488355328) (hn : NewC n0 w F0) :
    Calls Tryz.prog 98 #[.pointer (some ⟨p, 3, none⟩), .agg #[.int .i64 a, .int .i64 b]] w fun e w' => e = .returned (.tuple #[]) ∧ ∃ vm', PzIs w' p F0 F1 u vm' ⟨s.l, s.rows, goneB s.bs (a, b)⟩ ∧ Kept F1 w w' ∧ NewC n0 w' F0 :=
  (famGone_any p F1 s.bs a b w ⟨vm, h.fam⟩ ok h32).mono fun e w' ⟨he, h1, h2⟩ => by
    obtain ⟨vm', h3⟩ := h.famAt h1 h2 (Moves.refl _ _)
    exact ⟨he, vm', h3, h2, h.newC h1 h2 hn⟩
end Go.Proofs.YtcmpaohefihijabGreatDoor

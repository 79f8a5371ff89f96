/- The reference's functions on its whole zoo: what each returns and leaves. -/
import Derived.Test.YtbdkmmbhblpjoaaGreatZooOpsA
import Derived.Test.YtbdkmmbhblpjoaaGreatGroundG
import Derived.Test.YtbdkmmbhblpjoaaGreatRefZooSpawn
namespace Go.Proofs.YtbdkmmbhblpjoaaGreat
set_option maxRecDepth 8000
open Go.RowKit

theorem zfSpawn (q : Nat) (G : Nat → Prop) (s : Zs) (m : Int) (f : Nat → Int) (w : World) (h : ZfAt w q G s) (ok : ZOk s) :
    Calls Tryz.prog 35 #[.pointer (some ⟨q, 0, none⟩), .agg #[.int .i64 m, .int .i64 (f 0), .int .i64 (f 1), .int .i64 (f 2), .int .i64 (f 3), .int .i64 (f 4), .int .i64 (f 5), .int .i64 (f 6), .int .i64 (f 7)]] w (ZfPost w q G (.tuple #[.agg #[.int .i64 (spawnH s.l m f).1, .int .i64 (spawnH s.l m f).2], .int .i64 (spawnE s.l m f)]) ⟨spawnL s.l m f, spawnR s.l s.rows m f, s.bs⟩) := by
  obtain ⟨G0, G1, vB, hz, rfl⟩ := h.open
  exact (refSpawn_any q G0 s.l s.rows vB m f w hz.zoo ok.w).mono fun e w' ⟨he, _, h1, h2, h3⟩ => ⟨he, hz.zooStep h1 h2 h3⟩
theorem zfPut (q : Nat) (G : Nat → Prop) (s : Zs) (a b k n : Int) (w : World) (h : ZfAt w q G s) (ok : ZOk s) :
    Calls Tryz.prog 36 #[.pointer (some ⟨q, 0, none⟩), .agg #[.int .i64 a, .int .i64 b], .int .i64 k, .int .i64 n] w (ZfPost w q G (.int .i64 (putWE s.rows a b k n)) ⟨s.l, putWR s.rows a b k n, s.bs⟩) := by
  obtain ⟨G0, G1, vB, hz, rfl⟩ := h.open
  exact (refPut_any q G0 s.l s.rows vB a b k n w hz.zoo ok.w).mono fun e w' ⟨he, _, h1, h2, h3⟩ => ⟨he, hz.zooStep h1 h2 h3⟩
theorem zfDrop (q : Nat) (G : Nat → Prop) (s : Zs) (a b k : Int) (w : World) (h : ZfAt w q G s) (ok : ZOk s) :
    Calls Tryz.prog 37 #[.pointer (some ⟨q, 0, none⟩), .agg #[.int .i64 a, .int .i64 b], .int .i64 k] w (ZfPost w q G (.int .i64 (dropE s.rows a b k)) ⟨s.l, dropR s.rows a b k, s.bs⟩) := by
  obtain ⟨G0, G1, vB, hz, rfl⟩ := h.open
  exact (refDrop_any q G0 s.l s.rows vB a b k w hz.zoo ok.w).mono fun e w' ⟨he, _, h1, h2, h3⟩ => ⟨he, hz.zooStep h1 h2 h3⟩
theorem zfKill (q : Nat) (G : Nat → Prop) (s : Zs) (a b : Int) (w : World) (h : ZfAt w q G s) (ok : ZOk s) :
    Calls Tryz.prog 42 #[.pointer (some ⟨q, 0, none⟩), .agg #[.int .i64 a, .int .i64 b]] w (ZfPost w q G (.int .i64 (killE s.rows a b)) ⟨freeL s.l a b, killR s.rows a b, s.bs⟩) := by
  obtain ⟨G0, G1, vB, hz, rfl⟩ := h.open
  exact (refKill_any q G0 s.l s.rows vB a b w hz.zoo ok.w).mono fun e w' ⟨he, _, h1, h2, h3⟩ => ⟨he, hz.zooStep h1 h2 h3⟩
theorem zfGet (q : Nat) (G : Nat → Prop) (s : Zs) (a b : Int) (r : Rw) (x : Int) (w : World) (h : ZfAt w q G s) (hr : getR s.rows a b = r) (hx : getE s.rows a b = x) :
    Calls Tryz.prog 18 #[.pointer (some ⟨q, 0, none⟩), .agg #[.int .i64 a, .int .i64 b]] w fun e w' => e = .returned (.tuple #[.agg #[.int .i64 r.m, .int .i64 (r.f 0), .int .i64 (r.f 1), .int .i64 (r.f 2), .int .i64 (r.f 3), .int .i64 (r.f 4), .int .i64 (r.f 5), .int .i64 (r.f 6), .int .i64 (r.f 7)], .int .i64 x]) ∧ Below w.heap.size w w' := by
  obtain ⟨G0, G1, vB, hz, rfl⟩ := h.open
  exact refGet_any q G0 s.l s.rows vB a b r x w hz.zoo hr hx
theorem zfRows (q : Nat) (G : Nat → Prop) (s : Zs) (a b c : Int) (w : World) (h : ZfAt w q G s) (ok : ZOk s) (ha : I64 a) :
    Calls Tryz.prog 22 #[.pointer (some ⟨q, 0, none⟩), .agg #[.int .i64 a, .int .i64 b, .int .i64 c]] w (RowsPost w s.rows a b c) := by
  obtain ⟨G0, G1, vB, hz, rfl⟩ := h.open
  exact refRows_any q G0 s.l s.rows vB a b c w hz.zoo ok.w ha
/-- All under h, in some order, each once. -/
theorem zfUnder (q : Nat) (G : Nat → Prop) (s : Zs) (a b : Int) (w : World) (h : ZfAt w q G s) (ok : ZOk s) : ∃ U : List Hd, (∀ x, x ∈ U ↔ Und s.bs x (a, b)) ∧ U.length ≤ s.bs.length ∧
    Calls Tryz.prog 41 #[.pointer (some ⟨q, 0, none⟩), .agg #[.int .i64 a, .int .i64 b]] w (HandsPost w U) := by
  obtain ⟨G0, G1, vB, hz, rfl⟩ := h.open
  obtain ⟨d, M, ha⟩ := ok.f.acy
  exact ⟨under s.bs M (a, b), fun x => ha.in_under, ha.under_len ok.f.sorted _, refUnder_any q _ s.bs d M ok.f.sorted ha (by have := ok.len; omega) _ a b w (Nat.le_refl _) hz.bon⟩
end Go.Proofs.YtbdkmmbhblpjoaaGreat

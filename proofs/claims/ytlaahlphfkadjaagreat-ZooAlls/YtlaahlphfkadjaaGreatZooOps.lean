
/- The reference's functions on its whole zoo: what each returns and leaves. -/
import Derived.Test.YtlaahlphfkadjaaGreatZooOpsA
import Derived.Test.YtlaahlphfkadjaaGreatGroundG
import Derived.Test.YtlaahlphfkadjaaGreatRefZooSpawn
namespace Go.Proofs.YtlaahlphfkadjaaGreat
set_option maxRecDepth 8000
open Go.RowKit

theorem zfSpawn (q : Nat) (G : Nat → Prop) (s : Zs) (m : Int) (f : Nat → Int) (w : World) (h : ZfAt w q G s) (ok : ZOk s) :
    Calls Tryz.prog 40 #[.pointer (some ⟨q, 0, none⟩), .agg #[.int .i64 m, .int .i64 (f 0), .int .i64 (f 1), .int .i64 (f 2), .int .i64 (f 3), .int .i64 (f 4), .int .i64 (f 5), .int .i64 (f 6), .int .i64 (f 7)]] w (ZfPost w q G (.tuple #[.agg #[.int .i64 (spawnH s.l m f).1, .int .i64 (spawnH s.l m f).2], .int .i64 (spawnE s.l m f)]) ⟨spawnL s.l m f, spawnR s.l s.rows m f, s.bs⟩) := by
  obtain ⟨G0, G1, vB, hz, rfl⟩ := h.open
  exact (refSpawn_any q G0 s.l s.rows vB m f w hz.zoo ok.w).mono fun e w' ⟨he, _, h1, h2, h3⟩ => ⟨he, hz.zooStep h1 h2 h3⟩
theorem zfPut (q : Nat) (G : Nat → Prop) (s : Zs) (a b k n : Int) (w : World) (h : ZfAt w q G s) (ok : ZOk s) :
    Calls Tryz.prog 41 #[.pointer (some ⟨q, 0, none⟩), .agg #[.int .i64 a, .int .i64 b], .int .i64 k, .int .i64 n] w (ZfPost w q G (.int .i64 (putWE s.rows a b k n)) ⟨s.l, putWR s.rows a b k n, s.bs⟩) := by
  obtain ⟨G0, G1, vB, hz, rfl⟩ := h.open
  exact (refPut_any q G0 s.l s.rows vB a b k n w hz.zoo ok.w).mono fun e w' ⟨he, _, h1, h2, h3⟩ => ⟨he, hz.zooStep h1 h2 h3⟩
theorem zfDrop (q : Nat) (G : Nat → Prop) (s : Zs) (a b k : Int) (w : World) (h : ZfAt w q G s) (ok : ZOk s) :
    Calls Tryz.prog 42 #[.pointer (some ⟨q, 0, none⟩), .agg #[.int .i64 a, .int .i64 b], .int .i64 k] w (ZfPost w q G (.int .i64 (dropE s.rows a b k)) ⟨s.l, dropR s.rows a b k, s.bs⟩) := by
  obtain ⟨G0, G1, vB, hz, rfl⟩ := h.open
  exact (refDrop_any q G0 s.l s.rows vB a b k w hz.zoo ok.w).mono fun e w' ⟨he, _, h1, h2, h3⟩ => ⟨he, hz.zooStep h1 h2 h3⟩
theorem zfKill (q : Nat) (G : Nat → Prop) (s : Zs) (a b : Int) (w : World) (h : ZfAt w q G s) (ok : ZOk s) :
    Calls Tryz.prog 47 #[.pointer (some ⟨q, 0, none⟩), .agg #[.int .i64 a, .int .i64 b]] w (ZfPost w q G (.int .i64 (killE s.rows a b)) ⟨freeL s.l a b, killR s.rows a b, s.bs⟩) := by
  obtain ⟨G0, G1, vB, hz, rfl⟩ := h.open
  exact (refKill_any q G0 s.l s.rows vB a b w hz.zoo ok.w).mono fun e w' ⟨he, _, h1, h2, h3⟩ => ⟨he, hz.zooStep h1 h2 h3⟩
end Go.Proofs.YtlaahlphfkadjaaGreat

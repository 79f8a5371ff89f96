/- Boxes; what the maps of a world hold. -/
import Derived.Test.YtlclceiebnnpgaaGreatWorldGet
namespace Go.Proofs.YtlclceiebnnpgaaGreat
open Go.RowKit

/-- the boxes of a handle and a beast -/
structure Boxes (n : Nat) (Y : World) (r : Rw) : Prop where
  hb : Y.heap[n]? = some (.cells #[.int .i64 r.s, .int .i64 r.g] 28)
  bb : Y.heap[n + 1]? = some (.cells #[.int .i64 r.m, .int .i64 (r.f 0), .int .i64 (r.f 1), .int .i64 (r.f 2), .int .i64 (r.f 3), .int .i64 (r.f 4), .int .i64 (r.f 5), .int .i64 (r.f 6), .int .i64 (r.f 7)] 26)
theorem Boxes.h0 {n : Nat} {Y : World} {r : Rw} (h : Boxes n Y r) : Y.cell? ⟨n, 0, none⟩ = some (.int .i64 r.s) := by rw [cell_of_row _ _ _ _ _ _ h.hb]; rfl
theorem Boxes.h1 {n : Nat} {Y : World} {r : Rw} (h : Boxes n Y r) : Y.cell? ⟨n, 1, none⟩ = some (.int .i64 r.g) := by rw [cell_of_row _ _ _ _ _ _ h.hb]; rfl
theorem Boxes.b0 {n : Nat} {Y : World} {r : Rw} (h : Boxes n Y r) : Y.cell? ⟨n + 1, 0, none⟩ = some (.int .i64 r.m) := by rw [cell_of_row _ _ _ _ _ _ h.bb]; rfl
theorem Boxes.b {n : Nat} {Y : World} {r : Rw} (h : Boxes n Y r) (j : Nat) (hj : j < 8) : Y.cell? ⟨n + 1, 1 + j, none⟩ = some (.int .i64 (r.f j)) := by rw [cell_of_row _ _ _ _ _ _ h.bb]; exact vals_at r.m r.f j hj
theorem Boxes.lt {n : Nat} {Y : World} {r : Rw} (h : Boxes n Y r) : n + 1 < Y.heap.size := (Array.getElem?_eq_some_iff.1 h.bb).1
theorem Boxes.kept {n : Nat} {Y Z : World} {r : Rw} {F : Nat → Prop} (h : Boxes n Y r) (hk : Kept F Y Z) (h0 : ¬ F n) (h1 : ¬ F (n + 1)) : Boxes n Z r := by
  have := h.lt
  exact ⟨by rw [hk.block n (by omega) h0]; exact h.hb, by rw [hk.block (n + 1) this h1]; exact h.bb⟩

theorem WldIs.lookT {w : World} {p mt : Nat} {F : Nat → Prop} {c : Nat → Int} {l : List (Int × Bool)} {pm : Value} {ks : List Int} {tb : Int → Nat} {tr : Int → List Rw} {hk : List (Int × Int)} {pl : Int × Int → Int × Nat} {R : Rw → Prop} (h : WldIs w p F c l (.map (some mt)) pm ks tb tr hk pl R) (k : Int) (hk' : I64r k) :
    (Instr.lookup 62 (.map (some mt)) (.int .i64 k) false).run Tryz.prog w = .ok (if k ∈ ks then ptrOf tb k else .pointer none) w := by
  rcases h.maps with ⟨e, _⟩ | ⟨mt', mp, e, _, m1, m2, _⟩
  · cases e
  · obtain rfl : mt = mt' := by simpa using e
    exact m1.look Tryz.underlying62 (zeroTab w) k hk'
theorem WldIs.mapT {w : World} {p mt : Nat} {F : Nat → Prop} {c : Nat → Int} {l : List (Int × Bool)} {pm : Value} {ks : List Int} {tb : Int → Nat} {tr : Int → List Rw} {hk : List (Int × Int)} {pl : Int × Int → Int × Nat} {R : Rw → Prop} (h : WldIs w p F c l (.map (some mt)) pm ks tb tr hk pl R) :
    MapIs kInt w mt ks.length ks (ptrOf tb) ∧ F mt ∧ c mt = -2 ∧ ks.length ≤ 256 := by
  rcases h.maps with ⟨e, _⟩ | ⟨mt', mp, e, _, m1, m2, c1, _⟩
  · cases e
  · obtain rfl : mt = mt' := by simpa using e
    exact ⟨m1, c1.1, c1.2, h.laid.ksLen m1.nodup⟩
theorem WldIs.mapP {w : World} {p mp : Nat} {F : Nat → Prop} {c : Nat → Int} {l : List (Int × Bool)} {tm : Value} {ks : List Int} {tb : Int → Nat} {tr : Int → List Rw} {hk : List (Int × Int)} {pl : Int × Int → Int × Nat} {R : Rw → Prop} (h : WldIs w p F c l tm (.map (some mp)) ks tb tr hk pl R) :
    MapIs kHand w mp hk.length hk (plV tb pl) ∧ F mp ∧ c mp = -3 := by
  rcases h.maps with ⟨_, e, _⟩ | ⟨mt, mp', _, e, m1, m2, _, c2⟩
  · cases e
  · obtain rfl : mp = mp' := by simpa using e
    exact ⟨m2, c2.1, c2.2⟩

/-- There are few rows. -/
def Few (R : Rw → Prop) : Prop := ∃ rows : List Rw, rows.length ≤ 60 ∧ ∀ r, R r → r ∈ rows
theorem WOk.few {l : List (Int × Bool)} {rows : List Rw} (h : WOk l rows) : Few (· ∈ rows) := ⟨rows, h.len60, fun _ h => h⟩
theorem Kept.both {F : Nat → Prop} {w w' : World} (h : Kept F w w') (hs : w'.heap.size = w.heap.size) (o : Obj) : Kept F (w.alloc o) (w'.alloc o) ∧ (w'.alloc o).heap.size = (w.alloc o).heap.size := by
  refine ⟨⟨h.os, h.tape, h.output, by simp [hs], fun k hk hf => ?_⟩, by simp [hs]⟩
  by_cases e : k < w.heap.size
  · rw [Below.heap_alloc _ _ _ (by rw [hs]; exact e), Below.heap_alloc _ _ _ e]; exact h.block k e hf
  · have e' : k = w.heap.size := by simp at hk; omega
    subst e'
    rw [heap_alloc_new w, ← hs, heap_alloc_new w']
end Go.Proofs.YtlclceiebnnpgaaGreat

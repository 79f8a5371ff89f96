
/- Contracts and plain facts, several texts in one. -/
import Derived.Shelf.SlSortCmp.WholeK
import Derived.Shelf.SlicesG.Cmp
import Derived.Shelf.SlGeneric
import Derived.Ground.SlsfProg
import Derived.Ground.SlgcProg
import Derived.Test.YtndhomjfjhohoaaGreatDoorProg
import Derived.StillTailTactics
import Derived.Shelf.SlSortCmp.NoneTotal
import Derived.Deep.RegionHeld3
import Derived.RangeFuncNested
import Derived.RangeFuncBound
import Derived.RangeFuncCalls
import Derived.RangeFuncLeaves
import Derived.Shelf.Abstract
import Derived.Shelf.RegionOpen
import Derived.WalkKit
import Derived.OwnWalkIn
import Derived.TacticsInMore
import Derived.LoopNIn
import Derived.LoopIn
import Derived.BigRegionIn
import Derived.Maps.OwnIn
import Derived.WideKeyEntry
import Derived.Deep.RegionLaw
import Derived.Laws.OwnMore
import Derived.Test.YtndhomjfjhohoaaGreatDoorGroundA
import Derived.Test.YtndhomjfjhohoaaGreatDoorGroundB
import Derived.Test.YtndhomjfjhohoaaGreatDoorGroundC
import Derived.Test.YtndhomjfjhohoaaGreatDoorGroundD
import Derived.Test.YtndhomjfjhohoaaGreatDoorGroundE
import Derived.Test.YtndhomjfjhohoaaGreatDoorGroundF
import Derived.Test.YtndhomjfjhohoaaGreatDoorGroundG
/- slices.SortFunc at bonds, cmp.Compare at ints: laid at this program. -/
namespace Go.Proofs.YtndhomjfjhohoaaGreatDoor
open Go.Shelf
end Go.Proofs.YtndhomjfjhohoaaGreatDoor

/- The program's family in memory: its map of parents; the contracts of New, Parent and Loosen. -/
namespace Go.Proofs.YtndhomjfjhohoaaGreatDoor
set_option maxRecDepth 8000
set_option maxRecDepth 8000
open Go.RowKit
variable {u : Value × Value × Value}

theorem nbf_set {B : Nat} {a w : World} (h : Below B a w) (b j : Nat) (v : Value) (hb : B ≤ b) : Below B a (w.setCell ⟨b, j, none⟩ v) := h.setCell (p := ⟨b, j, none⟩) hb v

theorem zeroHand (w : World) : (zeroValue 49).run Tryz.prog w = .ok (.agg #[.int .i64 0, .int .i64 0]) w := by kernel_rfl
/-- The map's keys and values are just these bonds. -/
structure MapB (ks : List Hd) (f : Hd → Value) (bs : List Bd) : Prop where
  some_ : ∀ c ∈ ks, ∃ p, (c, p) ∈ bs
  val : ∀ c p, (c, p) ∈ bs → c ∈ ks ∧ f c = .agg #[.int .i64 p.1, .int .i64 p.2]
/-- At block p lies a family with these bonds, in the blocks F. -/
structure FamIs (u : Value × Value × Value) (w : World) (p : Nat) (F : Nat → Prop) (vm : Value) (bs : List Bd) : Prop where
  block : w.heap[p]? = some (.cells #[u.1, u.2.1, u.2.2, vm] 124 (0, 0))
  map : (vm = .map none ∧ bs = []) ∨ ∃ b ks f, vm = .map (some b) ∧ MapIs kHand w b ks.length ks f ∧ MapB ks f bs ∧ F b ∧ b ≠ p
  at_ : F p
  lt : ∀ b, F b → b < w.heap.size
def FamIn (u : Value × Value × Value) (w : World) (p : Nat) (F : Nat → Prop) (bs : List Bd) : Prop := ∃ vm, FamIs u w p F vm bs


section
variable {w w' : World} {p : Nat} {F : Nat → Prop} {vm : Value} {bs : List Bd}
theorem FamIs.kept {G : Nat → Prop} (h : FamIs u w p F vm bs) (hk : Kept G w w') (hf : ∀ b, F b → ¬ G b) : FamIs u w' p F vm bs := by
  refine ⟨by rw [hk.block p (h.lt p h.at_) (hf p h.at_)]; exact h.block, ?_, h.at_, fun b hb => Nat.lt_of_lt_of_le (h.lt b hb) hk.size⟩
  rcases h.map with h1 | ⟨b, ks, f, e, hm, hb, hF, hne⟩
  · exact .inl h1
  · exact .inr ⟨b, ks, f, e, hm.kept hk (hf b hF), hb, hF, hne⟩
theorem FamIs.later (h : FamIs u w p F vm bs) (hb : Below w.heap.size w w') : FamIs u w' p F vm bs := h.kept (G := fun _ => False) (Kept.ofBelow hb) (fun _ _ => id)
theorem FamIs.cell (h : FamIs u w p F vm bs) : w.cell? ⟨p, 3, none⟩ = some vm := by rw [cell_of_row _ _ _ _ _ _ h.block]; rfl
theorem FamIs.frozen (h : FamIs u w p F vm bs) : w.frozen? ⟨p, 3, none⟩ = false := frozen_of_row _ _ _ _ _ h.block
theorem FamIs.plt (h : FamIs u w p F vm bs) : p < w.heap.size := h.lt p h.at_
theorem FamIn.kept {G : Nat → Prop} (h : FamIn u w p F bs) (hk : Kept G w w') (hf : ∀ b, F b → ¬ G b) : FamIn u w' p F bs := by obtain ⟨vm, h⟩ := h; exact ⟨vm, h.kept hk hf⟩
theorem FamIn.later (h : FamIn u w p F bs) (hb : Below w.heap.size w w') : FamIn u w' p F bs := by obtain ⟨vm, h⟩ := h; exact ⟨vm, h.later hb⟩
theorem FamIn.lt (h : FamIn u w p F bs) : ∀ b, F b → b < w.heap.size := by obtain ⟨vm, h⟩ := h; exact h.lt
theorem FamIn.at_ (h : FamIn u w p F bs) : F p := by obtain ⟨vm, h⟩ := h; exact h.at_
theorem FamIn.new (w : World) : FamIn u (w.alloc (.cells #[u.1, u.2.1, u.2.2, .map none] 124)) w.heap.size (fun b => b = w.heap.size) [] :=
  ⟨_, heap_alloc_new w _, .inl ⟨rfl, rfl⟩, rfl, fun b e => by simp [e]⟩
/-- 'p, ok := f.parents[c]' -/
theorem FamIs.look (h : FamIs u w p F vm bs) (hs : SortedB bs) (a b : Int) (ha : I64r a) (hb : I64r b) :
    (Instr.lookup 120 vm (.agg #[.int .i64 a, .int .i64 b]) true).run Tryz.prog w = .ok (.tuple #[.agg #[.int .i64 (parB bs (a, b)).1, .int .i64 (parB bs (a, b)).2], .bool (hasP bs (a, b))]) w := by
  rcases h.map with ⟨rfl, rfl⟩ | ⟨bb, ks, f, rfl, hm, hB, _⟩
  · have := Maps.look_nil (w := w) true kHand.law Tryz.underlying120 (zeroHand w) (kHand.key (a, b) ⟨ha, hb⟩)
    simpa [kHand, hasP, parB] using this
  · have := hm.look2 Tryz.underlying120 (zeroHand w) (a, b) ⟨ha, hb⟩
    by_cases hc : (a, b) ∈ ks
    · obtain ⟨q, hq⟩ := hB.some_ _ hc
      obtain ⟨e1, e2⟩ := parB_of hs hq
      rw [e1, e2]
      rw [if_pos hc, (hB.val _ _ hq).2] at this
      simpa [hc, kHand] using this
    · have hn : hasP bs (a, b) = false := hasP_no (fun q hq => hc (hB.val _ _ hq).1)
      rw [hn, (hasP_none hn).1]
      rw [if_neg hc] at this
      simpa [hc, kHand] using this
end


set_option maxHeartbeats 2000000 in
theorem famParent_any (p : Nat) (F : Nat → Prop) (bs : List Bd) (a b c d : Int) (g : Bool) (w : World) (h : FamIn u w p F bs) (hs : SortedB bs) (ha : I64r a) (hb : I64r b) (hq : parB bs (a, b) = (c, d)) (hg : hasP bs (a, b) = g) :
    Calls Tryz.prog 75 #[.pointer (some ⟨p, 3, none⟩), .agg #[.int .i64 a, .int .i64 b]] w fun e w' => e = .returned (.tuple #[.agg #[.int .i64 c, .int .i64 d], .bool g]) ∧ Below w.heap.size w w' := by
  obtain ⟨vm, h⟩ := h
  have hlook := fun (Y : World) (hY : Below w.heap.size w Y) => (h.later hY).look hs a b ha hb
  rw [hq, hg] at hlook
  have hX : Below w.heap.size w ((w.alloc (.cells #[.int .i64 a, .int .i64 b] 49)).alloc (.cells #[.int .i64 0, .int .i64 0] 49)) := nb_alloc (nb_alloc (Below.refl _ _) _) _
  have hsz : ((w.alloc (.cells #[.int .i64 a, .int .i64 b] 49)).alloc (.cells #[.int .i64 0, .int .i64 0] 49)).heap.size = w.heap.size + 2 := by simp
  have hbb : ((w.alloc (.cells #[.int .i64 a, .int .i64 b] 49)).alloc (.cells #[.int .i64 0, .int .i64 0] 49)).heap[w.heap.size + 1]? = some (.cells #[.int .i64 0, .int .i64 0] 49) := heap_alloc2_new _ _ _
  have hhb : ((w.alloc (.cells #[.int .i64 a, .int .i64 b] 49)).alloc (.cells #[.int .i64 0, .int .i64 0] 49)).heap[w.heap.size]? = some (.cells #[.int .i64 a, .int .i64 b] 49) := heap_alloc2_old _ _ _
  have HX := Lib.hid hX
  have HL := Lib.hid hlook
  have HW := Lib.hid (h.later hX)
  clear h hX hlook hs hq hg
  go_enter Tryz.func75, Tryz.ntmps75
  go_wp2_with fail
  generalize ((w.alloc (.cells #[.int .i64 a, .int .i64 b] 49)).alloc (.cells #[.int .i64 0, .int .i64 0] 49)) = X at *
  have c2 := HW.out.cell
  have hpl := HW.out.plt
  obtain ⟨kh0, kh1⟩ := hCells (a := a) (b := b) hhb
  have hlk := HL.out X.drew HX.out.drew
  have hlk1 := HL.out (X.alloc (.cells #[.int .i64 0, .int .i64 0] 49)).drew (nb_alloc HX.out _).drew
  have fz : ∀ j, X.frozen? ⟨w.heap.size + 1, j, none⟩ = false := fun j => frozen_of_row _ _ _ _ _ hbb
  have hbl : w.heap.size + 1 < X.heap.size := by omega
  have hhl : w.heap.size < X.heap.size := by omega
  obtain ⟨k0, k1⟩ := hCells (a := 0) (b := 0) hbb
  clear hhb hsz hbb HW HL
  go_region
  all_goals
    clear hlk hlk1 kh0 kh1 c2
    go_wp2
    refine bodyPost_ret (v := .tuple #[.agg #[.int .i64 c, .int .i64 d], .bool g]) (by simp [results, Tryz.results75, go_sem, hbl, k0, k1]) rfl ⟨rfl, ?_⟩
    refine Below.drew ?_
    refine nb_alloc ?_ _
    iterate 2 (refine nbf_set ?_ _ _ _ (by omega))
    exact HX.out

end Go.Proofs.YtndhomjfjhohoaaGreatDoor

/- Bonds as they lie in slices; cmp.Or of two ints; the contracts of the reference's Eq and Has over bonds. -/
namespace Go.Proofs.YtndhomjfjhohoaaGreatDoor
set_option maxRecDepth 8000
set_option maxRecDepth 8000
open Go.RowKit

def bdZ : Bd := ((0, 0), (0, 0))
def elBond : El Bd := { enc := fun x => [.int .i64 x.1.1, .int .i64 x.1.2, .int .i64 x.2.1, .int .i64 x.2.2], size := 4, zero := bdZ, len := fun _ => rfl, pos := by decide, one := fun x u hu => by simp at hu; rcases hu with rfl | rfl | rfl | rfl <;> rfl }
theorem infoBond : (Tryz.prog.info? 58).map (fun i => (i.zero, i.size, i.bytes)) = some (some (.agg #[.int .i64 0, .int .i64 0, .int .i64 0, .int .i64 0]), 4, 32) := by kernel_rfl

set_option maxHeartbeats 2000000 in
theorem eqBond_any (u v : Value) (xs ys : List Bd) (w : World) (hx : Reads elBond w u xs) (hy : Reads elBond w v ys) :
    Calls Tryz.prog 30 #[u, v] w fun e w' => e = .returned (.bool (decide (xs = ys))) ∧ Below w.heap.size w w' := by
  obtain ⟨hm, hx⟩ := hx.open
  obtain ⟨hm', hy⟩ := hy.open
  unfold maxLen at hm hm'
  generalize hn : xs.length = n at *
  generalize hn' : ys.length = n' at *
  have HN := Lib.hid hn
  have HN' := Lib.hid hn'
  clear hn hn'
  by_cases e : n = n'
  · subst e
    rcases hx with ⟨a, cap, rfl, hz⟩ | ⟨b, off, cap, rfl, hb, hlc, hcm, hc⟩ <;> rcases hy with ⟨a', cap', rfl, hz'⟩ | ⟨b', off', cap', rfl, hb', hlc', hcm', hc'⟩
    all_goals
      have hne : ((n : Int) != (n : Int)) = false := by simp
      go_enter Tryz.func30, Tryz.ntmps30
      go_wp2
      go_loopw [14] (fun i wr => ∃ k : Nat, k ≤ n ∧ i = .int .i64 k ∧ Hid (∀ j, j < k → xs.getD j bdZ = ys.getD j bdZ) ∧ Hid (Below w.heap.size w wr)) (fun i _ => n - (intOf i).toNat)
      case atStart => exact ⟨0, by omega, rfl, fun j hj => by omega, Below.refl _ _⟩
      case round =>
        obtain ⟨k, hk, rfl, hno, hB⟩ := hrel
        by_cases hlt : k < n
        · first
            | omega
            | (have hcr : ∀ jj, jj < 4 → wr.cell? ⟨b, off + k * 4 + jj, none⟩ = (elBond.enc (xs.getD k bdZ))[jj]? := fun jj hjj => by rw [hB.out.cell (p := ⟨b, _, none⟩) hb]; exact hc k hlt jj hjj
               have hcr' : ∀ jj, jj < 4 → wr.cell? ⟨b', off' + k * 4 + jj, none⟩ = (elBond.enc (ys.getD k bdZ))[jj]? := fun jj hjj => by rw [hB.out.cell (p := ⟨b', _, none⟩) hb']; exact hc' k hlt jj hjj
               clear hc hc'
               have hbw : b < wr.heap.size := Nat.lt_of_lt_of_le hb hB.out.size
               have hbw' : b' < wr.heap.size := Nat.lt_of_lt_of_le hb' hB.out.size
               have HD := Lib.hid (fun h => neD (a := xs) (b := ys) (d := bdZ) (j := k) h)
               generalize hgx : xs.getD k bdZ = x at *
               generalize hgy : ys.getD k bdZ = y at *
               have HX := Lib.hid hgx
               have HY := Lib.hid hgy
               clear hgx hgy
               obtain ⟨⟨x1, x2⟩, x3, x4⟩ := x
               obtain ⟨⟨y1, y2⟩, y3, y4⟩ := y
               have c0 : wr.cell? ⟨b, off + k * 4, none⟩ = some (.int .i64 x1) := hcr 0 (by decide)
               have c1 : wr.cell? ⟨b, off + k * 4 + 1, none⟩ = some (.int .i64 x2) := hcr 1 (by decide)
               have c2 : wr.cell? ⟨b, off + k * 4 + 2, none⟩ = some (.int .i64 x3) := hcr 2 (by decide)
               have c3 : wr.cell? ⟨b, off + k * 4 + 3, none⟩ = some (.int .i64 x4) := hcr 3 (by decide)
               have e0 : wr.cell? ⟨b', off' + k * 4, none⟩ = some (.int .i64 y1) := hcr' 0 (by decide)
               have e1 : wr.cell? ⟨b', off' + k * 4 + 1, none⟩ = some (.int .i64 y2) := hcr' 1 (by decide)
               have e2 : wr.cell? ⟨b', off' + k * 4 + 2, none⟩ = some (.int .i64 y3) := hcr' 2 (by decide)
               have e3 : wr.cell? ⟨b', off' + k * 4 + 3, none⟩ = some (.int .i64 y4) := hcr' 3 (by decide)
               clear hcr hcr'
               cases h1 : (x1 == y1) <;> cases h2 : (x2 == y2) <;> cases h3 : (x3 == y3) <;> cases h4 : (x4 == y4)
               all_goals
                 go_wp2
                 go_quiet (fail)
                 go_wp2
                 first
                   | (go_roundw
                      case rel =>
                        obtain rfl := eq_of_beq h1
                        obtain rfl := eq_of_beq h2
                        obtain rfl := eq_of_beq h3
                        obtain rfl := eq_of_beq h4
                        exact ⟨k + 1, by omega, by go_num, fun j hj => if e : j = k then by rw [e, HX.out, HY.out] else hno.out j (by omega), nb_drewN (nb_alloc hB.out _)⟩
                      case measure => simp [intOf]; omega)
                   | (go_ret
                      have hne' : ¬ (((x1, x2), (x3, x4)) = ((y1, y2), (y3, y4))) := by intro e9; simp only [Prod.mk.injEq] at e9; obtain ⟨⟨rfl, rfl⟩, rfl, rfl⟩ := e9; first | (simp at h1; done) | (simp at h2; done) | (simp at h3; done) | (simp at h4; done)
                      exact ⟨ret_bool (by rw [decide_eq_false (HD.out hne')]), nb_drewN (nb_alloc hB.out _)⟩))
        · obtain rfl : k = n := by omega
          go_wp2
          go_ret
          exact ⟨ret_bool (by rw [decide_eq_true (eqD (by rw [HN.out, HN'.out]) (by rw [HN.out]; exact hno.out))]), hB.out⟩
  · have hne : ((n : Int) != (n' : Int)) = true := by rw [bne_iff_ne]; omega
    have HF : Hid (xs ≠ ys) := Lib.hid (fun h => e (by rw [← HN.out, ← HN'.out, h]))
    clear e
    rcases hx with ⟨a, cap, rfl, hz⟩ | ⟨b, off, cap, rfl, hb, hlc, hcm, hc⟩ <;> rcases hy with ⟨a', cap', rfl, hz'⟩ | ⟨b', off', cap', rfl, hb', hlc', hcm', hc'⟩
    all_goals
      go_enter Tryz.func30, Tryz.ntmps30
      go_wp2
      go_ret
      exact ⟨ret_bool (by rw [decide_eq_false HF.out]), Below.refl _ _⟩
end Go.Proofs.YtndhomjfjhohoaaGreatDoor

/- Bonds are sorted by their children: slices.SortFunc with the literal of selected. -/
namespace Go.Proofs.YtndhomjfjhohoaaGreatDoor
set_option maxRecDepth 8000
set_option maxRecDepth 8000
open Go.RowKit Go.Shelf Go.Lib Go.Sort

instance : Inhabited Bd := ⟨bdZ⟩
end Go.Proofs.YtndhomjfjhohoaaGreatDoor

/- The contract of selected of package family, with the literals of Bonds, Children and Gone; Bonds. -/
namespace Go.Proofs.YtndhomjfjhohoaaGreatDoor
set_option maxRecDepth 8000
set_option maxRecDepth 8000
open Go.RowKit
variable {u : Value × Value × Value}

/-- What a loop over the bonds has picked: those that are wanted, of the children that have come. -/
structure PickB (bs : List Bd) (q : Bd → Bool) (todo : List Hd) (ys : List Bd) : Prop where
  sub : ∀ x ∈ ys, x ∈ bs ∧ x.1 ∉ todo ∧ q x = true
  all : ∀ x ∈ bs, x.1 ∉ todo → q x = true → x ∈ ys
  nd : (ys.map (·.1)).Nodup
theorem PickB.start {bs : List Bd} {q : Bd → Bool} {ks : List Hd} (h : ∀ c p, (c, p) ∈ bs → c ∈ ks) : PickB bs q ks [] :=
  ⟨by simp, fun x hx hn => absurd (h x.1 x.2 hx) hn, by simp⟩
theorem PickB.len {bs : List Bd} {q : Bd → Bool} {todo : List Hd} {ys : List Bd} (h : PickB bs q todo ys) : ys.length ≤ bs.length := by
  have := nodup_sub_len (ys := bs.map (·.1)) h.nd (fun x hx => by
    obtain ⟨y, hy, rfl⟩ := List.mem_map.1 hx
    exact List.mem_map.2 ⟨y, (h.sub y hy).1, rfl⟩)
  simpa using this
theorem PickB.skip {bs : List Bd} {q : Bd → Bool} {todo : List Hd} {ys : List Bd} (h : PickB bs q todo ys) (hs : SortedB bs) {c p : Hd} (hb : (c, p) ∈ bs) (hq : q (c, p) = false) : PickB bs q (todo.filter (fun y => !decide (y = c))) ys := by
  refine ⟨fun x hx => ⟨(h.sub x hx).1, fun hm => (h.sub x hx).2.1 (List.mem_filter.1 hm).1, (h.sub x hx).2.2⟩, fun x hx hn hqx => ?_, h.nd⟩
  by_cases e : x.1 = c
  · have e2 : x = (c, p) := Prod.ext e (hs.fn (c := c) (by rw [← e]; exact hx) hb)
    rw [e2, hq] at hqx; cases hqx
  · exact h.all x hx (fun hm => hn (List.mem_filter.2 ⟨hm, by simpa using e⟩)) hqx
theorem PickB.next {bs : List Bd} {q : Bd → Bool} {todo : List Hd} {ys : List Bd} (h : PickB bs q todo ys) (hs : SortedB bs) {c p : Hd} (hc : c ∈ todo) (hb : (c, p) ∈ bs) (hq : q (c, p) = true) : PickB bs q (todo.filter (fun y => !decide (y = c))) (ys ++ [(c, p)]) := by
  refine ⟨fun x hx => ?_, fun x hx hn hqx => ?_, ?_⟩
  · rcases List.mem_append.1 hx with hx | hx
    · exact ⟨(h.sub x hx).1, fun hm => (h.sub x hx).2.1 (List.mem_filter.1 hm).1, (h.sub x hx).2.2⟩
    · simp at hx; subst hx
      exact ⟨hb, fun hm => by have := (List.mem_filter.1 hm).2; simp at this, hq⟩
  · by_cases e : x.1 = c
    · have e2 : x = (c, p) := Prod.ext e (hs.fn (c := c) (by rw [← e]; exact hx) hb)
      rw [e2]; simp
    · exact List.mem_append_left _ (h.all x hx (fun hm => hn (List.mem_filter.2 ⟨hm, by simpa using e⟩)) hqx)
  · rw [List.map_append, List.nodup_append]
    refine ⟨h.nd, by simp, fun x hx y hy e => ?_⟩
    simp at hy
    obtain ⟨z, hz, rfl⟩ := List.mem_map.1 hx
    exact (h.sub z hz).2.1 (by rw [e, hy]; exact hc)
theorem PickB.done {bs : List Bd} {q : Bd → Bool} {ys zs : List Bd} (h : PickB bs q [] ys) (hs : SortedB bs) (hp : zs.Perm ys) (hz : zs.Pairwise (fun x y => ¬ hlt y.1 x.1)) : zs = bs.filter q := by
  refine SortedB.ext (SortedB.ofPerm ((hp.map (·.1)).nodup_iff.2 h.nd) hz) (hs.filter q) (fun b => ?_)
  rw [hp.mem_iff, List.mem_filter]
  exact ⟨fun hb => ⟨(h.sub b hb).1, (h.sub b hb).2.2⟩, fun hb => h.all b hb.1 (by simp) hb.2⟩
def SelPost (w : World) (xs : List Bd) (e : Ending) (w' : World) : Prop := ∃ v, e = .returned v ∧ OwnsF elBond w' w.heap.size 58 v xs ∧ Below w.heap.size w w'
theorem SelPost.sorted {w w4 w5 : World} {B : Nat} {v : Value} {xs zs : List Bd} (hz : zs = xs) (ho : OwnsF elBond w5 B 58 v zs) (hB : w.heap.size ≤ B) (hb : Below w.heap.size w w4) (hk : Kept (fun b => v.ownBlock = some b) w4 w5) : SelPost w xs (.returned v) w5 := by
  refine ⟨v, rfl, ?_, hb.trans (hk.below hb.size (fun k e => by have := ho.ge e; omega))⟩
  rw [← hz]
  exact ho.weaken hB

theorem eqHd {a b c d : Int} : decide (((a, b) : Hd) = (c, d)) = ((a == c) && (b == d)) := by
  by_cases h1 : a = c <;> by_cases h2 : b = d <;> simp [h1, h2]
end Go.Proofs.YtndhomjfjhohoaaGreatDoor

/- The contracts of Children and Gone of package family. -/
namespace Go.Proofs.YtndhomjfjhohoaaGreatDoor
set_option maxRecDepth 8000
set_option maxRecDepth 8000
open Go.RowKit
variable {u : Value × Value × Value}

def HandsPost (w : World) (xs : List Hd) (e : Ending) (w' : World) : Prop := ∃ v, e = .returned v ∧ OwnsF elHand w' w.heap.size 49 v xs ∧ Below w.heap.size w w'


end Go.Proofs.YtndhomjfjhohoaaGreatDoor

/- The iterator ancestors of package family: all above a handle, from its parent on. -/
namespace Go.Proofs.YtndhomjfjhohoaaGreatDoor
set_option maxRecDepth 100000
open Go.RowKit Go.Shelf
variable {u : Value × Value × Value}
attribute [local go_sem] Oper.semAt_some

/-- What is still to come, behind a look at the parent. -/
def AncRest (bs : List Bd) (g : Bool) (y : Hd) (rest : List Hd) : Prop := (g = false ∧ rest = []) ∨ (g = true ∧ ∃ r, rest = y :: r ∧ IsAnc bs y r)
theorem IsAnc.unique {bs : List Bd} (hs : SortedB bs) : ∀ {A B : List Hd} {x : Hd}, IsAnc bs x A → IsAnc bs x B → A = B
  | [], [], _, _, _ => rfl
  | [], b :: _, _, h, k => absurd k.1 (h b)
  | a :: _, [], _, h, k => absurd h.1 (k a)
  | a :: r, b :: r', x, h, k => by
    have e := hs.fn h.1 k.1
    subst e
    rw [IsAnc.unique hs h.2 k.2]
theorem AncRest.of {bs : List Bd} {x : Hd} {A : List Hd} (hs : SortedB bs) (h : IsAnc bs x A) : AncRest bs (hasP bs x) (parB bs x) A := by
  cases A with
  | nil => exact .inl ⟨hasP_no h, rfl⟩
  | cons y r =>
    obtain ⟨e1, e2⟩ := parB_of hs h.1
    exact .inr ⟨e1, r, by rw [e2], by rw [e2]; exact h.2⟩
def AncAt (bs : List Bd) (v4 v5 : Value) (wr : World) (rest : List Hd) : Prop :=
  ∃ (q : Nat) (y : Hd) (g : Bool), v4 = .pointer (some ⟨q, 0, none⟩) ∧ v5 = .bool g ∧ wr.cell? ⟨q, 0, none⟩ = some (.int .i64 y.1) ∧ wr.cell? ⟨q, 1, none⟩ = some (.int .i64 y.2) ∧ AncRest bs g y rest
theorem AncAt.unique {bs : List Bd} (hs : SortedB bs) {v4 v5 : Value} {wr : World} {r r' : List Hd} (h : AncAt bs v4 v5 wr r) (k : AncAt bs v4 v5 wr r') : r = r' := by
  obtain ⟨q, y, g, rfl, rfl, h1, h2, h3⟩ := h
  obtain ⟨q', y', g', e1, e2, k1, k2, k3⟩ := k
  simp only [Value.pointer.injEq, Option.some.injEq, Addr.mk.injEq, and_true] at e1
  subst e1
  simp only [Value.bool.injEq] at e2
  subst e2
  rw [h1] at k1
  rw [h2] at k2
  simp only [Option.some.injEq, Value.int.injEq, true_and] at k1 k2
  obtain rfl : y = y' := Prod.ext k1 k2
  rcases h3 with ⟨rfl, rfl⟩ | ⟨rfl, s, rfl, hs1⟩ <;> rcases k3 with ⟨e, rfl⟩ | ⟨e, s', rfl, hs2⟩
  · rfl
  · cases e
  · cases e
  · rw [IsAnc.unique hs hs1 hs2]
open Classical in
noncomputable def ancLeft (bs : List Bd) (v4 v5 : Value) (wr : World) : Nat := if h : ∃ rest, AncAt bs v4 v5 wr rest then (Classical.choose h).length else 0
theorem ancLeft_eq {bs : List Bd} (hs : SortedB bs) {v4 v5 : Value} {wr : World} {rest : List Hd} (h : AncAt bs v4 v5 wr rest) : ancLeft bs v4 v5 wr = rest.length := by
  unfold ancLeft
  rw [dif_pos ⟨rest, h⟩, AncAt.unique hs (Classical.choose_spec (⟨rest, h⟩ : ∃ rest, AncAt bs v4 v5 wr rest)) h]
theorem abides_later {β : Type} {B : Nat} {J : β → World → Prop} (h : AbidesFrom B J) {s : β} {W W' : World} (hs : J s W) (hb : Below W.heap.size W W') : J s W' :=
  h s W W' none hs ⟨hb.os, hb.tape, hb.output, hb.size, fun k hk _ => hb.block k hk⟩ (fun r e => by cases e)
/-- A round keeps what lay below n0, and all variables. -/
def KpC (n0 : Nat) (W W' : World) : Prop := Below n0 W W' ∧ ∀ (k : Nat) (c : Array Value) (T : TypeId) (f : Nat × Nat), W.heap[k]? = some (.cells c T f) → W'.heap[k]? = some (.cells c T f)
theorem KpC.trans {n0 : Nat} {A B C : World} (h : KpC n0 A B) (k : KpC n0 B C) : KpC n0 A C := ⟨h.1.trans k.1, fun i c T f e => k.2 i c T f (h.2 i c T f e)⟩
theorem KpC.put {n0 : Nat} {w : World} (hn : n0 ≤ w.heap.size) (W : World) (l : Nat) (o o' : Obj) (hl : w.heap.size ≤ l) (ho : W.heap[l]? = some o) (hc : o.isCells = false) (hw : o.isWalk = false) : KpC n0 W (W.putObj l o') := by
  refine ⟨belowK_b (w := w) hn W l o o' hl ho hc hw, fun k c T f e => ?_⟩
  have hne : k ≠ l := by
    rintro rfl
    rw [e] at ho
    cases ho
    cases hc
  rw [(grownBy_putObj' W l o').block k (Array.getElem?_eq_some_iff.1 e).1 (fun q => hne (by cases q; rfl))]
  exact e
theorem KpC.later {n0 : Nat} {W W' : World} (hn : n0 ≤ W.heap.size) (h : Below W.heap.size W W') : KpC n0 W W' := ⟨h.mono hn, fun k c T f e => by rw [h.block k (Array.getElem?_eq_some_iff.1 e).1]; exact e⟩
theorem IsAnc.okA {bs : List Bd} (hok : ∀ b ∈ bs, okH b.1 ∧ okH b.2) : ∀ {A : List Hd} {x : Hd}, IsAnc bs x A → ∀ y ∈ A, okH y
  | [], _, _, y, hy => by simp at hy
  | p :: r, x, h, y, hy => by
    rcases List.mem_cons.1 hy with rfl | hy
    · exact (hok _ h.1).2
    · exact IsAnc.okA hok h.2 y hy

set_option maxHeartbeats 4000000 in
theorem anc1_in (n : Nat) (hn : 1 ≤ n) (l Bf Bh p n0 n1 : Nat) (F : Nat → Prop) (bs : List Bd) (A : List Hd) (a b : Int) (J Jx : List Hd → World → Prop)
    (hY : ∀ pre x W, J pre W → pre.length < A.length → YieldAt Fence.wide (n - 1) Tryz.prog l #[.agg #[.int .i64 x.1, .int .i64 x.2]] W fun e W' =>
      (e = .returned (.bool true) ∧ J (pre ++ [x]) W' ∧ KpC n0 W W') ∨ (e = .returned (.bool false) ∧ Jx (pre ++ [x]) W'))
    (hJ : AbidesFrom n1 J) (W : World) (hBf : W.heap[Bf]? = some (.cells #[.pointer (some ⟨p, 3, none⟩)] 155)) (hBh : W.heap[Bh]? = some (.cells #[.int .i64 a, .int .i64 b] 49)) (hf0 : Bf < n0) (hnW : n0 ≤ W.heap.size)
    (hfam : FamIn u W p F bs) (hF : ∀ i, F i → i < n0) (hs : SortedB bs) (hok : ∀ b ∈ bs, okH b.1 ∧ okH b.2) (hab : okH (a, b)) (hA : IsAnc bs (a, b) A) (h0 : J [] W) :
    CallsIn Fence.wide n Tryz.prog 170 #[.func (.yield l) #[] #[], .pointer (some ⟨Bf, 0, none⟩), .pointer (some ⟨Bh, 0, none⟩)] W fun e W' => (∃ v, e = .returned v) ∧
      ((∃ ys, ys = A ∧ J ys W') ∨ (∃ pre, pre <+: A ∧ Jx pre W')) := by
  obtain ⟨vm, hfam⟩ := hfam
  have hlt := (Array.getElem?_eq_some_iff.1 hBf).1
  have hlt2 := (Array.getElem?_eq_some_iff.1 hBh).1
  have cf : W.cell? ⟨Bf, 0, none⟩ = some (.pointer (some ⟨p, 3, none⟩)) := by rw [cell_of_row _ _ _ _ _ _ hBf]; rfl
  obtain ⟨kh0, kh1⟩ := hCells (a := a) (b := b) hBh
  have cm := hfam.cell
  have hpl := hfam.plt
  have HFAM : Hid (∀ Y, Below n0 W Y → FamIs u Y p F vm bs) := Lib.hid (fun Y hY => hfam.kept (G := fun i => n0 ≤ i) ⟨hY.os, hY.tape, hY.output, hY.size, fun k _ hf => hY.block k (by omega)⟩ (fun i hi hi2 => by have := hF i hi; omega))
  have HLK : Hid (∀ Y, Below n0 W Y → ∀ x : Hd, okH x → (Instr.lookup 120 vm (.agg #[.int .i64 x.1, .int .i64 x.2]) true).run Tryz.prog Y = .ok (.tuple #[.agg #[.int .i64 (parB bs x).1, .int .i64 (parB bs x).2], .bool (hasP bs x)]) Y) := Lib.hid (fun Y hY x hx => (HFAM.out Y hY).look hs x.1 x.2 hx.1 hx.2)
  have HJ := Lib.hid hJ
  have HS := Lib.hid hs
  have HOKA := Lib.hid (hA.okA hok)
  have HR0 := Lib.hid (AncRest.of hs hA)
  have HCF : Hid (∀ Y, Below n0 W Y → Y.cell? ⟨Bf, 0, none⟩ = some (.pointer (some ⟨p, 3, none⟩)) ∧ Y.cell? ⟨p, 3, none⟩ = some vm ∧ p < Y.heap.size ∧ Bf < Y.heap.size) := Lib.hid (fun Y hY => ⟨by rw [hY.cell (p := ⟨Bf, 0, none⟩) hf0]; exact cf, (HFAM.out Y hY).cell, (HFAM.out Y hY).plt, Nat.lt_of_lt_of_le hlt hY.size⟩)
  have HBW : Hid (∀ o, Below n0 W (W.alloc o).drew ∧ Below n0 W (W.alloc o)) := Lib.hid (fun o => ⟨((nb_alloc (Below.refl _ W) o).mono hnW).drew, (nb_alloc (Below.refl _ W) o).mono hnW⟩)
  have hlk := HLK.out W.drew (Below.refl _ _).drew (a, b) hab
  have hlk1 := HLK.out (W.alloc (.cells #[.int .i64 0, .int .i64 0] 49)).drew (HBW.out _).1 (a, b) hab
  dsimp only at hlk hlk1
  obtain ⟨y0, hy0⟩ : ∃ y, parB bs (a, b) = y := ⟨_, rfl⟩
  obtain ⟨g0, hg0⟩ : ∃ g, hasP bs (a, b) = g := ⟨_, rfl⟩
  rw [hy0, hg0] at hlk hlk1 HR0
  clear hy0 hg0
  clear hfam hF hs hok hA hJ hBf hBh
  refine callsIn_of_wp Tryz.func170 rfl trivial ?_ rfl
  simp only [Tryz.ntmps170, List.size_toArray, List.length_cons, List.length_nil, Nat.reduceAdd, Nat.reduceSub, Array.replicate_succ, Array.replicate_zero, List.push_toArray, List.append_toArray, List.nil_append, List.cons_append]
  gi_wp2_with fail
  gi_region
  all_goals
    have HV : Hid (Below n0 W (W.alloc (.cells #[.int .i64 y0.1, .int .i64 y0.2] 49)).drew) := Lib.hid (HBW.out _).1
    have HJ0 : Hid (J [] (W.alloc (.cells #[.int .i64 y0.1, .int .i64 y0.2] 49)).drew) := Lib.hid (abides_later HJ.out h0 (nb_alloc (Below.refl _ _) _).drew)
    have HC0 : Hid ((W.alloc (.cells #[.int .i64 y0.1, .int .i64 y0.2] 49)).drew.heap[W.heap.size]? = some (.cells #[.int .i64 y0.1, .int .i64 y0.2] 49)) := Lib.hid (heap_alloc_new _ _)
    generalize (W.alloc (.cells #[.int .i64 y0.1, .int .i64 y0.2] 49)).drew = V at *
    clear hlk hlk1 kh0 kh1 cf cm h0
    gi_wp2
    gi_loopw [4, 5] (fun v4 v5 wr => ∃ (pre rest : List Hd) (q : Nat) (y : Hd) (g : Bool), v4 = .pointer (some ⟨q, 0, none⟩) ∧ v5 = .bool g ∧ Hid (wr.heap[q]? = some (.cells #[.int .i64 y.1, .int .i64 y.2] 49)) ∧ Hid (AncRest bs g y rest) ∧ Hid (A = pre ++ rest) ∧ Hid (J pre wr) ∧ Hid (Below n0 W wr)) (fun v4 v5 wr => ancLeft bs v4 v5 wr)
    case atStart => exact ⟨[], A, _, y0, g0, rfl, rfl, HC0, HR0, Lib.hid rfl, HJ0, HV⟩
    case round =>
      obtain ⟨pre, rest, q, y, g, rfl, rfl, hq, hr, hA, hJp, hB⟩ := hrel
      have hql := (Array.getElem?_eq_some_iff.1 hq.out).1
      obtain ⟨kq0, kq1⟩ := hCells (a := y.1) (b := y.2) hq.out
      have HAT : Hid (AncAt bs (.pointer (some ⟨q, 0, none⟩)) (.bool g) wr rest) := Lib.hid ⟨q, y, g, rfl, rfl, kq0, kq1, hr.out⟩
      rcases hr.out with ⟨rfl, rfl⟩ | ⟨rfl, r, rfl, hyr⟩
      · clear kq0 kq1
        gi_wp2
        go_end0
        exact ⟨⟨_, rfl⟩, .inl ⟨pre, by rw [hA.out, List.append_nil], hJp.out⟩⟩
      · have HYR := Lib.hid hyr
        have hyA : y ∈ A := by rw [hA.out]; simp
        obtain ⟨fn, tmps, assign, body, hy, hRd⟩ := hY pre y wr hJp.out (by rw [hA.out]; simp)
        clear hyr
        gi_wp2
        refine hRd.mono ?_
        rintro e W3 (⟨rfl, hJ3, hk3⟩ | ⟨rfl, hJx3⟩)
        · have hB3 : Below n0 W W3 := hB.out.trans hk3.1
          have hq3 := hk3.2 _ _ _ _ hq.out
          have hql3 := (Array.getElem?_eq_some_iff.1 hq3).1
          obtain ⟨kr0, kr1⟩ := hCells (a := y.1) (b := y.2) hq3
          have hn3 : n0 ≤ W3.heap.size := Nat.le_trans hnW hB3.size
          have hB4 : Below n0 W (W3.alloc (.cells #[.int .i64 y.1, .int .i64 y.2] 49)) := hB3.alloc hn3 _
          have HJ3 := Lib.hid hJ3
          have HB34 : Hid (Below W3.heap.size W3 (W3.alloc (.cells #[.int .i64 y.1, .int .i64 y.2] 49))) := Lib.hid (nb_alloc (Below.refl _ _) _)
          have hc4 : (W3.alloc (.cells #[.int .i64 y.1, .int .i64 y.2] 49)).heap[W3.heap.size]? = some (.cells #[.int .i64 y.1, .int .i64 y.2] 49) := heap_alloc_new _ _
          have HB4 := Lib.hid hB4
          have HC4 := Lib.hid hc4
          have HSZ4 : Hid ((W3.alloc (.cells #[.int .i64 y.1, .int .i64 y.2] 49)).heap.size = W3.heap.size + 1) := Lib.hid (by simp)
          clear hB3 hJ3 hk3 hq3 hB4 hc4 kq0 kq1
          gi_wp2_with fail
          generalize W3.alloc (.cells #[.int .i64 y.1, .int .i64 y.2] 49) = V4 at *
          obtain ⟨cf, cm, hpl4, hbf4⟩ := HCF.out V4 HB4.out
          have hl4 : W3.heap.size < V4.heap.size := (Array.getElem?_eq_some_iff.1 HC4.out).1
          obtain ⟨ks0, ks1⟩ := hCells (a := y.1) (b := y.2) HC4.out
          have fz : ∀ j, V4.frozen? ⟨W3.heap.size, j, none⟩ = false := fun j => frozen_of_row _ _ _ _ _ HC4.out
          have hlk := HLK.out V4.drew HB4.out.drew y (HOKA.out y hyA)
          have HR4 := Lib.hid (AncRest.of HS.out HYR.out)
          obtain ⟨y1, hy1⟩ : ∃ z, parB bs y = z := ⟨_, rfl⟩
          obtain ⟨g1, hg1⟩ : ∃ g, hasP bs y = g := ⟨_, rfl⟩
          rw [hy1, hg1] at hlk HR4
          clear hy1 hg1 kr0 kr1
          gi_region
          all_goals
            have hq5 : ((V4.setCell ⟨W3.heap.size, 0, none⟩ (.int .i64 y1.1)).setCell ⟨W3.heap.size, 1, none⟩ (.int .i64 y1.2)).drew.heap[W3.heap.size]? = some (.cells #[.int .i64 y1.1, .int .i64 y1.2] 49) := heap_setCell_same _ _ 1 _ _ _ (heap_setCell_same _ _ 0 _ _ _ HC4.out)
            have hB5 : Below W3.heap.size W3 ((V4.setCell ⟨W3.heap.size, 0, none⟩ (.int .i64 y1.1)).setCell ⟨W3.heap.size, 1, none⟩ (.int .i64 y1.2)).drew := (nbf_set (nbf_set HB34.out _ 0 _ (Nat.le_refl _)) _ 1 _ (Nat.le_refl _)).drew
            have HQ5 := Lib.hid hq5
            have HJ5 := Lib.hid (abides_later HJ.out HJ3.out hB5)
            have HB5 : Hid (Below n0 W ((V4.setCell ⟨W3.heap.size, 0, none⟩ (.int .i64 y1.1)).setCell ⟨W3.heap.size, 1, none⟩ (.int .i64 y1.2)).drew) := Lib.hid (nbf_set (nbf_set HB4.out _ 0 _ hn3) _ 1 _ hn3).drew
            generalize ((V4.setCell ⟨W3.heap.size, 0, none⟩ (.int .i64 y1.1)).setCell ⟨W3.heap.size, 1, none⟩ (.int .i64 y1.2)).drew = V5 at *
            clear hq5 hB5 hlk ks0 ks1 fz cf cm
            gi_wp2
            go_roundw
            case rel => exact ⟨pre ++ [y], r, _, y1, g1, rfl, rfl, HQ5, HR4, Lib.hid (by rw [hA.out]; simp), HJ5, HB5⟩
            case measure =>
              rw [ancLeft_eq HS.out HAT.out, ancLeft_eq HS.out (rest := r) ⟨_, y1, g1, rfl, rfl, by rw [cell_of_row _ _ _ _ _ _ HQ5.out]; rfl, by rw [cell_of_row _ _ _ _ _ _ HQ5.out]; rfl, HR4.out⟩]
              simp
        · clear kq0 kq1
          gi_wp2
          refine bodyPost_ret (results_none rfl _ _ _) rfl ?_
          exact ⟨⟨_, rfl⟩, .inr ⟨pre ++ [y], ⟨r, by rw [hA.out]; simp⟩, hJx3⟩⟩
end Go.Proofs.YtndhomjfjhohoaaGreatDoor

/- The contract of Adopt of package family. -/
namespace Go.Proofs.YtndhomjfjhohoaaGreatDoor
set_option maxRecDepth 8000
set_option maxRecDepth 100000
open Go.RowKit Go.Shelf
variable {u : Value × Value × Value}
attribute [local go_sem] Oper.semAt_some

set_option maxHeartbeats 1000000 in
/-- f.ancestors(h): both are boxed; the function value captures the boxes. -/
theorem anc_in (n p : Nat) (a b : Int) (w : World) :
    CallsIn Fence.wide n Tryz.prog 136 #[.pointer (some ⟨p, 3, none⟩), .agg #[.int .i64 a, .int .i64 b]] w fun e w' =>
      e = .returned (.func (.func 170) #[] #[.pointer (some ⟨w.heap.size, 0, none⟩), .pointer (some ⟨w.heap.size + 1, 0, none⟩)]) ∧ w' = (w.alloc (.cells #[.pointer (some ⟨p, 3, none⟩)] 155)).alloc (.cells #[.int .i64 a, .int .i64 b] 49) := by
  refine callsIn_of_wp Tryz.func136 rfl trivial ?_ rfl
  simp only [Tryz.ntmps136, List.size_toArray, List.length_cons, List.length_nil, Nat.reduceAdd, Nat.reduceSub, Array.replicate_succ, Array.replicate_zero, List.push_toArray, List.append_toArray, List.nil_append, List.cons_append]
  gi_wp2
  go_ret
  exact ⟨rfl, rfl⟩
theorem anc_stops (n : Nat) (hn : 1 ≤ n) (Bf Bh p n0 : Nat) (F : Nat → Prop) (bs : List Bd) (A : List Hd) (a b : Int) (w : World) (hBf : w.heap[Bf]? = some (.cells #[.pointer (some ⟨p, 3, none⟩)] 155)) (hBh : w.heap[Bh]? = some (.cells #[.int .i64 a, .int .i64 b] 49))
    (hf0 : Bf < n0) (hn0 : n0 ≤ w.heap.size) (hfam : FamIn u w p F bs) (hF : ∀ i, F i → i < n0) (hs : SortedB bs) (hok : ∀ b ∈ bs, okH b.1 ∧ okH b.2) (hab : okH (a, b)) (hA : IsAnc bs (a, b) A) :
    SeqStopsK Fence.wide n Tryz.prog 170 #[.pointer (some ⟨Bf, 0, none⟩), .pointer (some ⟨Bh, 0, none⟩)] (fun x : Hd => #[Value.agg #[.int .i64 x.1, .int .i64 x.2]]) (KpC n0) (fun ys => ys = A) (fun pre => pre <+: A) A.length w := fun l J Jx W hW hJ _ hY h0 =>
  anc1_in n hn l Bf Bh p n0 _ F bs A a b J Jx hY hJ W (by rw [hW.block _ (Array.getElem?_eq_some_iff.1 hBf).1]; exact hBf) (by rw [hW.block _ (Array.getElem?_eq_some_iff.1 hBh).1]; exact hBh) hf0 (Nat.le_trans hn0 hW.size) (hfam.later hW) hF hs hok hab hA h0

/-- 'm[x] = u', as a run -/
theorem MapIs.putRun {α : Type} [DecidableEq α] {k t e : TypeId} {K : KeyEnc α k} {w : World} {b n : Nat} {ks : List α} {f : α → Value} (h : MapIs K w b n ks f) (ht : Tryz.prog.underlying t = some (.map k e)) (hn : ks.length < maxLen) (x0 : α) (hx0 : K.ok x0) (u : Value) :
    ∃ w' ks' f', (Instr.mapUpdate t (.map (some b)) (K.val x0) u).run Tryz.prog w = .ok () w' ∧ MapIs K w' b ks'.length ks' f' ∧ (∀ x, x ∈ ks' ↔ x = x0 ∨ x ∈ ks) ∧ f' x0 = u ∧ (∀ x, x ≠ x0 → f' x = f x) ∧ Kept (fun q => q = b) w w' := by
  obtain ⟨D, ho, h1, h2, h3, h4, h5⟩ := h.tight
  obtain ⟨w', hrun, ho', hgr⟩ := ho.update K.law ht hn (K.key x0 hx0) (val := u) (d := .held u) (ps := []) rfl
  refine ⟨w', _, _, hrun, (MapIs.put ho h1 h2 h3 h4 h5 x0 hx0 u ho').tight, fun x => ?_, by simp, fun x hx => by simp [hx], Kept.grown hgr (fun q e => by cases e; rfl)⟩
  split
  · rename_i hc
    exact ⟨.inr, fun e => e.elim (fun e => e ▸ hc) id⟩
  · simp only [List.mem_append, List.mem_singleton]
    exact Or.comm
theorem MapB.adopt {ks ks' : List Hd} {f f' : Hd → Value} {bs : List Bd} (h : MapB ks f bs) (c d : Hd) (hl : ¬ Loops bs c d) (hm : ∀ x, x ∈ ks' ↔ x = c ∨ x ∈ ks) (h1 : f' c = .agg #[.int .i64 d.1, .int .i64 d.2]) (h2 : ∀ x, x ≠ c → f' x = f x) : MapB ks' f' (adoptB bs c d) := by
  refine ⟨fun x hx => ?_, fun x y hxy => ?_⟩
  · by_cases e : x = c
    · exact ⟨d, (mem_adoptB hl).2 (.inl (by rw [e]))⟩
    · obtain ⟨y, hy⟩ := h.some_ x (((hm x).1 hx).resolve_left e)
      exact ⟨y, (mem_adoptB hl).2 (.inr ⟨hy, e⟩)⟩
  · rcases (mem_adoptB hl).1 hxy with e | ⟨hb, hne⟩
    · simp only [Prod.mk.injEq] at e
      obtain ⟨rfl, rfl⟩ := e
      exact ⟨(hm _).2 (.inl rfl), h1⟩
    · obtain ⟨e1, e2⟩ := h.val x y hb
      exact ⟨(hm x).2 (.inr e1), by rw [h2 x hne]; exact e2⟩

theorem own_block {W W' : World} {row : Option Nat} {B k : Nat} {o : Obj} (h : W.heap[k]? = some o) (hg : W.grownBy W' row) (hr : ∀ r, row = some r → B ≤ r ∧ ∃ o : Obj, W.heap[r]? = some o ∧ o.isCells = false) (hk : k < B) : W'.heap[k]? = some o := by
  rw [hg.block k (Array.getElem?_eq_some_iff.1 h).1 (fun e => by have := (hr k e.symm).1; omega)]; exact h

def AdoptPost (u : Value × Value × Value) (w : World) (p : Nat) (F : Nat → Prop) (bs : List Bd) (c d : Hd) (e : Ending) (w' : World) : Prop :=
  e = .returned (.int .i64 (adoptE bs c d)) ∧ ∃ F', FamIn u w' p F' (adoptB bs c d) ∧ Kept F w w' ∧ Moves w F F'

set_option maxHeartbeats 4000000 in
theorem famAdopt_any (p : Nat) (F : Nat → Prop) (bs : List Bd) (a b c d : Int) (w : World) (h : FamIn u w p F bs) (ok : FOk bs) (hab : okH (a, b)) (hcd : okH (c, d)) (hlen : bs.length < maxLen) :
    Calls Tryz.prog 92 #[.pointer (some ⟨p, 3, none⟩), .agg #[.int .i64 a, .int .i64 b], .agg #[.int .i64 c, .int .i64 d]] w (AdoptPost u w p F bs (a, b) (c, d)) := by
  refine (callsIn_wide (n := 3)).1 ?_
  obtain ⟨X, hXe⟩ : ∃ X, ((w.alloc (.cells #[.int .i64 a, .int .i64 b] 49)).alloc (.cells #[.int .i64 c, .int .i64 d] 49)).alloc (.cells #[.int .i64 0] 27) = X := ⟨_, rfl⟩
  have hX : Below w.heap.size w X := by rw [← hXe]; exact nb_alloc (nb_alloc (nb_alloc (Below.refl _ _) _) _) _
  have hsz : X.heap.size = w.heap.size + 3 := by rw [← hXe]; simp
  have hxa : X.heap[w.heap.size]? = some (.cells #[.int .i64 a, .int .i64 b] 49) := by rw [← hXe]; exact (Below.heap_alloc _ _ _ (by simp; omega)).trans (heap_alloc2_old _ _ _)
  have hxb : X.heap[w.heap.size + 1]? = some (.cells #[.int .i64 c, .int .i64 d] 49) := by rw [← hXe]; exact (Below.heap_alloc _ _ _ (by simp)).trans (heap_alloc2_new _ _ _)
  have hxc : X.heap[w.heap.size + 1 + 1]? = some (.cells #[.int .i64 0] 27) := by
    have := heap_alloc_new ((w.alloc (.cells #[.int .i64 a, .int .i64 b] 49)).alloc (.cells #[.int .i64 c, .int .i64 d] 49)) (.cells #[.int .i64 0] 27)
    rw [hXe, show ((w.alloc (.cells #[.int .i64 a, .int .i64 b] 49)).alloc (.cells #[.int .i64 c, .int .i64 d] 49)).heap.size = w.heap.size + 1 + 1 by simp] at this
    exact this
  have HX := Lib.hid hX
  have HXC := Lib.hid hxc
  have HW0 := Lib.hid h
  have HOK := Lib.hid ok
  obtain ⟨ka0, ka1⟩ := hCells (a := a) (b := b) hxa
  obtain ⟨kb0, kb1⟩ := hCells (a := c) (b := d) hxb
  have kc : X.cell? ⟨w.heap.size + 1 + 1, 0, none⟩ = some (.int .i64 0) := by rw [cell_of_row _ _ _ _ _ _ hxc]; rfl
  have fz : X.frozen? ⟨w.heap.size + 1 + 1, 0, none⟩ = false := frozen_of_row _ _ _ _ _ hxc
  have hxal := (Array.getElem?_eq_some_iff.1 hxa).1
  have hxbl := (Array.getElem?_eq_some_iff.1 hxb).1
  have hxcl := (Array.getElem?_eq_some_iff.1 hxc).1
  have hro : Fence.wide.round = none := rfl
  have h13 : 1 ≤ 3 := by omega
  clear h ok hX
  refine callsIn_of_wp_marks Tryz.func92 rfl trivial ?_ hro
  simp only [Tryz.ntmps92, List.size_toArray, List.length_cons, List.length_nil, Nat.reduceAdd, Nat.reduceSub, Array.replicate_succ, Array.replicate_zero, List.push_toArray, List.append_toArray, List.nil_append, List.cons_append]
  by_cases heq : (a, b) = (c, d)
  · simp only [Prod.mk.injEq] at heq
    obtain ⟨rfl, rfl⟩ := heq
    have HP := Lib.hid (adoptB_yes (bs := bs) (c := (a, b)) (p := (a, b)) (.inl rfl))
    have e1 : (a == a) = true := by simp
    have e2 : (b == b) = true := by simp
    gi_wp2
    have hc8 : (X.setCell ⟨w.heap.size + 1 + 1, 0, none⟩ (.int .i64 8)).cell? ⟨w.heap.size + 1 + 1, 0, none⟩ = some (.int .i64 8) := World.cell?_setCell_same' _ _ _ (by rw [kc]; rfl)
    have HB8 : Hid (Below w.heap.size w (X.setCell ⟨w.heap.size + 1 + 1, 0, none⟩ (.int .i64 8))) := Lib.hid (nbf_set HX.out _ 0 _ (by omega))
    refine ⟨.int .i64 8, by simp [results, Tryz.results92, go_sem, hc8], by rw [HP.out.2], F, ?_, Kept.ofBelow HB8.out, Moves.refl _ _⟩
    rw [HP.out.1]
    exact HW0.out.later HB8.out
  · have HNE := Lib.hid heq
    cases h1 : (a == c) <;> cases h2 : (b == d)
    case true.true => exact absurd (Prod.ext (eq_of_beq h1) (eq_of_beq h2)) heq
    all_goals
      clear heq
      gi_wp2_with (refine ⟨trivial, ?_⟩; gi_at_call 136; refine (anc_in _ p c d _).mono ?_; rintro e w' ⟨rfl, rfl⟩)
      have hsz0 : ((X.alloc (.cells #[.pointer (some ⟨p, 3, none⟩)] 155)).alloc (.cells #[.int .i64 c, .int .i64 d] 49)).heap.size = w.heap.size + 5 := by simp; omega
      have hb0 : Below X.heap.size X ((X.alloc (.cells #[.pointer (some ⟨p, 3, none⟩)] 155)).alloc (.cells #[.int .i64 c, .int .i64 d] 49)) := nb_alloc (nb_alloc (Below.refl _ _) _) _
      have hbf : ((X.alloc (.cells #[.pointer (some ⟨p, 3, none⟩)] 155)).alloc (.cells #[.int .i64 c, .int .i64 d] 49)).heap[w.heap.size + 3]? = some (.cells #[.pointer (some ⟨p, 3, none⟩)] 155) := by rw [← hsz]; exact heap_alloc2_old _ _ _
      have hbh : ((X.alloc (.cells #[.pointer (some ⟨p, 3, none⟩)] 155)).alloc (.cells #[.int .i64 c, .int .i64 d] 49)).heap[w.heap.size + 3 + 1]? = some (.cells #[.int .i64 c, .int .i64 d] 49) := by rw [← hsz]; exact heap_alloc2_new _ _ _
      generalize (X.alloc (.cells #[.pointer (some ⟨p, 3, none⟩)] 155)).alloc (.cells #[.int .i64 c, .int .i64 d] 49) = W0 at *
      have hw0 : Below w.heap.size w W0 := nb_trans HX.out hb0
      have hxa0 : W0.heap[w.heap.size]? = some (.cells #[.int .i64 a, .int .i64 b] 49) := by rw [hb0.block _ hxal]; exact hxa
      have hxb0 : W0.heap[w.heap.size + 1]? = some (.cells #[.int .i64 c, .int .i64 d] 49) := by rw [hb0.block _ hxbl]; exact hxb
      have hxc0 : W0.heap[w.heap.size + 1 + 1]? = some (.cells #[.int .i64 0] 27) := by rw [hb0.block _ hxcl]; exact hxc
      obtain ⟨A, hA, -, hAm⟩ := HOK.out.anc (c, d)
      have HAM := Lib.hid hAm
      have HW := Lib.hid hw0
      clear hAm ka0 ka1 kb0 kb1 kc fz hXe
      refine wpIn_rangeFunc_ownH hro h13 (gf := 170) (lb := #[.pointer (some ⟨w.heap.size + 3, 0, none⟩), .pointer (some ⟨w.heap.size + 3 + 1, 0, none⟩)]) rfl trivial (enters_of Tryz.func170 (by kernel_rfl) rfl)
        (anc_stops (3 - 1) (by omega) (w.heap.size + 3) (w.heap.size + 3 + 1) p W0.heap.size F bs A c d W0 hbf hbh (by omega) (Nat.le_refl _) (HW0.out.later hw0) (fun i hi => Nat.lt_of_lt_of_le (HW0.out.lt i hi) hw0.size) HOK.out.sorted HOK.out.ok hcd hA) KpC.trans (KpC.put (Nat.le_refl _)) (Below.refl _ _) (fun _ => rfl)
        (fun pre W => (∀ y ∈ pre, y ≠ (a, b)) ∧ Below W0.heap.size W0 W)
        (fun k pre W => (k = .ret ∧ (a, b) ∈ pre ∧ W.heap[w.heap.size + 1 + 1]? = some (.cells #[.int .i64 8] 27)) ∧ Below w.heap.size w W)
        (OwnFrom.and (ownFrom_pure _ _) (ownFrom_below (Nat.le_refl _) (Nat.le_refl _)))
        (fun k => OwnFrom.and (fun s A B row hs hg hr => ⟨hs.1, hs.2.1, own_block hs.2.2 hg hr (by omega)⟩) (ownFrom_below (Nat.le_refl _) (by omega)))
        ⟨by simp, Below.refl _ _⟩
        (fun x a' W => ∃ Bx, W0.heap.size ≤ Bx ∧ W.heap[Bx]? = some (.cells #[.int .i64 x.1, .int .i64 x.2] 49) ∧ a' = { tmps := #[.pointer (some ⟨p, 3, none⟩), .agg #[.int .i64 a, .int .i64 b], .agg #[.int .i64 c, .int .i64 d], undef, .pointer (some ⟨w.heap.size, 0, none⟩), .pointer (some ⟨w.heap.size + 1, 0, none⟩), .pointer (some ⟨w.heap.size + 1 + 1, 0, none⟩), .pointer (some ⟨Bx, 0, none⟩), .agg #[.int .i64 a, .int .i64 b], .agg #[.int .i64 c, .int .i64 d], .bool false, .pointer (some ⟨p, 3, none⟩), .agg #[.int .i64 c, .int .i64 d], .func (.func 170) #[] #[.pointer (some ⟨w.heap.size + 3, 0, none⟩), .pointer (some ⟨w.heap.size + 3 + 1, 0, none⟩)], .agg #[.int .i64 x.1, .int .i64 x.2], undef, undef, undef, undef, undef, undef, undef, undef, undef, undef, undef, undef, undef, undef, undef, undef, undef, undef], defers := [] })
        (fun x a' s A B row hs hg hr => by
          obtain ⟨Bx, h1, h2, h3⟩ := hs
          refine ⟨Bx, h1, ?_, h3⟩
          rw [hg.block Bx (Array.getElem?_eq_some_iff.1 h2).1 (fun e => ?_)]
          · exact h2
          · obtain ⟨_, o, ho, hc⟩ := hr Bx e.symm
            rw [h2] at ho; cases ho; cases hc) ?assign ?body ?done ?stop
      case assign =>
        rintro l pre x W K ⟨hi1, hi2⟩ hK
        have hs2 := hi2.size
        gi_wp2
        exact hK _ _ ((KeepsOthers.alloc _ _).from _) (KpC.later hs2 (nb_alloc (Below.refl _ _) _)) ⟨hi1, nb_alloc hi2 _⟩ ⟨W.heap.size, hs2, heap_alloc_new _ _, rfl⟩
      case body =>
        rintro l pre ⟨x1, x2⟩ a' W hl ⟨r, hr⟩ ⟨hi1, hi2⟩ ⟨Bx, hBx, hx, rfl⟩ hlt
        have hs2 := hi2.size
        have hxl := (Array.getElem?_eq_some_iff.1 hx).1
        have hxa2 : W.heap[w.heap.size]? = some (.cells #[.int .i64 a, .int .i64 b] 49) := by rw [hi2.block _ (by omega)]; exact hxa0
        have hxc2 : W.heap[w.heap.size + 1 + 1]? = some (.cells #[.int .i64 0] 27) := by rw [hi2.block _ (by omega)]; exact hxc0
        have ha2l := (Array.getElem?_eq_some_iff.1 hxa2).1
        have hc2l := (Array.getElem?_eq_some_iff.1 hxc2).1
        obtain ⟨ka0, ka1⟩ := hCells (a := a) (b := b) hxa2
        obtain ⟨kx0, kx1⟩ := hCells (a := x1) (b := x2) hx
        have kc : W.cell? ⟨w.heap.size + 1 + 1, 0, none⟩ = some (.int .i64 0) := by rw [cell_of_row _ _ _ _ _ _ hxc2]; rfl
        have fz : W.frozen? ⟨w.heap.size + 1 + 1, 0, none⟩ = false := frozen_of_row _ _ _ _ _ hxc2
        have HI1 := Lib.hid hi1
        have HI2 := Lib.hid hi2
        have HC2 := Lib.hid hxc2
        clear hi1 hi2 hxa2 hxc2 hx hr
        cases g1 : (x1 == a) <;> cases g2 : (x2 == b)
        case true.true =>
          obtain rfl := eq_of_beq g1
          obtain rfl := eq_of_beq g2
          gi_wp2
          exact ⟨(KeepsOthers.setCell _ _ _).from _, ⟨rfl, by simp, heap_setCell_same _ _ 0 _ _ _ HC2.out⟩, nbf_set (hw0.trans (HI2.out.mono hw0.size)) _ 0 _ (by omega)⟩
        all_goals
          have HNX : Hid ((x1, x2) ≠ (a, b)) := Lib.hid (fun e => by
            simp only [Prod.mk.injEq] at e
            obtain ⟨rfl, rfl⟩ := e
            first | (simp at g1; done) | (simp at g2; done))
          gi_wp2
          exact ⟨KeepsFrom.refl _ _, ⟨Below.refl _ _, fun _ _ _ _ h => h⟩, fun y hy => (List.mem_append.1 hy).elim (HI1.out y) (fun e => by simp at e; rw [e]; exact HNX.out), HI2.out⟩
      case done =>
        rintro D ys W hD rfl ⟨hi1, hi2⟩ hK
        have HNL : Hid (¬ Loops bs (a, b) (c, d)) := Lib.hid (fun hl => hl.elim HNE.out (fun u => hi1 _ ((HAM.out (a, b)).2 u) rfl))
        have HP := Lib.hid (adoptB_no HNL.out)
        have hs2 := hi2.size
        have hKl := (Array.getElem?_eq_some_iff.1 hK).1
        have hwW : Below w.heap.size w W := hw0.trans (hi2.mono hw0.size)
        have HWW := Lib.hid hwW
        have HK := Lib.hid hK
        have HBX : Hid (∀ Y : World, (∀ k, w.heap.size ≤ k → k < w.heap.size + 5 → Y.heap[k]? = W.heap[k]?) → Y.heap[w.heap.size]? = some (.cells #[.int .i64 a, .int .i64 b] 49) ∧ Y.heap[w.heap.size + 1]? = some (.cells #[.int .i64 c, .int .i64 d] 49) ∧ Y.heap[w.heap.size + 1 + 1]? = some (.cells #[.int .i64 0] 27)) := Lib.hid (fun Y hY => ⟨by rw [hY _ (by omega) (by omega), hi2.block _ (by omega)]; exact hxa0, by rw [hY _ (by omega) (by omega), hi2.block _ (by omega)]; exact hxb0, by rw [hY _ (by omega) (by omega), hi2.block _ (by omega)]; exact hxc0⟩)
        obtain ⟨vm, hfam⟩ := HW0.out
        have hfw := hfam.later hwW
        have cm := hfw.cell
        have hpl := hfw.plt
        have hpw := hfam.plt
        have heqN : ∀ x : World, (binOp .eql 120 (.map none) (.map none)).run Tryz.prog x = .ok (.bool true) x := fun x => by kernel_rfl
        have hmk : ∀ x : World, (Instr.makeMap 120 none).run Tryz.prog x = .ok (.map (some x.heap.size)) (x.alloc (.map #[] 0)) := run_makeMap 120
        have fzp := hfw.frozen
        clear hi1 hi2 hwW hK hxa0 hxb0 hxc0 hxa hxb hxc hbf hbh hb0 hA
        rcases hfw.map with ⟨rfl, hbs⟩ | ⟨mb, ks, f, rfl, hm, hB, hF, hne⟩
        · have hB0 : MapB [] (fun _ => .map none) bs := by rw [hbs]; exact ⟨by simp, by simp⟩
          clear hbs
          have hs3 : (W.setCell ⟨p, 3, none⟩ (.map (some W.heap.size))).heap.size = W.heap.size := by simp [World.setCell]
          have hkV : Kept (fun i => i = p) W ((W.setCell ⟨p, 3, none⟩ (.map (some W.heap.size))).alloc (.map #[] 0)) := (Kept.setCell (F := fun i => i = p) W (p := ⟨p, 3, none⟩) rfl _).trans (Kept.alloc (fun i => i = p) _ _) (fun _ h => .inl h)
          have HVB : Hid (∀ k, w.heap.size ≤ k → k < w.heap.size + 5 → ((W.setCell ⟨p, 3, none⟩ (.map (some W.heap.size))).alloc (.map #[] 0)).heap[k]? = W.heap[k]?) := Lib.hid (fun k h1 h2 => hkV.block k (by omega) (by omega))
          have HVP : Hid (((W.setCell ⟨p, 3, none⟩ (.map (some W.heap.size))).alloc (.map #[] 0)).heap[p]? = some (.cells #[u.1, u.2.1, u.2.2, .map (some W.heap.size)] 124 (0, 0))) := Lib.hid (by rw [Below.heap_alloc _ _ _ (by rw [hs3]; omega)]; exact heap_setCell_same _ _ 3 _ _ _ hfw.block)
          have HMP : Hid (MapIs kHand ((W.setCell ⟨p, 3, none⟩ (.map (some W.heap.size))).alloc (.map #[] 0)) W.heap.size ([] : List Hd).length [] (fun _ => .map none)) := Lib.hid (by
            have := MapIs.new kHand (W.setCell ⟨p, 3, none⟩ (.map (some W.heap.size))) (fun _ => .map none)
            rw [hs3] at this
            exact this)
          have HKL : Hid (([] : List Hd).length < maxLen) := Lib.hid (by simp [maxLen])
          have HMB := Lib.hid hB0
          have HKD : Hid (((W.setCell ⟨p, 3, none⟩ (.map (some W.heap.size))).alloc (.map #[] 0)).heap[D]? = some (.deferred (some []))) := Lib.hid (by rw [hkV.block D hKl (by omega)]; exact HK.out)
          have HMN : Hid (W.heap.size ≠ p ∧ W.heap.size ≠ w.heap.size ∧ W.heap.size ≠ w.heap.size + 1 + 1 ∧ W.heap.size ≠ D) := Lib.hid ⟨by omega, by omega, by omega, by omega⟩
          have HKV : Hid (Kept F w ((W.setCell ⟨p, 3, none⟩ (.map (some W.heap.size))).alloc (.map #[] 0))) := Lib.hid ((Kept.ofBelow HWW.out).trans (hkV.mono (G := F) (fun i e => .inl (by rw [e]; exact hfw.at_))) (fun _ h => .inl h))
          have HMV : Hid (Moves w F (fun i => F i ∨ i = W.heap.size)) := Lib.hid (fun i e => e.elim .inl (fun e => .inr (by omega)))
          have HF1 : Hid ((F p ∨ p = W.heap.size) ∧ (F W.heap.size ∨ W.heap.size = W.heap.size) ∧ ∀ i, (F i ∨ i = W.heap.size) → i < ((W.setCell ⟨p, 3, none⟩ (.map (some W.heap.size))).alloc (.map #[] 0)).heap.size) := Lib.hid ⟨.inl hfw.at_, .inr rfl, fun i e => by
            rw [World.size_alloc, hs3]
            exact e.elim (fun h => Nat.lt_succ_of_lt (hfw.lt i h)) (fun e => by omega)⟩
          gi_wp2_with fail
          clear cm fzp hmk heqN hfw hB0 hkV
          generalize (W.setCell ⟨p, 3, none⟩ (.map (some W.heap.size))).alloc (.map #[] 0) = V at *
          obtain ⟨F1, hF1⟩ : ∃ F1 : Nat → Prop, (fun i => F i ∨ i = W.heap.size) = F1 := ⟨_, rfl⟩
          replace HF1 : Hid (F1 p ∧ F1 W.heap.size ∧ ∀ i, F1 i → i < V.heap.size) := Lib.hid (by rw [← hF1]; exact ⟨HF1.out.1, .inr rfl, HF1.out.2.2⟩)
          rw [hF1] at HMV
          clear hF1
          clear hs3
          obtain ⟨mb, hmb⟩ : ∃ mb, W.heap.size = mb := ⟨_, rfl⟩
          rw [hmb] at HVP HMP HMN HF1 ⊢
          obtain ⟨hva, hvb, hvc⟩ := HBX.out V HVB.out
          have hval := (Array.getElem?_eq_some_iff.1 hva).1
          have hvbl := (Array.getElem?_eq_some_iff.1 hvb).1
          have hvcl := (Array.getElem?_eq_some_iff.1 hvc).1
          have hvpl := (Array.getElem?_eq_some_iff.1 HVP.out).1
          have cv : V.cell? ⟨p, 3, none⟩ = some (.map (some mb)) := by rw [cell_of_row _ _ _ _ _ _ HVP.out]; rfl
          obtain ⟨ka0, ka1⟩ := hCells (a := a) (b := b) hva
          obtain ⟨kb0, kb1⟩ := hCells (a := c) (b := d) hvb
          obtain ⟨V5, ks5, f5', hmu, hmap5, hks5, hfa5, hfb5, hk5⟩ := (HMP.out.kept (Kept.drew (fun _ => False) V) id).putRun Tryz.underlying120 HKL.out (a, b) hab (.agg #[.int .i64 c, .int .i64 d])
          replace hmu : (Instr.mapUpdate 120 (.map (some mb)) (.agg #[.int .i64 a, .int .i64 b]) (.agg #[.int .i64 c, .int .i64 d])).run Tryz.prog V.drew = .ok () V5 := hmu
          have hk5' : Kept (fun q => q = mb) V V5 := (Kept.drew (fun q => q = mb) V).trans hk5 (fun _ h => .inl h)
          have hc5 : V5.heap[w.heap.size + 1 + 1]? = some (.cells #[.int .i64 0] 27) := by rw [hk5'.block _ hvcl (fun e => HMN.out.2.2.1 e.symm)]; exact hvc
          have hp5 : V5.heap[p]? = some (.cells #[u.1, u.2.1, u.2.2, .map (some mb)] 124 (0, 0)) := by rw [hk5'.block _ hvpl (fun e => HMN.out.1 e.symm)]; exact HVP.out
          have hD5 : V5.heap[D]? = some (.deferred (some [])) := by rw [hk5'.block _ (Array.getElem?_eq_some_iff.1 HKD.out).1 (fun e => HMN.out.2.2.2 e.symm)]; exact HKD.out
          have hc5l := (Array.getElem?_eq_some_iff.1 hc5).1
          have k5 : V5.cell? ⟨w.heap.size + 1 + 1, 0, none⟩ = some (.int .i64 0) := by rw [cell_of_row _ _ _ _ _ _ hc5]; rfl
          have f5 : V5.frozen? ⟨w.heap.size + 1 + 1, 0, none⟩ = false := frozen_of_row _ _ _ _ _ hc5
          have hD6 : (V5.setCell ⟨w.heap.size + 1 + 1, 0, none⟩ (.int .i64 0)).heap[D]? = some (.deferred (some [])) := by rw [heap_setCell_other _ _ _ _ (show D ≠ w.heap.size + 1 + 1 by omega)]; exact hD5
          have hk6 : Kept (fun i => i = w.heap.size + 1 + 1) V5 (V5.setCell ⟨w.heap.size + 1 + 1, 0, none⟩ (.int .i64 0)) := Kept.setCell (F := fun i => i = w.heap.size + 1 + 1) V5 (p := ⟨w.heap.size + 1 + 1, 0, none⟩) rfl _
          have hk7 : Kept (fun i => i = D) (V5.setCell ⟨w.heap.size + 1 + 1, 0, none⟩ (.int .i64 0)) ((V5.setCell ⟨w.heap.size + 1 + 1, 0, none⟩ (.int .i64 0)).putObj D (.deferred none)) := Kept.grown (grownBy_putObj' _ D _) (fun i e => by cases e; rfl)
          have hk57 : Kept (fun i => i = w.heap.size + 1 + 1 ∨ i = D) V5 ((V5.setCell ⟨w.heap.size + 1 + 1, 0, none⟩ (.int .i64 0)).putObj D (.deferred none)) := (hk6.mono (fun i e => .inl (.inl e))).trans (hk7.mono (fun i e => .inl (.inr e))) (fun _ h => .inl h)
          have hkV7 : Kept (fun i => i = mb ∨ i = w.heap.size + 1 + 1 ∨ i = D) V ((V5.setCell ⟨w.heap.size + 1 + 1, 0, none⟩ (.int .i64 0)).putObj D (.deferred none)) := (hk5'.mono (fun i e => .inl (.inl e))).trans (hk57.mono (fun i e => .inl (.inr e))) (fun _ h => .inl h)
          have hkw : Kept F w ((V5.setCell ⟨w.heap.size + 1 + 1, 0, none⟩ (.int .i64 0)).putObj D (.deferred none)) := (HKV.out.mono (G := fun i => F i ∨ w.heap.size ≤ i) (fun i h => .inl (.inl h))).trans hkV7 (fun i e => by
            rcases e with e | e | e
            · rcases HMV.out mb HF1.out.2.1 with h | h
              · exact .inl (.inl (by rw [e]; exact h))
              · exact .inl (.inr (by omega))
            · exact .inl (.inr (by omega))
            · exact .inl (.inr (by omega))) |>.mono (fun i h => h)
          have hpp : ((V5.setCell ⟨w.heap.size + 1 + 1, 0, none⟩ (.int .i64 0)).putObj D (.deferred none)).heap[p]? = some (.cells #[u.1, u.2.1, u.2.2, .map (some mb)] 124 (0, 0)) := by rw [hk57.block p (Array.getElem?_eq_some_iff.1 hp5).1 (fun e => by omega)]; exact hp5
          have hc7 : ((V5.setCell ⟨w.heap.size + 1 + 1, 0, none⟩ (.int .i64 0)).putObj D (.deferred none)).heap[w.heap.size + 1 + 1]? = some (.cells #[.int .i64 0] 27) := by rw [hk7.block _ (by simp [World.setCell]; exact hc5l) (show ¬ w.heap.size + 1 + 1 = D by omega)]; exact heap_setCell_same _ _ 0 _ _ _ hc5
          have HEND : Hid (FamIn u ((V5.setCell ⟨w.heap.size + 1 + 1, 0, none⟩ (.int .i64 0)).putObj D (.deferred none)) p F1 (adoptB bs (a, b) (c, d)) ∧ Kept F w ((V5.setCell ⟨w.heap.size + 1 + 1, 0, none⟩ (.int .i64 0)).putObj D (.deferred none))) := Lib.hid ⟨⟨_, hpp, .inr ⟨mb, _, _, rfl, hmap5.kept hk57 (fun e => e.elim HMN.out.2.2.1 HMN.out.2.2.2), HMB.out.adopt (a, b) (c, d) HNL.out hks5 hfa5 hfb5, HF1.out.2.1, HMN.out.1⟩, HF1.out.1, fun i hi => Nat.lt_of_lt_of_le (HF1.out.2.2 i hi) hkV7.size⟩, hkw⟩
          have hc8 : ((V5.setCell ⟨w.heap.size + 1 + 1, 0, none⟩ (.int .i64 0)).putObj D (.deferred none)).cell? ⟨w.heap.size + 1 + 1, 0, none⟩ = some (.int .i64 0) := by rw [cell_of_row _ _ _ _ _ _ hc7]; rfl
          clear hks5 hfa5 hfb5 hmap5 hk5 hk5' hc5 hp5 hD5 hk6 hk7 hk57 hkV7 hkw hpp hc7 hva hvb hvc
          gi_region
          all_goals
            clear hmu ka0 ka1 kb0 kb1 cv
            gi_wp2
            refine ⟨by simp, .inl ⟨_, _, rfl, run_takeDeferred hD6, ?_⟩⟩
            exact ⟨.int .i64 0, by simp [results, Tryz.results92, go_sem, hc8], by rw [HP.out.2], F1, HEND.out.1, HEND.out.2, HMV.out⟩
        · have heqS : ∀ x : World, (binOp .eql 120 (.map (some mb)) (.map none)).run Tryz.prog x = .ok (.bool false) x := fun x => by kernel_rfl
          have HVP := Lib.hid hfw.block
          have HMP := Lib.hid hm
          have HKL : Hid (ks.length < maxLen) := Lib.hid (by
            have := nodup_sub_len (ys := bs.map (·.1)) hm.nodup (fun x hx => by
              obtain ⟨y, hy⟩ := hB.some_ x hx
              exact List.mem_map.2 ⟨_, hy, rfl⟩)
            simp at this
            omega)
          have HMB := Lib.hid hB
          have HKD := HK
          have hmbw := hfam.lt mb hF
          have HMN : Hid (mb ≠ p ∧ mb ≠ w.heap.size ∧ mb ≠ w.heap.size + 1 + 1 ∧ mb ≠ D) := Lib.hid ⟨hne, by omega, by omega, by omega⟩
          have HKV : Hid (Kept F w W) := Lib.hid (Kept.ofBelow HWW.out)
          have HMV : Hid (Moves w F F) := Lib.hid (Moves.refl _ _)
          have HF1 : Hid (F p ∧ F mb ∧ ∀ i, F i → i < W.heap.size) := Lib.hid ⟨hfw.at_, hF, hfw.lt⟩
          gi_wp2_with fail
          clear cm fzp hmk heqN heqS hfw hm hB hF hne
          obtain ⟨V, hV⟩ : ∃ V, W = V := ⟨_, rfl⟩
          obtain ⟨F1, hF1⟩ : ∃ F1, F = F1 := ⟨_, rfl⟩
          replace HMV : Hid (Moves w F F1) := by rw [← hF1]; exact HMV
          replace HF1 : Hid (F1 p ∧ F1 mb ∧ ∀ i, F1 i → i < V.heap.size) := by rw [← hF1, ← hV]; exact HF1
          rw [hV] at HVP HMP HKD HKV ⊢
          have HVB : Hid (∀ k, w.heap.size ≤ k → k < w.heap.size + 5 → V.heap[k]? = W.heap[k]?) := Lib.hid (by rw [hV]; exact fun _ _ _ => rfl)
          clear hF1
          obtain ⟨hva, hvb, hvc⟩ := HBX.out V HVB.out
          have hval := (Array.getElem?_eq_some_iff.1 hva).1
          have hvbl := (Array.getElem?_eq_some_iff.1 hvb).1
          have hvcl := (Array.getElem?_eq_some_iff.1 hvc).1
          have hvpl := (Array.getElem?_eq_some_iff.1 HVP.out).1
          have cv : V.cell? ⟨p, 3, none⟩ = some (.map (some mb)) := by rw [cell_of_row _ _ _ _ _ _ HVP.out]; rfl
          obtain ⟨ka0, ka1⟩ := hCells (a := a) (b := b) hva
          obtain ⟨kb0, kb1⟩ := hCells (a := c) (b := d) hvb
          obtain ⟨V5, ks5, f5', hmu, hmap5, hks5, hfa5, hfb5, hk5⟩ := (HMP.out.kept (Kept.drew (fun _ => False) V) id).putRun Tryz.underlying120 HKL.out (a, b) hab (.agg #[.int .i64 c, .int .i64 d])
          replace hmu : (Instr.mapUpdate 120 (.map (some mb)) (.agg #[.int .i64 a, .int .i64 b]) (.agg #[.int .i64 c, .int .i64 d])).run Tryz.prog V.drew = .ok () V5 := hmu
          have hk5' : Kept (fun q => q = mb) V V5 := (Kept.drew (fun q => q = mb) V).trans hk5 (fun _ h => .inl h)
          have hc5 : V5.heap[w.heap.size + 1 + 1]? = some (.cells #[.int .i64 0] 27) := by rw [hk5'.block _ hvcl (fun e => HMN.out.2.2.1 e.symm)]; exact hvc
          have hp5 : V5.heap[p]? = some (.cells #[u.1, u.2.1, u.2.2, .map (some mb)] 124 (0, 0)) := by rw [hk5'.block _ hvpl (fun e => HMN.out.1 e.symm)]; exact HVP.out
          have hD5 : V5.heap[D]? = some (.deferred (some [])) := by rw [hk5'.block _ (Array.getElem?_eq_some_iff.1 HKD.out).1 (fun e => HMN.out.2.2.2 e.symm)]; exact HKD.out
          have hc5l := (Array.getElem?_eq_some_iff.1 hc5).1
          have k5 : V5.cell? ⟨w.heap.size + 1 + 1, 0, none⟩ = some (.int .i64 0) := by rw [cell_of_row _ _ _ _ _ _ hc5]; rfl
          have f5 : V5.frozen? ⟨w.heap.size + 1 + 1, 0, none⟩ = false := frozen_of_row _ _ _ _ _ hc5
          have hD6 : (V5.setCell ⟨w.heap.size + 1 + 1, 0, none⟩ (.int .i64 0)).heap[D]? = some (.deferred (some [])) := by rw [heap_setCell_other _ _ _ _ (show D ≠ w.heap.size + 1 + 1 by omega)]; exact hD5
          have hk6 : Kept (fun i => i = w.heap.size + 1 + 1) V5 (V5.setCell ⟨w.heap.size + 1 + 1, 0, none⟩ (.int .i64 0)) := Kept.setCell (F := fun i => i = w.heap.size + 1 + 1) V5 (p := ⟨w.heap.size + 1 + 1, 0, none⟩) rfl _
          have hk7 : Kept (fun i => i = D) (V5.setCell ⟨w.heap.size + 1 + 1, 0, none⟩ (.int .i64 0)) ((V5.setCell ⟨w.heap.size + 1 + 1, 0, none⟩ (.int .i64 0)).putObj D (.deferred none)) := Kept.grown (grownBy_putObj' _ D _) (fun i e => by cases e; rfl)
          have hk57 : Kept (fun i => i = w.heap.size + 1 + 1 ∨ i = D) V5 ((V5.setCell ⟨w.heap.size + 1 + 1, 0, none⟩ (.int .i64 0)).putObj D (.deferred none)) := (hk6.mono (fun i e => .inl (.inl e))).trans (hk7.mono (fun i e => .inl (.inr e))) (fun _ h => .inl h)
          have hkV7 : Kept (fun i => i = mb ∨ i = w.heap.size + 1 + 1 ∨ i = D) V ((V5.setCell ⟨w.heap.size + 1 + 1, 0, none⟩ (.int .i64 0)).putObj D (.deferred none)) := (hk5'.mono (fun i e => .inl (.inl e))).trans (hk57.mono (fun i e => .inl (.inr e))) (fun _ h => .inl h)
          have hkw : Kept F w ((V5.setCell ⟨w.heap.size + 1 + 1, 0, none⟩ (.int .i64 0)).putObj D (.deferred none)) := (HKV.out.mono (G := fun i => F i ∨ w.heap.size ≤ i) (fun i h => .inl (.inl h))).trans hkV7 (fun i e => by
            rcases e with e | e | e
            · rcases HMV.out mb HF1.out.2.1 with h | h
              · exact .inl (.inl (by rw [e]; exact h))
              · exact .inl (.inr (by omega))
            · exact .inl (.inr (by omega))
            · exact .inl (.inr (by omega))) |>.mono (fun i h => h)
          have hpp : ((V5.setCell ⟨w.heap.size + 1 + 1, 0, none⟩ (.int .i64 0)).putObj D (.deferred none)).heap[p]? = some (.cells #[u.1, u.2.1, u.2.2, .map (some mb)] 124 (0, 0)) := by rw [hk57.block p (Array.getElem?_eq_some_iff.1 hp5).1 (fun e => by omega)]; exact hp5
          have hc7 : ((V5.setCell ⟨w.heap.size + 1 + 1, 0, none⟩ (.int .i64 0)).putObj D (.deferred none)).heap[w.heap.size + 1 + 1]? = some (.cells #[.int .i64 0] 27) := by rw [hk7.block _ (by simp [World.setCell]; exact hc5l) (show ¬ w.heap.size + 1 + 1 = D by omega)]; exact heap_setCell_same _ _ 0 _ _ _ hc5
          have HEND : Hid (FamIn u ((V5.setCell ⟨w.heap.size + 1 + 1, 0, none⟩ (.int .i64 0)).putObj D (.deferred none)) p F1 (adoptB bs (a, b) (c, d)) ∧ Kept F w ((V5.setCell ⟨w.heap.size + 1 + 1, 0, none⟩ (.int .i64 0)).putObj D (.deferred none))) := Lib.hid ⟨⟨_, hpp, .inr ⟨mb, _, _, rfl, hmap5.kept hk57 (fun e => e.elim HMN.out.2.2.1 HMN.out.2.2.2), HMB.out.adopt (a, b) (c, d) HNL.out hks5 hfa5 hfb5, HF1.out.2.1, HMN.out.1⟩, HF1.out.1, fun i hi => Nat.lt_of_lt_of_le (HF1.out.2.2 i hi) hkV7.size⟩, hkw⟩
          have hc8 : ((V5.setCell ⟨w.heap.size + 1 + 1, 0, none⟩ (.int .i64 0)).putObj D (.deferred none)).cell? ⟨w.heap.size + 1 + 1, 0, none⟩ = some (.int .i64 0) := by rw [cell_of_row _ _ _ _ _ _ hc7]; rfl
          clear hks5 hfa5 hfb5 hmap5 hk5 hk5' hc5 hp5 hD5 hk6 hk7 hk57 hkV7 hkw hpp hc7 hva hvb hvc
          gi_region
          all_goals
            clear hmu ka0 ka1 kb0 kb1 cv
            gi_wp2
            refine ⟨by simp, .inl ⟨_, _, rfl, run_takeDeferred hD6, ?_⟩⟩
            exact ⟨.int .i64 0, by simp [results, Tryz.results92, go_sem, hc8], by rw [HP.out.2], F1, HEND.out.1, HEND.out.2, HMV.out⟩
      case stop =>
        rintro D k pre W hD hpre ⟨⟨rfl, hin, hcr⟩, hB⟩ hK
        have HP := Lib.hid (adoptB_yes (bs := bs) (c := (a, b)) (p := (c, d)) (.inr ((HAM.out (a, b)).1 (hpre.subset hin))))
        have hcl := (Array.getElem?_eq_some_iff.1 hcr).1
        have hk9 : Kept (fun i => w.heap.size ≤ i) W (W.putObj D (.deferred none)) := Kept.grown (grownBy_putObj' _ D _) (fun i e => by cases e; omega)
        have hB9 : Below w.heap.size w (W.putObj D (.deferred none)) := hB.trans (hk9.below hB.size (fun _ e => e))
        have hc9 : (W.putObj D (.deferred none)).cell? ⟨w.heap.size + 1 + 1, 0, none⟩ = some (.int .i64 8) := by
          rw [cell_of_row _ _ _ _ _ _ (by rw [(grownBy_putObj' W D (.deferred none)).block _ hcl (fun e => by simp only [Option.some.injEq] at e; omega)]; exact hcr)]; rfl
        have HB9 := Lib.hid hB9
        gi_wp2
        refine ⟨by simp, .inl ⟨_, _, rfl, run_takeDeferred hK, ?_⟩⟩
        refine ⟨.int .i64 8, by simp [results, Tryz.results92, go_sem, hc9], by rw [HP.out.2], F, ?_, Kept.ofBelow HB9.out, Moves.refl _ _⟩
        rw [HP.out.1]
        exact HW0.out.later HB9.out
end Go.Proofs.YtndhomjfjhohoaaGreatDoor

/- slices.Backward over bonds; the map of children of package family. -/
namespace Go.Proofs.YtndhomjfjhohoaaGreatDoor
set_option maxRecDepth 100000
open Go.RowKit Go.Shelf
attribute [local go_sem] Oper.semAt_some

/-- A round keeps these blocks. -/
def KpS (S : Nat → Prop) (W W' : World) : Prop := W.heap.size ≤ W'.heap.size ∧ ∀ k, S k → W'.heap[k]? = W.heap[k]?
theorem KpS.trans {S : Nat → Prop} {A B C : World} (h : KpS S A B) (k : KpS S B C) : KpS S A C := ⟨Nat.le_trans h.1 k.1, fun i hi => (k.2 i hi).trans (h.2 i hi)⟩
theorem KpS.put {S : Nat → Prop} {w : World} (hS : ∀ k, S k → k < w.heap.size) (W : World) (l : Nat) (o o' : Obj) (hl : w.heap.size ≤ l) (ho : W.heap[l]? = some o) (_ : o.isCells = false) (_ : o.isWalk = false) : KpS S W (W.putObj l o') := by
  have hlt := (Array.getElem?_eq_some_iff.1 ho).1
  refine ⟨(grownBy_putObj' W l o').size, fun k hk => (grownBy_putObj' W l o').block k (by have := hS k hk; omega) (fun e => ?_)⟩
  simp only [Option.some.injEq] at e
  have := hS k hk
  omega
theorem KpS.refl (S : Nat → Prop) (W : World) : KpS S W W := ⟨Nat.le_refl _, fun _ _ => rfl⟩

end Go.Proofs.YtndhomjfjhohoaaGreatDoor

/- The contract of children of package family: a map of the children of each parent, the last one first. -/
namespace Go.Proofs.YtndhomjfjhohoaaGreatDoor
set_option maxRecDepth 8000
set_option maxRecDepth 100000
open Go.RowKit Go.Shelf
variable {u : Value × Value × Value}
attribute [local go_sem] Oper.semAt_some

theorem hand_klaw : Go.WideMaps.KeyLaw Tryz.prog 49 := Go.deep_law_laid (by kernel_rfl) (m := 3) (by omega) (of_decide_eq_true (by kernel_rfl)) (by kernel_rfl) (by rw [Tryz.underlying49])
theorem pw_key : ∀ {l : List MapEntry}, l.Pairwise (fun x y => x.key ≠ y.key) → ∀ {a b : MapEntry}, a ∈ l → b ∈ l → a ≠ b → a.key ≠ b.key
  | [], _, a, _, ha, _, _ => by simp at ha
  | x :: l, h, a, b, ha, hb, hne => by
    obtain ⟨h1, h2⟩ := List.pairwise_cons.1 h
    rcases List.mem_cons.1 ha with ea | ma <;> rcases List.mem_cons.1 hb with eb | mb
    · exact absurd (ea.trans eb.symm) hne
    · rw [ea]; exact h1 b mb
    · rw [eb]; exact (h1 a ma).symm
    · exact pw_key h2 ma mb hne
/-- 'm[x] = .. m[x] ..': the entry is laid, or found; then it is set. -/
theorem MapIs.entry {t e : TypeId} {w : World} {b n : Nat} {ks : List Hd} {f : Hd → Value} {z : Value} (h : MapIs kHand w b n ks f) (ht : Tryz.prog.underlying t = some (.map 49 e)) (hz : ∀ u : World, (zeroValue e).run Tryz.prog u = .ok z u) (hn : ks.length < maxLen) (x0 : Hd) (hx0 : okH x0) :
    ∃ v0 st w1, (Instr.mapEntry t (.map (some b)) (.agg #[.int .i64 x0.1, .int .i64 x0.2])).run Tryz.prog w = .ok (.tuple #[v0, .int .i64 st]) w1 ∧ Kept (fun q => q = b) w w1 ∧ w1.heap.size = w.heap.size ∧ ((x0 ∈ ks ∧ v0 = f x0) ∨ (x0 ∉ ks ∧ v0 = z)) ∧
      ∀ (w2 : World) (u : Value), w2.heap[b]? = w1.heap[b]? → ∃ w3 ks' f', (Instr.entryStore t (.map (some b)) (.int .i64 st) u).run Tryz.prog w2 = .ok () w3 ∧ Kept (fun q => q = b) w2 w3 ∧ MapIs kHand w3 b ks'.length ks' f' ∧ (∀ x, x ∈ ks' ↔ x = x0 ∨ x ∈ ks) ∧ f' x0 = u ∧ ∀ x, x ≠ x0 → f' x = f x := by
  have hlook := h.look ht (hz w) x0 hx0
  obtain ⟨D, ho, h1, h2, h3, h4, h5⟩ := h.tight
  obtain ⟨es, clock, hb, F, hs, hD⟩ := ho
  have ho' : w.ownsMap Tryz.prog 49 heldR b ks.length D := ⟨es, clock, hb, F, hs, hD⟩
  have hkey : keyOf Tryz.prog 49 (.agg #[.int .i64 x0.1, .int .i64 x0.2]) = some (kHand.lit x0) := kHand.key x0 hx0
  obtain ⟨v0, st, es1, clock1, hrun, hv, hst⟩ := Go.WideElems.entry_then_store hand_klaw ht hz hb F hkey
  have hb1 := ChangeMaps.heap_setBlock_same hb (.map es1 clock1)
  have hkb : ∀ (W : World) (es0 : Array MapEntry) (c0 : Nat) (o' : Obj), W.heap[b]? = some (.map es0 c0) → Kept (fun q => q = b) W (ChangeMaps.setBlock W b o') := fun W es0 c0 o' hW => ⟨rfl, rfl, rfl, by simp [ChangeMaps.setBlock], fun i _ hi => ChangeMaps.heap_setBlock_other hW _ hi⟩
  refine ⟨v0, st, _, hrun, hkb w _ _ _ hb, by simp [ChangeMaps.setBlock], ?_, fun w2 u hw2 => ?_⟩
  · have hv0 : (Instr.lookup t (.map (some b)) (.agg #[.int .i64 x0.1, .int .i64 x0.2]) false).run Tryz.prog w = .ok v0 w := by
      rcases Maps.fit_look false kHand.law ht (hz w) hb F hkey with ⟨hr2, hno, _⟩ | ⟨e0, y, hm0, hk0, hr2, _⟩
      · rcases hv with ⟨e9, hm9, hk9, _⟩ | ⟨_, rfl⟩
        · exact absurd hk9 (hno e9 hm9)
        · exact hr2
      · rcases hv with ⟨e9, hm9, hk9, rfl⟩ | ⟨hno, _⟩
        · have hpw := List.pairwise_map.1 F.stamped.2.2
          rcases Classical.em (e9 = e0) with e | e
          · rw [e]; exact hr2
          · exact absurd (hk9.trans hk0.symm) (pw_key hpw hm9 hm0 e)
        · exact absurd hk0 (hno e0 hm0)
    by_cases hc : x0 ∈ ks
    · rw [if_pos hc] at hlook
      have := hv0.symm.trans hlook
      exact .inl ⟨hc, by simpa using this⟩
    · rw [if_neg hc] at hlook
      have := hv0.symm.trans hlook
      exact .inr ⟨hc, by simpa using this⟩
  · obtain ⟨es', clock', hr3, hr4⟩ := hst w2 u (hw2.trans hb1)
    obtain ⟨w9, hrun9, ho9, _⟩ := ho'.update kHand.law ht hn hkey (val := u) (d := .held u) (ps := []) rfl
    have e9 : w9 = ChangeMaps.setBlock w b (.map es' clock') := by
      have := hrun9.symm.trans hr4
      simpa using this
    rw [e9] at ho9
    have hM := (MapIs.put ho' h1 h2 h3 h4 h5 x0 hx0 u ho9).tight
    obtain ⟨D', ⟨es2, cl2, hb2, rest⟩, r2⟩ := hM
    rw [ChangeMaps.heap_setBlock_same hb] at hb2
    refine ⟨_, _, _, hr3, hkb w2 _ _ _ (hw2.trans hb1), ⟨D', ⟨es2, cl2, by rw [ChangeMaps.heap_setBlock_same (hw2.trans hb1)]; exact hb2, rest⟩, r2⟩, fun x => ?_, by simp, fun x hx => by simp [hx]⟩
    split
    · rename_i hc
      exact ⟨.inr, fun e => e.elim (fun e => e ▸ hc) id⟩
    · simp only [List.mem_append, List.mem_singleton]
      exact Or.comm

/-- the children of h among these bonds, as they came -/
def lstB (done : List Bd) (h : Hd) : List Hd := (done.filter (fun b => decide (b.2 = h))).map (·.1)
theorem lstB_snoc_same (done : List Bd) (c h : Hd) : lstB (done ++ [(c, h)]) h = lstB done h ++ [c] := by simp [lstB, List.filter_append]
theorem lstB_snoc_other (done : List Bd) (c h x : Hd) (hne : h ≠ x) : lstB (done ++ [(c, h)]) x = lstB done x := by simp [lstB, List.filter_append, hne]
/-- The map in block mb holds, for each parent, an own slice of its children. -/
structure ChMap (W : World) (mb B : Nat) (ks : List Hd) (f : Hd → Value) (done : List Bd) : Prop where
  map : MapIs kHand W mb ks.length ks f
  own : ∀ h ∈ ks, OwnsF elHand W B 49 (f h) (lstB done h)
  none_ : ∀ h, h ∉ ks → lstB done h = []
  ap : ∀ h ∈ ks, ∀ h' ∈ ks, h ≠ h' → ∀ k, (f h).ownBlock = some k → (f h').ownBlock ≠ some k
  len : ks.length ≤ done.length
  ne : ∀ h ∈ ks, lstB done h ≠ []
theorem ChMap.kept {W W' : World} {mb B : Nat} {ks : List Hd} {f : Hd → Value} {done : List Bd} {G : Nat → Prop} (h : ChMap W mb B ks f done) (hk : Kept G W W') (hmb : ¬ G mb) (hB : ∀ k, B ≤ k → k < W.heap.size → ¬ G k) : ChMap W' mb B ks f done :=
  ⟨h.map.kept hk hmb, fun x hx => (h.own x hx).kept hk (fun k e => hB k ((h.own x hx).ge e) ((h.own x hx).lt e)), h.none_, h.ap, h.len, h.ne⟩
theorem ChMap.turned {W W' : World} {mb B : Nat} {ks : List Hd} {f : Hd → Value} {done : List Bd} {row : Option Nat} (h : ChMap W mb B ks f done) (hg : W.grownBy W' row) (hr : ∀ r, row = some r → B ≤ r ∧ ∃ o : Obj, W.heap[r]? = some o ∧ o.isCells = false) (hmb : mb < B) : ChMap W' mb B ks f done := by
  have hk : Kept (fun k => row = some k) W W' := Kept.grown hg (fun k e => e)
  refine ⟨h.map.kept hk (fun e => by have := (hr mb e).1; omega), fun x hx => (h.own x hx).kept hk (fun k e e2 => ?_), h.none_, h.ap, h.len, h.ne⟩
  obtain ⟨c, hc⟩ := (h.own x hx).owns.isC e
  obtain ⟨_, o, ho, hoc⟩ := hr k e2
  rw [hc] at ho; cases ho; cases hoc
theorem ChMap.later {W W' : World} {mb B : Nat} {ks : List Hd} {f : Hd → Value} {done : List Bd} (h : ChMap W mb B ks f done) (hb : Below W.heap.size W W') : ChMap W' mb B ks f done := h.kept (G := fun _ => False) (Kept.ofBelow hb) id (fun _ _ _ => id)
theorem ChMap.lookO {W : World} {mb B : Nat} {ks : List Hd} {f : Hd → Value} {done : List Bd} (h : ChMap W mb B ks f done) {x : Hd} {v0 : Value} (hv : (x ∈ ks ∧ v0 = f x) ∨ (x ∉ ks ∧ v0 = .slice none 0 0)) : OwnsF elHand W B 49 v0 (lstB done x) := by
  rcases hv with ⟨hc, rfl⟩ | ⟨hc, rfl⟩
  · exact h.own x hc
  · rw [h.none_ x hc]; exact OwnsF.nil _ _ _ _
/-- One bond more. -/
theorem ChMap.step {W w1 w2 w3 : World} {mb B : Nat} {ks ks' : List Hd} {f f' : Hd → Value} {done : List Bd} {c x : Hd} {v0 u : Value} (h : ChMap W mb B ks f done) (hBm : mb < B) (hk1 : Kept (fun q => q = mb) W w1) (hs1 : w1.heap.size = W.heap.size) (hv : (x ∈ ks ∧ v0 = f x) ∨ (x ∉ ks ∧ v0 = .slice none 0 0))
    (ho : OwnsF elHand w2 B 49 u (lstB done x ++ [c])) (hg : w1.grownBy w2 v0.ownBlock) (hat : u.ownBlock = v0.ownBlock ∨ u.ownBlock = some w1.heap.size)
    (hk3 : Kept (fun q => q = mb) w2 w3) (hm3 : MapIs kHand w3 mb ks'.length ks' f') (hks : ∀ y, y ∈ ks' ↔ y = x ∨ y ∈ ks) (hf1 : f' x = u) (hf2 : ∀ y, y ≠ x → f' y = f y) : ChMap w3 mb B ks' f' (done ++ [(c, x)]) := by
  have hne : ∀ y ∈ ks, y ≠ x → ∀ k, (f y).ownBlock = some k → v0.ownBlock ≠ some k ∧ u.ownBlock ≠ some k := fun y hy hyx k hk => by
    have h0 : v0.ownBlock ≠ some k := by
      rcases hv with ⟨hc, rfl⟩ | ⟨hc, rfl⟩
      · exact h.ap y hy x hc hyx k hk
      · simp [Value.ownBlock]
    refine ⟨h0, fun e => ?_⟩
    rcases hat with e2 | e2
    · exact h0 (e2 ▸ e)
    · rw [e2] at e
      have := (h.own y hy).lt hk
      simp only [Option.some.injEq] at e
      omega
  refine ⟨hm3, fun y hy => ?_, fun y hy => ?_, fun y hy y' hy' hyy k hk => ?_, ?_, fun y hy => ?_⟩
  · by_cases e : y = x
    · rw [e, hf1, lstB_snoc_same]
      exact ho.kept hk3 (fun k hk => by have := ho.ge hk; omega)
    · have hyk := ((hks y).1 hy).resolve_left e
      rw [hf2 y e, lstB_snoc_other _ _ _ _ (fun q => e q.symm)]
      have o1 := (h.own y hyk).kept hk1 (fun k hk => by have := (h.own y hyk).ge hk; omega)
      have o2 : OwnsF elHand w2 B 49 (f y) (lstB done y) := ownsRow_block o1 (fun g hg' => hg.block g (by have := (h.own y hyk).lt hg'; omega) (fun q => (hne y hyk e g hg').1 q.symm))
      exact o2.kept hk3 (fun k hk => by have := (h.own y hyk).ge hk; omega)
  · have e : y ≠ x := fun e => hy ((hks y).2 (.inl e))
    rw [lstB_snoc_other _ _ _ _ (fun q => e q.symm)]
    exact h.none_ y (fun q => hy ((hks y).2 (.inr q)))
  · by_cases e : y = x
    · have e' : y' ≠ x := fun q => hyy (e.trans q.symm)
      have hyk' := ((hks y').1 hy').resolve_left e'
      rw [e, hf1] at hk
      rw [hf2 y' e']
      exact fun q => (hne y' hyk' e' k q).2 hk
    · have hyk := ((hks y).1 hy).resolve_left e
      rw [hf2 y e] at hk
      by_cases e' : y' = x
      · rw [e', hf1]; exact (hne y hyk e k hk).2
      · rw [hf2 y' e']
        exact h.ap y hyk y' (((hks y').1 hy').resolve_left e') hyy k hk
  · have := nodup_sub_len (ys := x :: ks) hm3.nodup (fun y hy => List.mem_cons.2 ((hks y).1 hy))
    simp only [List.length_cons] at this
    have := h.len
    simp
    omega
  · by_cases e : y = x
    · rw [e, lstB_snoc_same]; simp
    · rw [lstB_snoc_other _ _ _ _ (fun q => e q.symm)]
      exact h.ne y (((hks y).1 hy).resolve_left e)

end Go.Proofs.YtndhomjfjhohoaaGreatDoor

/- The contract of Under of package family. -/
namespace Go.Proofs.YtndhomjfjhohoaaGreatDoor
set_option maxRecDepth 8000
set_option maxRecDepth 8000
open Go.RowKit
variable {u : Value × Value × Value}

theorem OwnsF.cutTo' {α : Type} {E : El α} {w : World} {B : Nat} {T : TypeId} {g n cap t : Nat} {xs : List α} (h : OwnsF E w B T (.slice (some ⟨g, 0, none⟩) n cap) xs) (ht : t ≤ xs.length) : OwnsF E w B T (.slice (some ⟨g, 0, none⟩) t cap) (xs.take t) := by
  have hft : ∀ (xs : List α) (t : Nat), (xs.take t).flatMap E.enc = (xs.flatMap E.enc).take (t * E.size) := fun xs => by
    induction xs with
    | nil => intro t; simp
    | cons x xs ih =>
      intro t
      cases t with
      | zero => simp
      | succ t => rw [List.take_succ_cons, List.flatMap_cons, List.flatMap_cons, ih t, List.take_append, E.len, show (t + 1) * E.size - E.size = t * E.size by rw [Nat.add_mul]; omega, List.take_of_length_le (l := E.enc x) (by rw [E.len, Nat.add_mul]; omega)]
  have hlen : (xs.take t).length = t := by rw [List.length_take]; omega
  rcases h.2 with ⟨e, _⟩ | ⟨g', cap', cur, e, hb, hh, hn, hc, hsz, htk⟩
  · cases e
  · simp only [Value.slice.injEq, Option.some.injEq, Addr.mk.injEq, and_true] at e
    obtain ⟨rfl, rfl, rfl⟩ := e
    refine ⟨?_, .inr ⟨g, cap, cur, by rw [hlen], hb, hh, by rw [hlen]; omega, hc, hsz, ?_⟩⟩
    · rw [length_enc, hlen]
    · rw [hlen, hft, ← htk, List.take_take, Nat.min_eq_left (Nat.mul_le_mul_right _ ht)]
end Go.Proofs.YtndhomjfjhohoaaGreatDoor

/- Contracts of package family with what they return as letters. -/
namespace Go.Proofs.YtndhomjfjhohoaaGreatDoor
set_option maxRecDepth 8000
set_option maxRecDepth 8000
open Go.RowKit
variable {u : Value × Value × Value}

end Go.Proofs.YtndhomjfjhohoaaGreatDoor

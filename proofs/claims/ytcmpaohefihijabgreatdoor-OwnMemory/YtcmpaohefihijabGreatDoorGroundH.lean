/- Contracts and plain facts, several texts in one. -/
import Derived.Shelf.SlSortCmp.WholeK
import Derived.Shelf.SlicesG.Cmp
import Derived.Shelf.SlGeneric
import Derived.Ground.SlsfProg
import Derived.Ground.SlgcProg
import Derived.Test.YtcmpaohefihijabGreatDoorProg
import Derived.StillTailTactics
import Derived.Shelf.SlSortCmp.NoneTotal
import Derived.Deep.RegionHeld3
import Derived.RangeFuncNested
import Derived.RangeFuncBound
import Derived.RangeFuncCalls
import Derived.RangeFuncLeaves
import Derived.Shelf.Abstract
import Derived.Shelf.RegionOpen
import Derived.WalkKit
import Derived.OwnWalkIn
import Derived.TacticsInMore
import Derived.LoopNIn
import Derived.LoopIn
import Derived.BigRegionIn
import Derived.Maps.OwnIn
import Derived.WideKeyEntry
import Derived.Deep.RegionLaw
import Derived.Laws.OwnMore
import Derived.Test.YtcmpaohefihijabGreatDoorGroundA
import Derived.Test.YtcmpaohefihijabGreatDoorGroundB
import Derived.Test.YtcmpaohefihijabGreatDoorGroundC
import Derived.Test.YtcmpaohefihijabGreatDoorGroundD
import Derived.Test.YtcmpaohefihijabGreatDoorGroundE
import Derived.Test.YtcmpaohefihijabGreatDoorGroundF
import Derived.Test.YtcmpaohefihijabGreatDoorGroundG
/- slices.SortFunc at bonds, cmp.Compare at ints: laid at this program. -/
namespace Go.Proofs.YtcmpaohefihijabGreatDoor
open Go.Shelf
def sortBond_ren : Go.Shelf.Ren := ⟨fun | 6 => 71 | 15 => 52 | 14 => 108 | 28 => 87 | 29 => 88 | 20 => 135 | 21 => 136 | 22 => 137 | 23 => 138 | 24 => 139 | 25 => 140 | 26 => 141 | 27 => 142 | 46 => 152 | 47 => 113 | 48 => 114 | 49 => 153 | 50 => 154 | 57 => 158 | n => n, fun | 22 => 29 | 24 => 41 | 25 => 144 | 3 => 3 | 39 => 118 | 0 => 0 | 53 => 160 | 55 => 162 | 4 => 4 | 46 => 153 | 45 => 152 | 50 => 157 | 5 => 5 | 9 => 9 | 66 => 192 | 70 => 196 | 76 => 221 | 77 => 222 | n => n, fun | n => n⟩
theorem sortBond : Go.Proofs.SlLaysF0.n6 Tryz.prog sortBond_ren := {
  mixed := by kernel_rfl
  f6 := ⟨Tryz.f71.name, by decide, Tryz.func71.trans (congrArg some (by kernel_rfl))⟩
  f14 := ⟨Tryz.f108.name, by decide, Tryz.func108.trans (congrArg some (by kernel_rfl))⟩
  f15 := Tryz.func52.trans (congrArg some (by kernel_rfl))
  f20 := ⟨Tryz.f135.name, by decide, Tryz.func135.trans (congrArg some (by kernel_rfl))⟩
  f21 := ⟨Tryz.f136.name, by decide, Tryz.func136.trans (congrArg some (by kernel_rfl))⟩
  f22 := ⟨Tryz.f137.name, by decide, Tryz.func137.trans (congrArg some (by kernel_rfl))⟩
  f23 := ⟨Tryz.f138.name, by decide, Tryz.func138.trans (congrArg some (by kernel_rfl))⟩
  f24 := ⟨Tryz.f139.name, by decide, Tryz.func139.trans (congrArg some (by kernel_rfl))⟩
  f25 := ⟨Tryz.f140.name, by decide, Tryz.func140.trans (congrArg some (by kernel_rfl))⟩
  f26 := ⟨Tryz.f141.name, by decide, Tryz.func141.trans (congrArg some (by kernel_rfl))⟩
  f27 := ⟨Tryz.f142.name, by decide, Tryz.func142.trans (congrArg some (by kernel_rfl))⟩
  f28 := Tryz.func87.trans (congrArg some (by kernel_rfl))
  f29 := Tryz.func88.trans (congrArg some (by kernel_rfl))
  f46 := ⟨Tryz.f152.name, by decide, Tryz.func152.trans (congrArg some (by kernel_rfl))⟩
  f47 := Tryz.func113.trans (congrArg some (by kernel_rfl))
  f48 := Tryz.func114.trans (congrArg some (by kernel_rfl))
  f49 := ⟨Tryz.f153.name, by decide, Tryz.func153.trans (congrArg some (by kernel_rfl))⟩
  f50 := ⟨Tryz.f154.name, by decide, Tryz.func154.trans (congrArg some (by kernel_rfl))⟩
  f57 := ⟨Tryz.f158.name, by decide, Tryz.func158.trans (congrArg some (by kernel_rfl))⟩
  t0 := Tryz.underlying0
  a0 := Tryz.isAgg0
  z0 := Tryz.sizeOf0
  v0 := Tryz.zeroValue0
  t3 := Tryz.underlying3
  a3 := Tryz.isAgg3
  z3 := Tryz.sizeOf3
  v3 := Tryz.zeroValue3
  t4 := Tryz.underlying4
  a4 := Tryz.isAgg4
  z4 := Tryz.sizeOf4
  v4 := Tryz.zeroValue4
  t5 := Tryz.underlying5
  a5 := Tryz.isAgg5
  z5 := Tryz.sizeOf5
  v5 := Tryz.zeroValue5
  t9 := Tryz.underlying9
  a9 := Tryz.isAgg9
  z9 := Tryz.sizeOf9
  v9 := Tryz.zeroValue9
  t22 := Tryz.underlying29
  a22 := Tryz.isAgg29
  z22 := Tryz.sizeOf29
  v22 := Tryz.zeroValue29
  t25 := Tryz.underlying144
  a25 := Tryz.isAgg144
  z25 := Tryz.sizeOf144
  v25 := Tryz.zeroValue144
  t39 := Tryz.underlying118
  a39 := Tryz.isAgg118
  z39 := Tryz.sizeOf118
  v39 := Tryz.zeroValue118
  t45 := Tryz.underlying152
  a45 := Tryz.isAgg152
  z45 := Tryz.sizeOf152
  v45 := Tryz.zeroValue152
  t46 := Tryz.underlying153
  a46 := Tryz.isAgg153
  z46 := Tryz.sizeOf153
  v46 := Tryz.zeroValue153
  t50 := Tryz.underlying157
  a50 := Tryz.isAgg157
  z50 := Tryz.sizeOf157
  v50 := Tryz.zeroValue157
  t53 := Tryz.underlying160
  a53 := Tryz.isAgg160
  z53 := Tryz.sizeOf160
  v53 := Tryz.zeroValue160
  t55 := Tryz.underlying162
  a55 := Tryz.isAgg162
  z55 := Tryz.sizeOf162
  v55 := Tryz.zeroValue162
  t66 := Tryz.underlying192
  a66 := Tryz.isAgg192
  z66 := Tryz.sizeOf192
  v66 := Tryz.zeroValue192
  t70 := Tryz.underlying196
  a70 := Tryz.isAgg196
  z70 := Tryz.sizeOf196
  v70 := Tryz.zeroValue196
  t76 := Tryz.underlying221
  a76 := Tryz.isAgg221
  z76 := Tryz.sizeOf221
  v76 := Tryz.zeroValue221
  t77 := Tryz.underlying222
  a77 := Tryz.isAgg222
  z77 := Tryz.sizeOf222
  v77 := Tryz.zeroValue222 }
def famCmpLay_ren : Go.Shelf.Ren := ⟨fun | 5 => 54 | 7 => 89 | n => n, fun | 22 => 3 | 3 => 3 | 4 => 4 | n => n, fun | n => n⟩
theorem famCmpLay : Go.Proofs.SlLaysC2.n5 Tryz.prog famCmpLay_ren := {
  mixed := by kernel_rfl
  f5 := ⟨Tryz.f54.name, by decide, Tryz.func54.trans (congrArg some (by kernel_rfl))⟩
  f7 := ⟨Tryz.f89.name, by decide, Tryz.func89.trans (congrArg some (by kernel_rfl))⟩
  t3 := Tryz.underlying3
  a3 := Tryz.isAgg3
  z3 := Tryz.sizeOf3
  v3 := Tryz.zeroValue3
  t4 := Tryz.underlying4
  a4 := Tryz.isAgg4
  z4 := Tryz.sizeOf4
  v4 := Tryz.zeroValue4
  t22 := Tryz.underlying3
  a22 := Tryz.isAgg3
  z22 := Tryz.sizeOf3
  v22 := Tryz.zeroValue3 }
end Go.Proofs.YtcmpaohefihijabGreatDoor

/- The program's family in memory: its map of parents; the contracts of New, Parent and Loosen. -/
namespace Go.Proofs.YtcmpaohefihijabGreatDoor
set_option maxRecDepth 8000
set_option maxRecDepth 8000
open Go.RowKit
variable {u : Value × Value × Value}

theorem nbf_set {B : Nat} {a w : World} (h : Below B a w) (b j : Nat) (v : Value) (hb : B ≤ b) : Below B a (w.setCell ⟨b, j, none⟩ v) := h.setCell (p := ⟨b, j, none⟩) hb v

theorem zeroHand (w : World) : (zeroValue 34).run Tryz.prog w = .ok (.agg #[.int .i64 0, .int .i64 0]) w := by kernel_rfl
/-- The map's keys and values are just these bonds. -/
structure MapB (ks : List Hd) (f : Hd → Value) (bs : List Bd) : Prop where
  some_ : ∀ c ∈ ks, ∃ p, (c, p) ∈ bs
  val : ∀ c p, (c, p) ∈ bs → c ∈ ks ∧ f c = .agg #[.int .i64 p.1, .int .i64 p.2]
/-- At block p lies a family with these bonds, in the blocks F. -/
structure FamIs (u : Value × Value × Value) (w : World) (p : Nat) (F : Nat → Prop) (vm : Value) (bs : List Bd) : Prop where
  block : w.heap[p]? = some (.cells #[u.1, u.2.1, u.2.2, vm] 76 (0, 0))
  map : (vm = .map none ∧ bs = []) ∨ ∃ b ks f, vm = .map (some b) ∧ MapIs kHand w b ks.length ks f ∧ MapB ks f bs ∧ F b ∧ b ≠ p
  at_ : F p
  lt : ∀ b, F b → b < w.heap.size
def FamIn (u : Value × Value × Value) (w : World) (p : Nat) (F : Nat → Prop) (bs : List Bd) : Prop := ∃ vm, FamIs u w p F vm bs


section
variable {w w' : World} {p : Nat} {F : Nat → Prop} {vm : Value} {bs : List Bd}
theorem FamIs.kept {G : Nat → Prop} (h : FamIs u w p F vm bs) (hk : Kept G w w') (hf : ∀ b, F b → ¬ G b) : FamIs u w' p F vm bs := by
  refine ⟨by rw [hk.block p (h.lt p h.at_) (hf p h.at_)]; exact h.block, ?_, h.at_, fun b hb => Nat.lt_of_lt_of_le (h.lt b hb) hk.size⟩
  rcases h.map with h1 | ⟨b, ks, f, e, hm, hb, hF, hne⟩
  · exact .inl h1
  · exact .inr ⟨b, ks, f, e, hm.kept hk (hf b hF), hb, hF, hne⟩
theorem FamIs.later (h : FamIs u w p F vm bs) (hb : Below w.heap.size w w') : FamIs u w' p F vm bs := h.kept (G := fun _ => False) (Kept.ofBelow hb) (fun _ _ => id)
theorem FamIs.cell (h : FamIs u w p F vm bs) : w.cell? ⟨p, 3, none⟩ = some vm := by rw [cell_of_row _ _ _ _ _ _ h.block]; rfl
theorem FamIs.frozen (h : FamIs u w p F vm bs) : w.frozen? ⟨p, 3, none⟩ = false := frozen_of_row _ _ _ _ _ h.block
theorem FamIs.plt (h : FamIs u w p F vm bs) : p < w.heap.size := h.lt p h.at_
theorem FamIn.kept {G : Nat → Prop} (h : FamIn u w p F bs) (hk : Kept G w w') (hf : ∀ b, F b → ¬ G b) : FamIn u w' p F bs := by obtain ⟨vm, h⟩ := h; exact ⟨vm, h.kept hk hf⟩
theorem FamIn.later (h : FamIn u w p F bs) (hb : Below w.heap.size w w') : FamIn u w' p F bs := by obtain ⟨vm, h⟩ := h; exact ⟨vm, h.later hb⟩
theorem FamIn.lt (h : FamIn u w p F bs) : ∀ b, F b → b < w.heap.size := by obtain ⟨vm, h⟩ := h; exact h.lt
theorem FamIn.at_ (h : FamIn u w p F bs) : F p := by obtain ⟨vm, h⟩ := h; exact h.at_
theorem FamIn.new (w : World) : FamIn u (w.alloc (.cells #[u.1, u.2.1, u.2.2, .map none] 76)) w.heap.size (fun b => b = w.heap.size) [] :=
  ⟨_, heap_alloc_new w _, .inl ⟨rfl, rfl⟩, rfl, fun b e => by simp [e]⟩
/-- 'p, ok := f.parents[c]' -/
theorem FamIs.look (h : FamIs u w p F vm bs) (hs : SortedB bs) (a b : Int) (ha : I64r a) (hb : I64r b) :
    (Instr.lookup 72 vm (.agg #[.int .i64 a, .int .i64 b]) true).run Tryz.prog w = .ok (.tuple #[.agg #[.int .i64 (parB bs (a, b)).1, .int .i64 (parB bs (a, b)).2], .bool (hasP bs (a, b))]) w := by
  rcases h.map with ⟨rfl, rfl⟩ | ⟨bb, ks, f, rfl, hm, hB, _⟩
  · have := Maps.look_nil (w := w) true kHand.law Tryz.underlying72 (zeroHand w) (kHand.key (a, b) ⟨ha, hb⟩)
    simpa [kHand, hasP, parB] using this
  · have := hm.look2 Tryz.underlying72 (zeroHand w) (a, b) ⟨ha, hb⟩
    by_cases hc : (a, b) ∈ ks
    · obtain ⟨q, hq⟩ := hB.some_ _ hc
      obtain ⟨e1, e2⟩ := parB_of hs hq
      rw [e1, e2]
      rw [if_pos hc, (hB.val _ _ hq).2] at this
      simpa [hc, kHand] using this
    · have hn : hasP bs (a, b) = false := hasP_no (fun q hq => hc (hB.val _ _ hq).1)
      rw [hn, (hasP_none hn).1]
      rw [if_neg hc] at this
      simpa [hc, kHand] using this
end


set_option maxHeartbeats 2000000 in
theorem famParent_any (p : Nat) (F : Nat → Prop) (bs : List Bd) (a b c d : Int) (g : Bool) (w : World) (h : FamIn u w p F bs) (hs : SortedB bs) (ha : I64r a) (hb : I64r b) (hq : parB bs (a, b) = (c, d)) (hg : hasP bs (a, b) = g) :
    Calls Tryz.prog 26 #[.pointer (some ⟨p, 3, none⟩), .agg #[.int .i64 a, .int .i64 b]] w fun e w' => e = .returned (.tuple #[.agg #[.int .i64 c, .int .i64 d], .bool g]) ∧ Below w.heap.size w w' := by
  obtain ⟨vm, h⟩ := h
  have hlook := fun (Y : World) (hY : Below w.heap.size w Y) => (h.later hY).look hs a b ha hb
  rw [hq, hg] at hlook
  have hX : Below w.heap.size w ((w.alloc (.cells #[.int .i64 a, .int .i64 b] 34)).alloc (.cells #[.int .i64 0, .int .i64 0] 34)) := nb_alloc (nb_alloc (Below.refl _ _) _) _
  have hsz : ((w.alloc (.cells #[.int .i64 a, .int .i64 b] 34)).alloc (.cells #[.int .i64 0, .int .i64 0] 34)).heap.size = w.heap.size + 2 := by simp
  have hbb : ((w.alloc (.cells #[.int .i64 a, .int .i64 b] 34)).alloc (.cells #[.int .i64 0, .int .i64 0] 34)).heap[w.heap.size + 1]? = some (.cells #[.int .i64 0, .int .i64 0] 34) := heap_alloc2_new _ _ _
  have hhb : ((w.alloc (.cells #[.int .i64 a, .int .i64 b] 34)).alloc (.cells #[.int .i64 0, .int .i64 0] 34)).heap[w.heap.size]? = some (.cells #[.int .i64 a, .int .i64 b] 34) := heap_alloc2_old _ _ _
  have HX := Lib.hid hX
  have HL := Lib.hid hlook
  have HW := Lib.hid (h.later hX)
  clear h hX hlook hs hq hg
  go_enter Tryz.func26, Tryz.ntmps26
  go_wp2_with fail
  generalize ((w.alloc (.cells #[.int .i64 a, .int .i64 b] 34)).alloc (.cells #[.int .i64 0, .int .i64 0] 34)) = X at *
  have c2 := HW.out.cell
  have hpl := HW.out.plt
  obtain ⟨kh0, kh1⟩ := hCells (a := a) (b := b) hhb
  have hlk := HL.out X.drew HX.out.drew
  have hlk1 := HL.out (X.alloc (.cells #[.int .i64 0, .int .i64 0] 34)).drew (nb_alloc HX.out _).drew
  have fz : ∀ j, X.frozen? ⟨w.heap.size + 1, j, none⟩ = false := fun j => frozen_of_row _ _ _ _ _ hbb
  have hbl : w.heap.size + 1 < X.heap.size := by omega
  have hhl : w.heap.size < X.heap.size := by omega
  obtain ⟨k0, k1⟩ := hCells (a := 0) (b := 0) hbb
  clear hhb hsz hbb HW HL
  go_region
  all_goals
    clear hlk hlk1 kh0 kh1 c2
    go_wp2
    refine bodyPost_ret (v := .tuple #[.agg #[.int .i64 c, .int .i64 d], .bool g]) (by simp [results, Tryz.results26, go_sem, hbl, k0, k1]) rfl ⟨rfl, ?_⟩
    refine Below.drew ?_
    refine nb_alloc ?_ _
    iterate 2 (refine nbf_set ?_ _ _ _ (by omega))
    exact HX.out

def LoosePost (u : Value × Value × Value) (w : World) (p : Nat) (F : Nat → Prop) (bs : List Bd) (c : Hd) (e : Ending) (w' : World) : Prop :=
  e = .returned (.int .i64 (looseE bs c)) ∧ FamIn u w' p F (rmB bs c) ∧ Kept F w w'

set_option maxHeartbeats 2000000 in
theorem famLoosen_any (p : Nat) (F : Nat → Prop) (bs : List Bd) (a b : Int) (w : World) (h : FamIn u w p F bs) (hs : SortedB bs) (ha : I64r a) (hb : I64r b) :
    Calls Tryz.prog 65 #[.pointer (some ⟨p, 3, none⟩), .agg #[.int .i64 a, .int .i64 b]] w (LoosePost u w p F bs (a, b)) := by
  obtain ⟨vm, h⟩ := h
  have hlook := fun (Y : World) (hY : Below w.heap.size w Y) => (h.later hY).look hs a b ha hb
  obtain ⟨q, hq⟩ : ∃ q, parB bs (a, b) = q := ⟨_, rfl⟩
  obtain ⟨c, d⟩ := q
  have hX : Below w.heap.size w (w.alloc (.cells #[.int .i64 a, .int .i64 b] 34)) := nb_alloc (Below.refl _ _) _
  have hhb : (w.alloc (.cells #[.int .i64 a, .int .i64 b] 34)).heap[w.heap.size]? = some (.cells #[.int .i64 a, .int .i64 b] 34) := heap_alloc_new _ _
  have HX := Lib.hid hX
  have HW0 := Lib.hid h
  have HW := Lib.hid (h.later hX)
  have HS := Lib.hid hs
  have HAB : Hid (I64r a ∧ I64r b) := Lib.hid ⟨ha, hb⟩
  have hhl := (Array.getElem?_eq_some_iff.1 hhb).1
  cases hg : hasP bs (a, b)
  · rw [hq, hg] at hlook
    have HP : Hid (looseE bs (a, b) = 5 ∧ rmB bs (a, b) = bs) := Lib.hid ⟨by rw [looseE, hg]; rfl, rmB_none hg⟩
    have HL := Lib.hid hlook
    clear h hX hlook hs hq hg
    go_enter Tryz.func65, Tryz.ntmps65
    go_wp2_with fail
    generalize (w.alloc (.cells #[.int .i64 a, .int .i64 b] 34)) = X at *
    have c2 := HW.out.cell
    have hpl := HW.out.plt
    obtain ⟨kh0, kh1⟩ := hCells (a := a) (b := b) hhb
    have hlk := HL.out X.drew HX.out.drew
    have hlk1 := HL.out (X.alloc (.cells #[.int .i64 0, .int .i64 0] 34)).drew (nb_alloc HX.out _).drew
    clear hhb HW HL
    go_region
    all_goals
      clear hlk hlk1 kh0 kh1 c2
      go_wp2
      go_ret
      exact ⟨by rw [HP.out.1]; rfl, by rw [HP.out.2]; exact ⟨vm, HW0.out.later (nb_alloc HX.out _).drew⟩, Kept.ofBelow (nb_alloc HX.out _).drew⟩
  · rw [hq, hg] at hlook
    have HP : Hid (looseE bs (a, b) = 0) := Lib.hid (by rw [looseE, hg]; rfl)
    obtain ⟨mb, ks, f, rfl, hm, hB, hF, hne⟩ : ∃ b ks f, vm = .map (some b) ∧ MapIs kHand w b ks.length ks f ∧ MapB ks f bs ∧ F b ∧ b ≠ p := by
      rcases h.map with ⟨_, rfl⟩ | hh
      · simp [hasP] at hg
      · exact hh
    have HL := Lib.hid hlook
    have HMI := Lib.hid hm
    have HB := Lib.hid hB
    have HF := Lib.hid hF
    have HNE := Lib.hid hne
    have HG := Lib.hid hg
    clear h hX hlook hs hq hg hm hB hF hne
    go_enter Tryz.func65, Tryz.ntmps65
    go_wp2_with fail
    generalize (w.alloc (.cells #[.int .i64 a, .int .i64 b] 34)) = X at *
    have c2 := HW.out.cell
    have hpl := HW.out.plt
    obtain ⟨kh0, kh1⟩ := hCells (a := a) (b := b) hhb
    have hlk := HL.out X.drew HX.out.drew
    have hlk1 := HL.out (X.alloc (.cells #[.int .i64 0, .int .i64 0] 34)).drew (nb_alloc HX.out _).drew
    have HHB := Lib.hid hhb
    clear hhb HW HL
    go_region
    all_goals
      clear hlk hlk1 kh0 kh1 c2
      have HVX : Hid (Below w.heap.size w (X.alloc (.cells #[.int .i64 c, .int .i64 d] 34)).drew) := Lib.hid (nb_alloc HX.out _).drew
      have hb1 : (X.alloc (.cells #[.int .i64 c, .int .i64 d] 34)).drew.heap[w.heap.size]? = some (.cells #[.int .i64 a, .int .i64 b] 34) := (Below.heap_alloc X _ _ hhl).trans HHB.out
      generalize hV : (X.alloc (.cells #[.int .i64 c, .int .i64 d] 34)).drew = V at *
      clear hV hpl
      have cv := (HW0.out.later HVX.out).cell
      have hpl := (HW0.out.later HVX.out).plt
      have hvl : w.heap.size < V.heap.size := (Array.getElem?_eq_some_iff.1 hb1).1
      obtain ⟨lh0, lh1⟩ := hCells (a := a) (b := b) hb1
      have HMP : Hid (MapIs kHand V.drew mb ks.length ks f) := Lib.hid ((HMI.out.later HVX.out).kept (Kept.drew (fun _ => False) _) id)
      clear hb1
      go_wp2_with fail
      go_still_tail 5, (by kernel_rfl)
      change wpList _ _ _ _ _ V.drew
      clear lh0 lh1 cv
      go_wp2_with (first | (at_delete; refine wpList_del_is (K := kHand) _ rfl _ _ 72 rfl 34 Tryz.underlying72 rfl HMP.out (a, b) HAB.out rfl ?_))
      intro w3 hmap3 hk3
      have hkw : Kept F w w3 := (Kept.ofBelow HVX.out.drew).trans hk3 (fun i e => .inl (by rw [e]; exact HF.out))
      have HEND : Hid (FamIn u w3 p F (rmB bs (a, b)) ∧ Kept F w w3) := Lib.hid ⟨⟨.map (some mb), by
          rw [hk3.block p (HW0.out.later HVX.out.drew).plt (fun e => HNE.out e.symm)]; exact (HW0.out.later HVX.out.drew).block, .inr ⟨mb, _, f, rfl, hmap3.tight, ⟨fun x hx => ?_, fun x y hxy => ?_⟩, HF.out, HNE.out⟩, HW0.out.at_, fun i hi => Nat.lt_of_lt_of_le (HW0.out.lt i hi) hkw.size⟩, hkw⟩
      · clear hmap3 hk3 hkw
        go_wp2
        go_ret
        exact ⟨by rw [HP.out]; rfl, HEND.out.1, HEND.out.2⟩
      · obtain ⟨h1, h2⟩ := List.mem_filter.1 hx
        obtain ⟨y, hy⟩ := HB.out.some_ x h1
        exact ⟨y, mem_rmB.2 ⟨hy, by simpa using h2⟩⟩
      · obtain ⟨h1, h2⟩ := mem_rmB.1 hxy
        obtain ⟨e1, e2⟩ := HB.out.val x y h1
        exact ⟨List.mem_filter.2 ⟨e1, by simpa using h2⟩, e2⟩
end Go.Proofs.YtcmpaohefihijabGreatDoor

/- Bonds as they lie in slices; cmp.Or of two ints; the contracts of the reference's Eq and Has over bonds. -/
namespace Go.Proofs.YtcmpaohefihijabGreatDoor
set_option maxRecDepth 8000
set_option maxRecDepth 8000
open Go.RowKit

def bdZ : Bd := ((0, 0), (0, 0))
def elBond : El Bd := { enc := fun x => [.int .i64 x.1.1, .int .i64 x.1.2, .int .i64 x.2.1, .int .i64 x.2.2], size := 4, zero := bdZ, len := fun _ => rfl, pos := by decide, one := fun x u hu => by simp at hu; rcases hu with rfl | rfl | rfl | rfl <;> rfl }
theorem infoBond : (Tryz.prog.info? 41).map (fun i => (i.zero, i.size, i.bytes)) = some (some (.agg #[.int .i64 0, .int .i64 0, .int .i64 0, .int .i64 0]), 4, 32) := by kernel_rfl

theorem orInt_any (v : Value) (a b r : Int) (w : World) (hr : (if a = 0 then b else a) = r) (h : Ints w v [a, b]) :
    Calls Tryz.prog 53 #[v] w fun e w' => e = .returned (.int .i64 r) ∧ w = w' := by
  obtain ⟨ad, cap, rfl, hl, hm, hc⟩ := h
  obtain ⟨bl, off, rfl, hb, c0⟩ := hc 0 (by simp)
  obtain ⟨bl', off', e, _, c1⟩ := hc 1 (by simp)
  simp only [Option.some.injEq, Addr.mk.injEq, and_true] at e
  obtain ⟨rfl, rfl⟩ := e
  have hcc : ∀ k : Nat, k < 2 → w.cell? ⟨bl, off + k, none⟩ = some (.int .i64 (if k = 0 then a else b)) := fun k hk => by
    rcases (show k = 0 ∨ k = 1 by omega) with rfl | rfl
    · simpa using c0
    · simpa using c1
  have HCC := Lib.hid hcc
  have HRR := Lib.hid hr
  clear hr c0 c1 hc hcc hl hm
  go_enter Tryz.func53, Tryz.ntmps53
  go_wp2
  go_loopw [8] (fun i wr => ∃ k : Nat, k ≤ 2 ∧ i = .int .i64 k ∧ Hid (k ≠ 0 → a = 0) ∧ Hid (k = 2 → b = 0) ∧ wr = w) (fun i _ => 2 - (intOf i).toNat)
  case atStart => exact ⟨0, by omega, rfl, Lib.hid (fun h => absurd rfl h), Lib.hid (fun h => by omega), rfl⟩
  case round =>
    obtain ⟨k, hk, rfl, h0, h2, rfl⟩ := hrel
    by_cases hlt : k < 2
    · have hlt' : (k : Int) < 2 := by omega
      have ck := HCC.out k hlt
      obtain ⟨x, hx⟩ : ∃ x, (if k = 0 then a else b) = x := ⟨_, rfl⟩
      rw [hx] at ck
      have HX := Lib.hid hx
      clear hx
      cases hn : (x != 0)
      · have HN := Lib.hid hn
        go_wp2
        go_roundw
        case rel =>
          have hx0 : x = 0 := by simpa using HN.out
          refine ⟨k + 1, by omega, by go_num, Lib.hid (fun _ => ?_), Lib.hid (fun e => ?_), by simp⟩
          · by_cases e : k = 0
            · have := HX.out; rw [if_pos e] at this; omega
            · exact h0.out e
          · have := HX.out; rw [if_neg (by omega)] at this; omega
        case measure => simp [intOf]; omega
      · have HN := Lib.hid hn
        go_wp2
        go_ret
        refine ⟨ret_int ?_, rfl⟩
        have hx0 : x ≠ 0 := by simpa using HN.out
        by_cases e : k = 0
        · have := HX.out; rw [if_pos e] at this; rw [← HRR.out, if_neg (by omega), this]
        · have := HX.out; rw [if_neg e] at this; rw [← HRR.out, if_pos (h0.out e), this]
    · obtain rfl : k = 2 := by omega
      go_wp2
      go_ret
      exact ⟨ret_int (by rw [← HRR.out, if_pos (h0.out (by decide)), h2.out (by simp)]), rfl⟩


set_option maxHeartbeats 2000000 in
theorem eqBond_any (u v : Value) (xs ys : List Bd) (w : World) (hx : Reads elBond w u xs) (hy : Reads elBond w v ys) :
    Calls Tryz.prog 23 #[u, v] w fun e w' => e = .returned (.bool (decide (xs = ys))) ∧ Below w.heap.size w w' := by
  obtain ⟨hm, hx⟩ := hx.open
  obtain ⟨hm', hy⟩ := hy.open
  unfold maxLen at hm hm'
  generalize hn : xs.length = n at *
  generalize hn' : ys.length = n' at *
  have HN := Lib.hid hn
  have HN' := Lib.hid hn'
  clear hn hn'
  by_cases e : n = n'
  · subst e
    rcases hx with ⟨a, cap, rfl, hz⟩ | ⟨b, off, cap, rfl, hb, hlc, hcm, hc⟩ <;> rcases hy with ⟨a', cap', rfl, hz'⟩ | ⟨b', off', cap', rfl, hb', hlc', hcm', hc'⟩
    all_goals
      have hne : ((n : Int) != (n : Int)) = false := by simp
      go_enter Tryz.func23, Tryz.ntmps23
      go_wp2
      go_loopw [14] (fun i wr => ∃ k : Nat, k ≤ n ∧ i = .int .i64 k ∧ Hid (∀ j, j < k → xs.getD j bdZ = ys.getD j bdZ) ∧ Hid (Below w.heap.size w wr)) (fun i _ => n - (intOf i).toNat)
      case atStart => exact ⟨0, by omega, rfl, fun j hj => by omega, Below.refl _ _⟩
      case round =>
        obtain ⟨k, hk, rfl, hno, hB⟩ := hrel
        by_cases hlt : k < n
        · first
            | omega
            | (have hcr : ∀ jj, jj < 4 → wr.cell? ⟨b, off + k * 4 + jj, none⟩ = (elBond.enc (xs.getD k bdZ))[jj]? := fun jj hjj => by rw [hB.out.cell (p := ⟨b, _, none⟩) hb]; exact hc k hlt jj hjj
               have hcr' : ∀ jj, jj < 4 → wr.cell? ⟨b', off' + k * 4 + jj, none⟩ = (elBond.enc (ys.getD k bdZ))[jj]? := fun jj hjj => by rw [hB.out.cell (p := ⟨b', _, none⟩) hb']; exact hc' k hlt jj hjj
               clear hc hc'
               have hbw : b < wr.heap.size := Nat.lt_of_lt_of_le hb hB.out.size
               have hbw' : b' < wr.heap.size := Nat.lt_of_lt_of_le hb' hB.out.size
               have HD := Lib.hid (fun h => neD (a := xs) (b := ys) (d := bdZ) (j := k) h)
               generalize hgx : xs.getD k bdZ = x at *
               generalize hgy : ys.getD k bdZ = y at *
               have HX := Lib.hid hgx
               have HY := Lib.hid hgy
               clear hgx hgy
               obtain ⟨⟨x1, x2⟩, x3, x4⟩ := x
               obtain ⟨⟨y1, y2⟩, y3, y4⟩ := y
               have c0 : wr.cell? ⟨b, off + k * 4, none⟩ = some (.int .i64 x1) := hcr 0 (by decide)
               have c1 : wr.cell? ⟨b, off + k * 4 + 1, none⟩ = some (.int .i64 x2) := hcr 1 (by decide)
               have c2 : wr.cell? ⟨b, off + k * 4 + 2, none⟩ = some (.int .i64 x3) := hcr 2 (by decide)
               have c3 : wr.cell? ⟨b, off + k * 4 + 3, none⟩ = some (.int .i64 x4) := hcr 3 (by decide)
               have e0 : wr.cell? ⟨b', off' + k * 4, none⟩ = some (.int .i64 y1) := hcr' 0 (by decide)
               have e1 : wr.cell? ⟨b', off' + k * 4 + 1, none⟩ = some (.int .i64 y2) := hcr' 1 (by decide)
               have e2 : wr.cell? ⟨b', off' + k * 4 + 2, none⟩ = some (.int .i64 y3) := hcr' 2 (by decide)
               have e3 : wr.cell? ⟨b', off' + k * 4 + 3, none⟩ = some (.int .i64 y4) := hcr' 3 (by decide)
               clear hcr hcr'
               cases h1 : (x1 == y1) <;> cases h2 : (x2 == y2) <;> cases h3 : (x3 == y3) <;> cases h4 : (x4 == y4)
               all_goals
                 go_wp2
                 go_quiet (fail)
                 go_wp2
                 first
                   | (go_roundw
                      case rel =>
                        obtain rfl := eq_of_beq h1
                        obtain rfl := eq_of_beq h2
                        obtain rfl := eq_of_beq h3
                        obtain rfl := eq_of_beq h4
                        exact ⟨k + 1, by omega, by go_num, fun j hj => if e : j = k then by rw [e, HX.out, HY.out] else hno.out j (by omega), nb_drewN (nb_alloc hB.out _)⟩
                      case measure => simp [intOf]; omega)
                   | (go_ret
                      have hne' : ¬ (((x1, x2), (x3, x4)) = ((y1, y2), (y3, y4))) := by intro e9; simp only [Prod.mk.injEq] at e9; obtain ⟨⟨rfl, rfl⟩, rfl, rfl⟩ := e9; first | (simp at h1; done) | (simp at h2; done) | (simp at h3; done) | (simp at h4; done)
                      exact ⟨ret_bool (by rw [decide_eq_false (HD.out hne')]), nb_drewN (nb_alloc hB.out _)⟩))
        · obtain rfl : k = n := by omega
          go_wp2
          go_ret
          exact ⟨ret_bool (by rw [decide_eq_true (eqD (by rw [HN.out, HN'.out]) (by rw [HN.out]; exact hno.out))]), hB.out⟩
  · have hne : ((n : Int) != (n' : Int)) = true := by rw [bne_iff_ne]; omega
    have HF : Hid (xs ≠ ys) := Lib.hid (fun h => e (by rw [← HN.out, ← HN'.out, h]))
    clear e
    rcases hx with ⟨a, cap, rfl, hz⟩ | ⟨b, off, cap, rfl, hb, hlc, hcm, hc⟩ <;> rcases hy with ⟨a', cap', rfl, hz'⟩ | ⟨b', off', cap', rfl, hb', hlc', hcm', hc'⟩
    all_goals
      go_enter Tryz.func23, Tryz.ntmps23
      go_wp2
      go_ret
      exact ⟨ret_bool (by rw [decide_eq_false HF.out]), Below.refl _ _⟩
end Go.Proofs.YtcmpaohefihijabGreatDoor

/- Bonds are sorted by their children: slices.SortFunc with the literal of selected. -/
namespace Go.Proofs.YtcmpaohefihijabGreatDoor
set_option maxRecDepth 8000
set_option maxRecDepth 8000
open Go.RowKit Go.Shelf Go.Lib Go.Sort

instance : Inhabited Bd := ⟨bdZ⟩
def cfHand (x y : Hd) : Int := if Lib.compareInt x.1 y.1 = 0 then Lib.compareInt x.2 y.2 else Lib.compareInt x.1 y.1
def cfBond (x y : Bd) : Int := cfHand x.1 y.1
set_option maxHeartbeats 2000000 in
theorem compare_any (x y : Hd) (W : World) : Calls Tryz.prog 73 #[.agg #[.int .i64 x.1, .int .i64 x.2], .agg #[.int .i64 y.1, .int .i64 y.2]] W fun e w' => e = .returned (.int .i64 (cfHand x y)) ∧ ∃ q os', w' = grow (W.drewN q) os' := by
  obtain ⟨a, b⟩ := x
  obtain ⟨c, d⟩ := y
  have hcon := fun m n W' => AnyG.cmp_Compare_int famCmpLay m n W'
  change ∀ m n W', Calls Tryz.prog 54 _ _ _ at hcon
  have HCON := Lib.hid hcon
  obtain ⟨r, hr⟩ : ∃ r, Lib.compareInt a c = r := ⟨_, rfl⟩
  obtain ⟨s, hs⟩ : ∃ s, Lib.compareInt b d = s := ⟨_, rfl⟩
  obtain ⟨t, ht⟩ : ∃ t, (if r = 0 then s else r) = t := ⟨_, rfl⟩
  have HP : Hid (cfHand (a, b) (c, d) = t) := Lib.hid (by rw [cfHand, hr, hs]; exact ht)
  have HT := Lib.hid ht
  have HR := Lib.hid (fun W' => hcon a c W')
  have HS := Lib.hid (fun W' => hcon b d W')
  rw [hr] at HR
  rw [hs] at HS
  have HEQ : Hid (∀ os, ∃ q os', ((W.alloc (.cells #[.int .i64 a, .int .i64 b] 34)).alloc (.cells #[.int .i64 c, .int .i64 d] 34)).drew.alloc os = grow (W.drewN q) os') := Lib.hid (fun os => ⟨1, _, by
    rw [alloc_eq_grow, alloc_eq_grow, alloc_eq_grow]
    show grow (grow (grow (W.drewN 1) _) _) _ = _
    rw [grow_grow, grow_grow]⟩)
  have hB : ((W.alloc (.cells #[.int .i64 a, .int .i64 b] 34)).alloc (.cells #[.int .i64 c, .int .i64 d] 34)).heap[W.heap.size + 1]? = some (.cells #[.int .i64 c, .int .i64 d] 34) := heap_alloc2_new _ _ _
  have hA : ((W.alloc (.cells #[.int .i64 a, .int .i64 b] 34)).alloc (.cells #[.int .i64 c, .int .i64 d] 34)).heap[W.heap.size]? = some (.cells #[.int .i64 a, .int .i64 b] 34) := heap_alloc2_old _ _ _
  clear hcon hr hs ht HCON
  go_enter Tryz.func73, Tryz.ntmps73
  go_wp2_with fail
  generalize ((W.alloc (.cells #[.int .i64 a, .int .i64 b] 34)).alloc (.cells #[.int .i64 c, .int .i64 d] 34)) = X at *
  obtain ⟨k0, k1⟩ := hCells (a := a) (b := b) hA
  obtain ⟨l0, l1⟩ := hCells (a := c) (b := d) hB
  have hl1 := (Array.getElem?_eq_some_iff.1 hA).1
  have hl2 := (Array.getElem?_eq_some_iff.1 hB).1
  have HI2 : Hid (Ints (X.drew.alloc (.cells #[.int .i64 r, .int .i64 s] 3)) (.slice (some ⟨X.heap.size, 0, none⟩) 2 2) [r, s]) := Lib.hid (by
    refine ⟨_, 2, rfl, by simp, by simp [maxLen], fun k hk => ⟨_, _, rfl, by simp, ?_⟩⟩
    simp at hk
    rcases (show k = 0 ∨ k = 1 by omega) with rfl | rfl
    · exact cell_of_row _ _ _ _ _ _ (heap_alloc_new X.drew _)
    · exact cell_of_row _ _ _ _ _ _ (heap_alloc_new X.drew _))
  clear hA hB
  go_region_held3 (fun x => (x.cell? ⟨W.heap.size, 0, none⟩ = some (.int .i64 a) ∧ x.cell? ⟨W.heap.size, 1, none⟩ = some (.int .i64 b) ∧ x.cell? ⟨W.heap.size + 1, 0, none⟩ = some (.int .i64 c) ∧ x.cell? ⟨W.heap.size + 1, 1, none⟩ = some (.int .i64 d))) (first | go_keep) (first
    | ((go_at_call 54; refine (HR.out _).mono ?_; clear HR; rintro e x1 ⟨rfl, rfl⟩))
    | ((go_at_call 54; refine (HS.out _).mono ?_; clear HS; rintro e x1 ⟨rfl, rfl⟩))
    | ((go_at_call 53; refine (orInt_any _ r s t _ HT.out HI2.out).mono ?_; rintro e x1 ⟨rfl, rfl⟩)))
  go_wp2
  go_ret
  exact ⟨ret_int HP.out.symm, HEQ.out _⟩
set_option maxHeartbeats 1000000 in
theorem selLit_any (x y : Bd) (W : World) : Calls Tryz.prog 72 #[.agg #[.int .i64 x.1.1, .int .i64 x.1.2, .int .i64 x.2.1, .int .i64 x.2.2], .agg #[.int .i64 y.1.1, .int .i64 y.1.2, .int .i64 y.2.1, .int .i64 y.2.2]] W fun e w' => e = .returned (.int .i64 (cfBond x y)) ∧ ∃ q os', w' = grow (W.drewN q) os' := by
  have HGR : Hid (∀ o o' q os, ∃ q' os', grow (((W.alloc o).alloc o').drewN q) os = grow (W.drewN q') os') := Lib.hid (fun o o' q os => ⟨q, _, by rw [alloc_eq_grow, alloc_eq_grow, grow_grow]; exact (grow_grow (W.drewN q) _ os)⟩)
  go_enter Tryz.func72, Tryz.ntmps72
  go_wp2_with (go_at_call 73; refine (compare_any x.1 y.1 _).mono ?_; rintro e w' ⟨rfl, q, os, rfl⟩)
  go_ret
  exact ⟨rfl, HGR.out _ _ _ _⟩
theorem cmpBonds (blk off size : Nat) (w : World) : CmpLays Tryz.prog 72 #[] elBond.enc 4 cfBond blk off size w := fun _ _ _ _ x y => selLit_any x y _
theorem cmp_lt (a b : Int) : (Lib.compareInt a b = 0 ↔ a = b) ∧ (Lib.compareInt a b < 0 ↔ a < b) := by
  unfold Lib.compareInt
  by_cases h1 : a < b
  · simp [h1]; omega
  · by_cases h2 : b < a
    · simp [h1, h2]; omega
    · simp [h1, h2]; omega
theorem ltBond (x y : Bd) : ltOf cfBond x y = decide (hlt x.1 y.1) := by
  have key : cfBond x y < 0 ↔ hlt x.1 y.1 := by
    unfold cfBond cfHand hlt
    obtain ⟨e1, l1⟩ := cmp_lt x.1.1 y.1.1
    obtain ⟨_, l2⟩ := cmp_lt x.1.2 y.1.2
    by_cases h : x.1.1 = y.1.1
    · rw [if_pos (e1.2 h), l2]; omega
    · rw [if_neg (fun q => h (e1.1 q)), l1]; omega
  exact decide_eq_decide.2 key
theorem swoBond : SWO (ltOf cfBond) where
  irrefl x := by rw [ltBond]; exact decide_eq_false (hlt_irrefl _)
  trans x y z h1 h2 := by rw [ltBond] at *; exact decide_eq_true (hlt_trans (of_decide_eq_true h1) (of_decide_eq_true h2))
  ntrans x y z h1 h2 := by
    rw [ltBond] at *
    have h1 := of_decide_eq_false h1
    have h2 := of_decide_eq_false h2
    refine decide_eq_false (fun h => ?_)
    unfold hlt at *
    omega

theorem getBangB {α : Type} [Inhabited α] (xs : List α) (i : Nat) (d : α) (h : i < xs.length) : xs.toArray[i]! = xs.getD i d := by
  rw [getElem!_pos xs.toArray i (by simpa using h), List.getD_eq_getElem?_getD, List.getElem?_eq_getElem h]; rfl
/-- The cells of a row of elements, one by one. -/
theorem flatB_at (xs : List Bd) (t : Nat) (h : t < xs.length * 4) : (flatK elBond.enc 4 xs.toArray)[t]! = (xs.flatMap elBond.enc)[t]! := by
  rw [get_flatK _ _ _ _ (by simpa using h)]
  have hq : t / 4 < xs.length := by omega
  have hm : t % 4 < 4 := Nat.mod_lt _ (by decide)
  have e := enc_at elBond xs (t / 4) (t % 4) hq hm
  rw [show elBond.size = 4 from rfl, show t / 4 * 4 + t % 4 = t by omega] at e
  rw [getBangB xs (t / 4) elBond.zero hq]
  have l1 : t % 4 < (elBond.enc (xs.getD (t / 4) elBond.zero)).length := by rw [elBond.len]; exact hm
  have l2 : t < (xs.flatMap elBond.enc).length := by rw [length_enc]; exact h
  rw [List.getElem?_eq_getElem l1, List.getElem?_eq_getElem l2] at e
  rw [getElem!_pos (elBond.enc (xs.getD (t / 4) elBond.zero)) (t % 4) l1, getElem!_pos (xs.flatMap elBond.enc) t l2]
  exact (Option.some.inj e).symm

theorem OwnsF.holdsB {w : World} {B g n cap : Nat} {T : TypeId} {xs : List Bd} (h : OwnsF elBond w B T (.slice (some ⟨g, 0, none⟩) n cap) xs) : HoldsK elBond.enc 4 w g 0 xs.toArray := by
  intro j hj
  have en : n = xs.length := by
    rcases h.owns.form with ⟨h', _⟩ | ⟨g', cap', cur, h', _⟩
    · cases h'
    · simpa using (Value.slice.inj h').2.1
  subst en
  rw [size_flatK] at hj
  have hj' : j < xs.length * 4 := by simpa using hj
  have l2 : j < (xs.flatMap elBond.enc).length := by rw [length_enc]; exact hj'
  refine ⟨?_, ?_⟩
  · rw [flatB_at xs j hj', Nat.zero_add, World.ownsRow.cellAt h.owns j hj', List.getElem?_eq_getElem l2, getElem!_pos (xs.flatMap elBond.enc) j l2]; rfl
  · rcases h.2 with ⟨e, _⟩ | ⟨g', cap', cur, e, hb, hh, _⟩
    · cases e
    · simp only [Value.slice.injEq, Option.some.injEq, Addr.mk.injEq] at e
      obtain ⟨⟨rfl, _⟩, _⟩ := e
      exact frozen_of_row _ _ _ _ _ hh

theorem mapBlockB_heap (w : World) (blk : Nat) (f : Array Value → Array Value) {c : Array Value} {T : TypeId} {fr : Nat × Nat} (h : w.heap[blk]? = some (.cells c T fr)) : (mapBlock w blk f).heap[blk]? = some (.cells (f c) T fr) := by
  unfold mapBlock
  simp only [Array.getElem?_modify, h, if_true, Option.map_some]
  rfl
theorem mapBlockB_far (w : World) (blk : Nat) (f : Array Value → Array Value) {b : Nat} (h : b ≠ blk) : (mapBlock w blk f).heap[b]? = w.heap[b]? := by
  unfold mapBlock
  simp only [Array.getElem?_modify]
  rw [if_neg (Ne.symm h)]
theorem mapBlockB_size (w : World) (blk : Nat) (f : Array Value → Array Value) : (mapBlock w blk f).heap.size = w.heap.size := by
  unfold mapBlock; simp
theorem growB_heap (w : World) (os : Array Obj) {b : Nat} (h : b < w.heap.size) : (grow w os).heap[b]? = w.heap[b]? := by
  unfold grow; simp [Array.getElem?_append, h]
theorem sortB_kept (w : World) (g n : Nat) (d : Array Bd) (os : Array Obj) : Kept (fun b => b = g) w (sortWorldK elBond.enc 4 w g 0 n d os) := by
  refine ⟨rfl, rfl, rfl, ?_, fun b hb hne => ?_⟩
  · unfold sortWorldK putRowK putRow
    simp only [grow, Array.size_append, mapBlockB_size, Sort.ahead]
    omega
  · unfold sortWorldK putRowK putRow
    rw [growB_heap _ _ (by rw [mapBlockB_size]; exact hb), mapBlockB_far _ _ _ hne]
    rfl
/-- The row has been laid anew. -/
theorem OwnsF.sortedB {w : World} {B g n cap m : Nat} {T : TypeId} {xs ys : List Bd} (h : OwnsF elBond w B T (.slice (some ⟨g, 0, none⟩) n cap) xs) (hl : ys.length = xs.length) (os : Array Obj) :
    OwnsF elBond (sortWorldK elBond.enc 4 w g 0 m ys.toArray os) B T (.slice (some ⟨g, 0, none⟩) n cap) ys := by
  refine ⟨by rw [length_enc], ?_⟩
  rcases h.2 with ⟨e, _⟩ | ⟨g', cap', cur, e, hb, hh, hn, hc, hs, ht⟩
  · cases e
  · simp only [Value.slice.injEq, Option.some.injEq, Addr.mk.injEq, and_true] at e
    obtain ⟨rfl, rfl, rfl⟩ := e
    have hg : g < w.heap.size := (Array.getElem?_eq_some_iff.1 hh).1
    refine .inr ⟨g, cap, putCells id 0 (flatK elBond.enc 4 ys.toArray) cur, by rw [hl], hb, ?_, by rw [hl]; exact hn, hc, by simp [putCells, hs], ?_⟩
    · unfold sortWorldK putRowK putRow
      rw [growB_heap _ _ (by rw [mapBlockB_size]; exact hg)]
      exact mapBlockB_heap _ _ _ hh
    · have hle : xs.length * 4 ≤ cur.size := by rw [hs]; exact Nat.mul_le_mul_right _ hn
      refine List.ext_getElem (by
        have e1 : (putCells id 0 (flatK elBond.enc 4 ys.toArray) cur).toList.length = cap * elBond.size := by simp [putCells, hs]
        rw [length_enc, List.length_take, e1, hl]
        have := Nat.mul_le_mul_right elBond.size hn
        omega) fun t h1 h2 => ?_
      have ht' : t < ys.length * 4 := by rw [length_enc] at h2; exact h2
      have htc : t < cur.size := by rw [hl] at ht'; omega
      simp only [List.getElem_take, putCells, Array.getElem_toList, Array.getElem_mapIdx, id, size_flatK]
      rw [if_pos ⟨Nat.zero_le _, by simpa using ht'⟩, Nat.sub_zero, flatB_at ys t ht', getElem!_pos (ys.flatMap elBond.enc) t h2]

set_option maxHeartbeats 1000000 in
theorem sortBonds_any (B : Nat) (v : Value) (xs : List Bd) (w : World) (h : OwnsF elBond w B 41 v xs) (hsm : xs.length ≤ 4000000000000000000) :
    Calls Tryz.prog 71 #[v, .func (.func 72) #[] #[]] w fun e w' => e = .returned (.tuple #[]) ∧ ∃ ys : List Bd, ys.Perm xs ∧ ys.Pairwise (fun x y => ¬ hlt y.1 x.1) ∧ OwnsF elBond w' B 41 v ys ∧ Kept (fun b => v.ownBlock = some b) w w' := by
  rcases h.owns.form with ⟨rfl, rfl⟩ | ⟨g, cap, cur, rfl, hh, hg, hn, hcap, hsz⟩
  · have hcon := AnyF.slices_SortFunc_none sortBond none 0 (.func (.func 72) #[] #[]) w
    change Calls Tryz.prog 71 _ _ _ at hcon
    refine hcon.mono fun e w' ⟨he, hw⟩ => ⟨he, [], List.Perm.refl _, by simp, OwnsF.nil _ _ _ _, ?_⟩
    rw [hw]; exact Kept.refl _ _
  · have eg : ∀ args w, (callFunc 72 args).run Tryz.prog w = .ok (.enter 72 args) w := enters_of Tryz.func72 (by kernel_rfl) rfl
    have hcon := AnyQ.slices_SortFunc sortBond 4 Tryz.isAgg41 Tryz.sizeOf41 elBond.enc elBond.len elBond.one cfBond swoBond 72 #[] g 0 cap xs.toArray w eg (cmpBonds g 0 _ w) h.holdsB hg (by simp; omega)
    change Calls Tryz.prog 71 _ _ _ at hcon
    rw [List.size_toArray] at hcon
    refine hcon.mono fun e w' ⟨he, d', m, os, hp, hs, hw⟩ => ⟨he, d'.toList, ?_, ?_, ?_, ?_⟩
    · obtain ⟨p1, _, p3⟩ := hp
      have e1 : d'.extract 0 xs.length = d' := by rw [← List.size_toArray, ← p1]; simp
      have e2 : xs.toArray.extract 0 xs.length = xs.toArray := by rw [← List.size_toArray]; simp
      rw [e1, e2] at p3
      simpa using p3
    · rw [List.pairwise_iff_getElem]
      intro i j hi hj hij
      have hj' : j < xs.length := by rw [← List.size_toArray, ← hp.1]; simpa using hj
      have := hs i j (Nat.zero_le _) hij hj'
      rw [ltBond, getElem!_pos d' j (by simpa using hj), getElem!_pos d' i (by simpa using hi)] at this
      simpa using this
    · rw [hw]
      exact h.sortedB (ys := d'.toList) (by rw [Array.length_toList, hp.1, List.size_toArray]) os
    · rw [hw]
      exact (sortB_kept w g m d' os).mono (fun b e => .inl (by rw [e]; rfl))
end Go.Proofs.YtcmpaohefihijabGreatDoor

/- The contract of selected of package family, with the literals of Bonds, Children and Gone; Bonds. -/
namespace Go.Proofs.YtcmpaohefihijabGreatDoor
set_option maxRecDepth 8000
set_option maxRecDepth 8000
open Go.RowKit
variable {u : Value × Value × Value}

theorem run_rangeB_nil (x : World) : (Instr.range 72 (.map none)).run Tryz.prog x = .ok (.pointer (some ⟨x.heap.size, 0, none⟩)) (x.alloc (.mapIter none 0 #[] 0)) := by
  simp only [Instr.range, Sem.run_bind, run_underlying Tryz.underlying72, Result.andThen]
  rfl
theorem run_nextB_nil {x : World} {r : Nat} (h : x.heap[r]? = some (.mapIter none 0 #[] 0)) (ty : TypeId) : (Instr.next (.pointer (some ⟨r, 0, none⟩)) false ty).run Tryz.prog x = .ok (.tuple #[.bool false]) x := by
  simp [Instr.next, getObj, Sem.run_bind, Sem.run, h, Result.andThen]

/-- What a loop over the bonds has picked: those that are wanted, of the children that have come. -/
structure PickB (bs : List Bd) (q : Bd → Bool) (todo : List Hd) (ys : List Bd) : Prop where
  sub : ∀ x ∈ ys, x ∈ bs ∧ x.1 ∉ todo ∧ q x = true
  all : ∀ x ∈ bs, x.1 ∉ todo → q x = true → x ∈ ys
  nd : (ys.map (·.1)).Nodup
theorem PickB.start {bs : List Bd} {q : Bd → Bool} {ks : List Hd} (h : ∀ c p, (c, p) ∈ bs → c ∈ ks) : PickB bs q ks [] :=
  ⟨by simp, fun x hx hn => absurd (h x.1 x.2 hx) hn, by simp⟩
theorem PickB.len {bs : List Bd} {q : Bd → Bool} {todo : List Hd} {ys : List Bd} (h : PickB bs q todo ys) : ys.length ≤ bs.length := by
  have := nodup_sub_len (ys := bs.map (·.1)) h.nd (fun x hx => by
    obtain ⟨y, hy, rfl⟩ := List.mem_map.1 hx
    exact List.mem_map.2 ⟨y, (h.sub y hy).1, rfl⟩)
  simpa using this
theorem PickB.skip {bs : List Bd} {q : Bd → Bool} {todo : List Hd} {ys : List Bd} (h : PickB bs q todo ys) (hs : SortedB bs) {c p : Hd} (hb : (c, p) ∈ bs) (hq : q (c, p) = false) : PickB bs q (todo.filter (fun y => !decide (y = c))) ys := by
  refine ⟨fun x hx => ⟨(h.sub x hx).1, fun hm => (h.sub x hx).2.1 (List.mem_filter.1 hm).1, (h.sub x hx).2.2⟩, fun x hx hn hqx => ?_, h.nd⟩
  by_cases e : x.1 = c
  · have e2 : x = (c, p) := Prod.ext e (hs.fn (c := c) (by rw [← e]; exact hx) hb)
    rw [e2, hq] at hqx; cases hqx
  · exact h.all x hx (fun hm => hn (List.mem_filter.2 ⟨hm, by simpa using e⟩)) hqx
theorem PickB.next {bs : List Bd} {q : Bd → Bool} {todo : List Hd} {ys : List Bd} (h : PickB bs q todo ys) (hs : SortedB bs) {c p : Hd} (hc : c ∈ todo) (hb : (c, p) ∈ bs) (hq : q (c, p) = true) : PickB bs q (todo.filter (fun y => !decide (y = c))) (ys ++ [(c, p)]) := by
  refine ⟨fun x hx => ?_, fun x hx hn hqx => ?_, ?_⟩
  · rcases List.mem_append.1 hx with hx | hx
    · exact ⟨(h.sub x hx).1, fun hm => (h.sub x hx).2.1 (List.mem_filter.1 hm).1, (h.sub x hx).2.2⟩
    · simp at hx; subst hx
      exact ⟨hb, fun hm => by have := (List.mem_filter.1 hm).2; simp at this, hq⟩
  · by_cases e : x.1 = c
    · have e2 : x = (c, p) := Prod.ext e (hs.fn (c := c) (by rw [← e]; exact hx) hb)
      rw [e2]; simp
    · exact List.mem_append_left _ (h.all x hx (fun hm => hn (List.mem_filter.2 ⟨hm, by simpa using e⟩)) hqx)
  · rw [List.map_append, List.nodup_append]
    refine ⟨h.nd, by simp, fun x hx y hy e => ?_⟩
    simp at hy
    obtain ⟨z, hz, rfl⟩ := List.mem_map.1 hx
    exact (h.sub z hz).2.1 (by rw [e, hy]; exact hc)
theorem PickB.done {bs : List Bd} {q : Bd → Bool} {ys zs : List Bd} (h : PickB bs q [] ys) (hs : SortedB bs) (hp : zs.Perm ys) (hz : zs.Pairwise (fun x y => ¬ hlt y.1 x.1)) : zs = bs.filter q := by
  refine SortedB.ext (SortedB.ofPerm ((hp.map (·.1)).nodup_iff.2 h.nd) hz) (hs.filter q) (fun b => ?_)
  rw [hp.mem_iff, List.mem_filter]
  exact ⟨fun hb => ⟨(h.sub b hb).1, (h.sub b hb).2.2⟩, fun hb => h.all b hb.1 (by simp) hb.2⟩
def SelPost (w : World) (xs : List Bd) (e : Ending) (w' : World) : Prop := ∃ v, e = .returned v ∧ OwnsF elBond w' w.heap.size 41 v xs ∧ Below w.heap.size w w'
theorem SelPost.sorted {w w4 w5 : World} {B : Nat} {v : Value} {xs zs : List Bd} (hz : zs = xs) (ho : OwnsF elBond w5 B 41 v zs) (hB : w.heap.size ≤ B) (hb : Below w.heap.size w w4) (hk : Kept (fun b => v.ownBlock = some b) w4 w5) : SelPost w xs (.returned v) w5 := by
  refine ⟨v, rfl, ?_, hb.trans (hk.below hb.size (fun k e => by have := ho.ge e; omega))⟩
  rw [← hz]
  exact ho.weaken hB

set_option maxHeartbeats 1000000 in
theorem bondsLit_any (x : Bd) (w : World) : Calls Tryz.prog 44 #[.agg #[.int .i64 x.1.1, .int .i64 x.1.2, .int .i64 x.2.1, .int .i64 x.2.2]] w fun e w' => e = .returned (.bool true) ∧ Below w.heap.size w w' := by
  have HX : Hid (∀ o, Below w.heap.size w (w.alloc o)) := Lib.hid (fun o => nb_alloc (Below.refl _ _) o)
  go_enter Tryz.func44, Tryz.ntmps44
  go_wp2
  go_ret
  exact ⟨rfl, HX.out _⟩
theorem eqHd {a b c d : Int} : decide (((a, b) : Hd) = (c, d)) = ((a == c) && (b == d)) := by
  by_cases h1 : a = c <;> by_cases h2 : b = d <;> simp [h1, h2]
set_option maxHeartbeats 2000000 in
theorem goneLit_any (x : Bd) (bx : Nat) (a b : Int) (w : World) (hbx : w.heap[bx]? = some (.cells #[.int .i64 a, .int .i64 b] 34)) :
    Calls Tryz.prog 122 #[.agg #[.int .i64 x.1.1, .int .i64 x.1.2, .int .i64 x.2.1, .int .i64 x.2.2], .pointer (some ⟨bx, 0, none⟩)] w fun e w' => e = .returned (.bool (decide (x.1 = (a, b)) || decide (x.2 = (a, b)))) ∧ Below w.heap.size w w' := by
  obtain ⟨⟨x1, x2⟩, x3, x4⟩ := x
  have hbl := (Array.getElem?_eq_some_iff.1 hbx).1
  obtain ⟨k0, k1⟩ := hCells (a := a) (b := b) hbx
  have HX : Hid (∀ o, Below w.heap.size w (w.alloc o)) := Lib.hid (fun o => nb_alloc (Below.refl _ _) o)
  clear hbx
  rw [eqHd, eqHd]
  cases h1 : (x1 == a) <;> cases h2 : (x2 == b) <;> cases h3 : (x3 == a) <;> cases h4 : (x4 == b)
  all_goals
    go_enter Tryz.func122, Tryz.ntmps122
    go_wp2
    go_ret
    exact ⟨rfl, HX.out _⟩

set_option maxHeartbeats 4000000 in
theorem selBonds_any (p : Nat) (F : Nat → Prop) (bs : List Bd) (w : World) (h : FamIn u w p F bs) (hs : SortedB bs) (hn : bs.length * 32 ≤ 140737488355328) :
    Calls Tryz.prog 43 #[.pointer (some ⟨p, 3, none⟩), .func (.func 44) #[] #[]] w (SelPost w (bs.filter (fun _ => true))) := by
  obtain ⟨i0, hi, hz0, hz1, hz2⟩ := info_parts infoBond
  obtain ⟨Q, hQ⟩ : ∃ Q : Bd → Bool, (fun _ => true) = Q := ⟨_, rfl⟩
  have HQ := Lib.hid (fun x : Bd => congrFun hQ x)
  rw [hQ]
  obtain ⟨vm, h⟩ := h
  have HW := Lib.hid h
  have HS := Lib.hid hs
  have hpl := h.plt
  have c1 := h.cell
  clear hs hQ
  rcases h.map with ⟨rfl, rfl⟩ | ⟨mb, ks, f, rfl, hm, hB, hF, hne⟩
  · have HP0 : Hid (PickB [] Q [] []) := Lib.hid (PickB.start (by simp))
    have HSZ := Lib.hid (heap_alloc_new w (.mapIter none 0 #[] 0))
    have HBN : Hid (Below w.heap.size w (w.alloc (.mapIter none 0 #[] 0))) := Lib.hid (nb_alloc (Below.refl _ _) _)
    have hrn := run_rangeB_nil
    clear h
    go_enter Tryz.func43, Tryz.ntmps43
    go_wp2
    go_loopw [5] (fun v wr => v = .slice none 0 0 ∧ wr = w.alloc (.mapIter none 0 #[] 0)) (fun _ _ => 0)
    case atStart => exact ⟨rfl, rfl⟩
    case round =>
      obtain ⟨rfl, rfl⟩ := hrel
      have hnx := run_nextB_nil HSZ.out
      go_wp2_with fail
      refine (sortBonds_any w.heap.size _ [] _ (OwnsF.nil _ _ _ _) (by simp)).mono ?_
      rintro e w5 ⟨rfl, zs, hp, hs, ho, hk5⟩
      have HEND : Hid (SelPost w (([] : List Bd).filter Q) (.returned (.slice none 0 0)) w5) := Lib.hid (SelPost.sorted (HP0.out.done HS.out hp hs) ho (Nat.le_refl _) HBN.out hk5)
      clear hp hs ho hk5 hnx
      go_wp2
      go_ret
      exact HEND.out
  · have HMT := Lib.hid hm
    have HMB := Lib.hid hB
    have HP0 : Hid (PickB bs Q ks []) := Lib.hid (PickB.start (fun c p hb => (hB.val c p hb).1))
    have HMTL : Hid (mb < w.heap.size) := Lib.hid hm.lt
    clear h hm hB hF hne
    go_enter Tryz.func43, Tryz.ntmps43
    go_wp2_with (first | (at_range; refine wpList_range_is (K := kHand) _ rfl _ 72 rfl _ Tryz.underlying72 rfl HMT.out ?_))
    intro w2 hrg hb2 hsz2
    have HRG := Lib.hid hrg
    have HB2 := Lib.hid hb2
    have HSZ := Lib.hid hsz2
    clear hrg hb2 hsz2 c1
    go_wp2
    go_loopw [5] (fun v wr => ∃ todo cnt ys, Hid (RangeIs kHand wr mb w.heap.size ks.length ks f todo cnt) ∧ Hid (PickB bs Q todo ys) ∧ Hid (OwnsF elBond wr (w.heap.size + 1) 41 v ys) ∧ Hid (Below w.heap.size w wr) ∧ Hid (w.heap.size + 1 ≤ wr.heap.size)) (fun _ wr => wr.rangeLeft mb w.heap.size)
    case atStart => exact ⟨_, _, [], HRG, HP0, OwnsF.nil _ _ _ _, HB2, Lib.hid (by rw [HSZ.out]; exact Nat.le_refl _)⟩
    case round =>
      obtain ⟨todo, cnt, ys, hR, hP, hO, hBw, hsz⟩ := hrel
      have hyl : ys.length ≤ bs.length := hP.out.len
      go_wp2_with (first | (at_next; refine wpList_next_is (K := kHand) _ rfl _ rfl rfl hR.out ?_ ?_))
      case refine_1 =>
        rintro rfl
        clear HRG HP0 HB2 HSZ
        go_wp2_with fail
        refine (sortBonds_any _ _ ys _ hO.out (by omega)).mono ?_
        rintro e w5 ⟨rfl, zs, hp, hs, ho, hk5⟩
        have HEND := Lib.hid (SelPost.sorted (hP.out.done HS.out hp hs) ho (by omega) hBw.out hk5)
        clear hp hs ho hk5
        go_wp2
        go_ret
        exact HEND.out
      case refine_2 =>
        intro c1 c2 w4 cnt' hkt hkm hrg hlt hkp hsz4 hen
        obtain ⟨d, hcd⟩ := HMB.out.some_ (c1, c2) hkm
        have hfc := (HMB.out.val (c1, c2) d hcd).2
        have hB4 : Below w.heap.size w w4 := hBw.out.trans (hkp.below hBw.out.size (fun k e => by omega))
        have hO4 : OwnsF elBond w4 (w.heap.size + 1) 41 _ ys := hO.out.kept hkp (fun j e => by have := hO.out.ge e; omega)
        have HRG4 := Lib.hid (hrg.later (nb_alloc (nb_alloc (nb_alloc (Below.refl _ _) (.cells #[.int .i64 c1, .int .i64 c2] 34)) (.cells #[.int .i64 d.1, .int .i64 d.2] 34)) (.cells #[.int .i64 c1, .int .i64 c2, .int .i64 d.1, .int .i64 d.2] 41)))
        have HLT := Lib.hid hlt
        have HBA := Lib.hid (nb_alloc (nb_alloc (nb_alloc hB4 (.cells #[.int .i64 c1, .int .i64 c2] 34)) (.cells #[.int .i64 d.1, .int .i64 d.2] 34)) (.cells #[.int .i64 c1, .int .i64 c2, .int .i64 d.1, .int .i64 d.2] 41))
        have HOA := Lib.hid (hO4.later (nb_alloc (nb_alloc (nb_alloc (Below.refl _ _) (.cells #[.int .i64 c1, .int .i64 c2] 34)) (.cells #[.int .i64 d.1, .int .i64 d.2] 34)) (.cells #[.int .i64 c1, .int .i64 c2, .int .i64 d.1, .int .i64 d.2] 41)))
        have HKT := Lib.hid hkt
        have HCD := Lib.hid hcd
        have hs4 := hsz.out
        rw [← hsz4] at hs4
        have HS4 := Lib.hid hs4
        replace hen : (Instr.entry (.pointer (some ⟨w.heap.size, 0, none⟩))).run Tryz.prog w4 = .ok (.tuple #[.agg #[.int .i64 c1, .int .i64 c2], .agg #[.int .i64 d.1, .int .i64 d.2]]) w4 := by rw [← hfc]; exact hen
        rw [hfc]
        simp only [show kHand.val (c1, c2) = .agg #[.int .i64 c1, .int .i64 c2] from rfl]
        have HAR : Hid ((((w4.alloc (.cells #[.int .i64 c1, .int .i64 c2] 34)).alloc (.cells #[.int .i64 d.1, .int .i64 d.2] 34)).alloc (.cells #[.int .i64 c1, .int .i64 c2, .int .i64 d.1, .int .i64 d.2] 41)).heap[w4.heap.size + 1 + 1]? = some (.cells #[.int .i64 c1, .int .i64 c2, .int .i64 d.1, .int .i64 d.2] 41)) := Lib.hid (by
          have := heap_alloc_new ((w4.alloc (.cells #[.int .i64 c1, .int .i64 c2] 34)).alloc (.cells #[.int .i64 d.1, .int .i64 d.2] 34)) (.cells #[.int .i64 c1, .int .i64 c2, .int .i64 d.1, .int .i64 d.2] 41)
          rw [show ((w4.alloc (.cells #[.int .i64 c1, .int .i64 c2] 34)).alloc (.cells #[.int .i64 d.1, .int .i64 d.2] 34)).heap.size = w4.heap.size + 1 + 1 by simp] at this
          exact this)
        clear hrg hlt hB4 hO4 hkt hkm hkp hsz4 hs4 hfc hcd HRG HP0 HB2 HSZ
        go_wp2_with fail
        generalize (((w4.alloc (.cells #[.int .i64 c1, .int .i64 c2] 34)).alloc (.cells #[.int .i64 d.1, .int .i64 d.2] 34)).alloc (.cells #[.int .i64 c1, .int .i64 c2, .int .i64 d.1, .int .i64 d.2] 41)) = A at *
        clear hen
        refine (bondsLit_any ((c1, c2), d) _).mono ?_
        rintro e w6 ⟨rfl, hb6⟩
        have hAl := (Array.getElem?_eq_some_iff.1 HAR.out).1
        have hr6 : w6.heap[w4.heap.size + 1 + 1]? = some (.cells #[.int .i64 c1, .int .i64 c2, .int .i64 d.1, .int .i64 d.2] 41) := by rw [hb6.block _ hAl]; exact HAR.out
        have HO6 := Lib.hid (HOA.out.later hb6)
        have HRG6 := Lib.hid (HRG4.out.later hb6)
        have HB6 := Lib.hid (nb_trans HBA.out hb6)
        have hs6 := hb6.size
        have hs4' := HS4.out
        have hr6l := (Array.getElem?_eq_some_iff.1 hr6).1
        have k0 : w6.cell? ⟨w4.heap.size + 1 + 1, 0, none⟩ = some (.int .i64 c1) := by rw [cell_of_row _ _ _ _ _ _ hr6]; rfl
        have k1 : w6.cell? ⟨w4.heap.size + 1 + 1, 1, none⟩ = some (.int .i64 c2) := by rw [cell_of_row _ _ _ _ _ _ hr6]; rfl
        have k2 : w6.cell? ⟨w4.heap.size + 1 + 1, 2, none⟩ = some (.int .i64 d.1) := by rw [cell_of_row _ _ _ _ _ _ hr6]; rfl
        have k3 : w6.cell? ⟨w4.heap.size + 1 + 1, 3, none⟩ = some (.int .i64 d.2) := by rw [cell_of_row _ _ _ _ _ _ hr6]; rfl
        clear hb6 hr6
        have hqq := HQ.out ((c1, c2), d)
        try dsimp only at hqq
        cases hm : Q ((c1, c2), d)
        · rw [hm] at hqq; cases hqq
        · have hPN := hP.out.next HS.out HKT.out HCD.out hm
          have hyl2 := hPN.len
          rw [List.length_append] at hyl2
          simp only [List.length_cons, List.length_nil] at hyl2
          have HPN := Lib.hid hPN
          clear hPN hqq hm
          go_wp2_with (first | (at_builtin; refine wpList_append_own _ rfl _ _ 29 rfl (w.heap.size + 1) 41 i0 _ 4 32 Tryz.underlying29 hi hz0 hz1 hz2 rfl (by decide) _ ys.length (ys.flatMap elBond.enc) rfl (World.ownsRow.alloc HO6.out _) ⟨w6.heap.size, 0, none⟩ 1 1 [.int .i64 c1, .int .i64 c2, .int .i64 d.1, .int .i64 d.2] rfl rfl ?d1 ?d2 ?d3 ?d4 ?d5 ?_))
          case d1 => exact World.news_of_block (heap_alloc_new _ _)
          case d2 => exact elBond.one ((c1, c2), d)
          case d3 => unfold maxLen; omega
          case d4 => omega
          case d5 => simp; omega
          intro v' w7 hown hgr _
          have HO7 : Hid (OwnsF elBond w7 (w.heap.size + 1) 41 v' (ys ++ [((c1, c2), d)])) := Lib.hid (OwnsF.snoc (x := ((c1, c2), d)) hown)
          have hk7 : Kept (fun b => w.heap.size + 1 ≤ b) w6 w7 := (Kept.alloc _ w6 _).trans (Kept.grown (F := fun b => w.heap.size + 1 ≤ b) hgr (fun k e => HO6.out.ge e)) (fun _ h => .inl h)
          have HB7 : Hid (Below w.heap.size w w7) := Lib.hid (HB6.out.trans (hk7.below (by omega) (fun k e => by omega)))
          have HRG7 := Lib.hid (HRG6.out.kept hk7 (by have := HMTL.out; omega) (by omega))
          have hs7 := hk7.size
          clear hown hgr hk7 k0 k1 k2 k3
          go_wp2
          go_roundw
          case rel => exact ⟨_, _, ys ++ [((c1, c2), d)], HRG7, HPN, HO7, HB7, Lib.hid (by omega)⟩
          case measure => rw [HRG7.out.left_eq, hR.out.left_eq]; exact HLT.out


set_option maxHeartbeats 4000000 in
theorem selGone_any (p : Nat) (F : Nat → Prop) (bs : List Bd) (bx : Nat) (a b : Int) (w : World) (h : FamIn u w p F bs) (hs : SortedB bs) (hn : bs.length * 32 ≤ 140737488355328) (hbx : w.heap[bx]? = some (.cells #[.int .i64 a, .int .i64 b] 34)) :
    Calls Tryz.prog 43 #[.pointer (some ⟨p, 3, none⟩), .func (.func 122) #[] #[.pointer (some ⟨bx, 0, none⟩)]] w (SelPost w (bs.filter (fun x => decide (x.1 = (a, b)) || decide (x.2 = (a, b))))) := by
  obtain ⟨i0, hi, hz0, hz1, hz2⟩ := info_parts infoBond
  obtain ⟨Q, hQ⟩ : ∃ Q : Bd → Bool, (fun x => decide (x.1 = (a, b)) || decide (x.2 = (a, b))) = Q := ⟨_, rfl⟩
  have HQ := Lib.hid (fun x : Bd => congrFun hQ x)
  rw [hQ]
  have HBX := Lib.hid hbx
  clear hbx
  obtain ⟨vm, h⟩ := h
  have HW := Lib.hid h
  have HS := Lib.hid hs
  have hpl := h.plt
  have c1 := h.cell
  clear hs hQ
  rcases h.map with ⟨rfl, rfl⟩ | ⟨mb, ks, f, rfl, hm, hB, hF, hne⟩
  · have HP0 : Hid (PickB [] Q [] []) := Lib.hid (PickB.start (by simp))
    have HSZ := Lib.hid (heap_alloc_new w (.mapIter none 0 #[] 0))
    have HBN : Hid (Below w.heap.size w (w.alloc (.mapIter none 0 #[] 0))) := Lib.hid (nb_alloc (Below.refl _ _) _)
    have hrn := run_rangeB_nil
    clear h
    go_enter Tryz.func43, Tryz.ntmps43
    go_wp2
    go_loopw [5] (fun v wr => v = .slice none 0 0 ∧ wr = w.alloc (.mapIter none 0 #[] 0)) (fun _ _ => 0)
    case atStart => exact ⟨rfl, rfl⟩
    case round =>
      obtain ⟨rfl, rfl⟩ := hrel
      have hnx := run_nextB_nil HSZ.out
      go_wp2_with fail
      refine (sortBonds_any w.heap.size _ [] _ (OwnsF.nil _ _ _ _) (by simp)).mono ?_
      rintro e w5 ⟨rfl, zs, hp, hs, ho, hk5⟩
      have HEND : Hid (SelPost w (([] : List Bd).filter Q) (.returned (.slice none 0 0)) w5) := Lib.hid (SelPost.sorted (HP0.out.done HS.out hp hs) ho (Nat.le_refl _) HBN.out hk5)
      clear hp hs ho hk5 hnx
      go_wp2
      go_ret
      exact HEND.out
  · have HMT := Lib.hid hm
    have HMB := Lib.hid hB
    have HP0 : Hid (PickB bs Q ks []) := Lib.hid (PickB.start (fun c p hb => (hB.val c p hb).1))
    have HMTL : Hid (mb < w.heap.size) := Lib.hid hm.lt
    clear h hm hB hF hne
    go_enter Tryz.func43, Tryz.ntmps43
    go_wp2_with (first | (at_range; refine wpList_range_is (K := kHand) _ rfl _ 72 rfl _ Tryz.underlying72 rfl HMT.out ?_))
    intro w2 hrg hb2 hsz2
    have HRG := Lib.hid hrg
    have HB2 := Lib.hid hb2
    have HSZ := Lib.hid hsz2
    clear hrg hb2 hsz2 c1
    go_wp2
    go_loopw [5] (fun v wr => ∃ todo cnt ys, Hid (RangeIs kHand wr mb w.heap.size ks.length ks f todo cnt) ∧ Hid (PickB bs Q todo ys) ∧ Hid (OwnsF elBond wr (w.heap.size + 1) 41 v ys) ∧ Hid (Below w.heap.size w wr) ∧ Hid (w.heap.size + 1 ≤ wr.heap.size)) (fun _ wr => wr.rangeLeft mb w.heap.size)
    case atStart => exact ⟨_, _, [], HRG, HP0, OwnsF.nil _ _ _ _, HB2, Lib.hid (by rw [HSZ.out]; exact Nat.le_refl _)⟩
    case round =>
      obtain ⟨todo, cnt, ys, hR, hP, hO, hBw, hsz⟩ := hrel
      have hyl : ys.length ≤ bs.length := hP.out.len
      go_wp2_with (first | (at_next; refine wpList_next_is (K := kHand) _ rfl _ rfl rfl hR.out ?_ ?_))
      case refine_1 =>
        rintro rfl
        clear HRG HP0 HB2 HSZ
        go_wp2_with fail
        refine (sortBonds_any _ _ ys _ hO.out (by omega)).mono ?_
        rintro e w5 ⟨rfl, zs, hp, hs, ho, hk5⟩
        have HEND := Lib.hid (SelPost.sorted (hP.out.done HS.out hp hs) ho (by omega) hBw.out hk5)
        clear hp hs ho hk5
        go_wp2
        go_ret
        exact HEND.out
      case refine_2 =>
        intro c1 c2 w4 cnt' hkt hkm hrg hlt hkp hsz4 hen
        obtain ⟨d, hcd⟩ := HMB.out.some_ (c1, c2) hkm
        have hfc := (HMB.out.val (c1, c2) d hcd).2
        have hB4 : Below w.heap.size w w4 := hBw.out.trans (hkp.below hBw.out.size (fun k e => by omega))
        have hO4 : OwnsF elBond w4 (w.heap.size + 1) 41 _ ys := hO.out.kept hkp (fun j e => by have := hO.out.ge e; omega)
        have HRG4 := Lib.hid (hrg.later (nb_alloc (nb_alloc (nb_alloc (Below.refl _ _) (.cells #[.int .i64 c1, .int .i64 c2] 34)) (.cells #[.int .i64 d.1, .int .i64 d.2] 34)) (.cells #[.int .i64 c1, .int .i64 c2, .int .i64 d.1, .int .i64 d.2] 41)))
        have HLT := Lib.hid hlt
        have HBA := Lib.hid (nb_alloc (nb_alloc (nb_alloc hB4 (.cells #[.int .i64 c1, .int .i64 c2] 34)) (.cells #[.int .i64 d.1, .int .i64 d.2] 34)) (.cells #[.int .i64 c1, .int .i64 c2, .int .i64 d.1, .int .i64 d.2] 41))
        have HOA := Lib.hid (hO4.later (nb_alloc (nb_alloc (nb_alloc (Below.refl _ _) (.cells #[.int .i64 c1, .int .i64 c2] 34)) (.cells #[.int .i64 d.1, .int .i64 d.2] 34)) (.cells #[.int .i64 c1, .int .i64 c2, .int .i64 d.1, .int .i64 d.2] 41)))
        have HKT := Lib.hid hkt
        have HCD := Lib.hid hcd
        have hs4 := hsz.out
        rw [← hsz4] at hs4
        have HS4 := Lib.hid hs4
        replace hen : (Instr.entry (.pointer (some ⟨w.heap.size, 0, none⟩))).run Tryz.prog w4 = .ok (.tuple #[.agg #[.int .i64 c1, .int .i64 c2], .agg #[.int .i64 d.1, .int .i64 d.2]]) w4 := by rw [← hfc]; exact hen
        rw [hfc]
        simp only [show kHand.val (c1, c2) = .agg #[.int .i64 c1, .int .i64 c2] from rfl]
        have HAR : Hid ((((w4.alloc (.cells #[.int .i64 c1, .int .i64 c2] 34)).alloc (.cells #[.int .i64 d.1, .int .i64 d.2] 34)).alloc (.cells #[.int .i64 c1, .int .i64 c2, .int .i64 d.1, .int .i64 d.2] 41)).heap[w4.heap.size + 1 + 1]? = some (.cells #[.int .i64 c1, .int .i64 c2, .int .i64 d.1, .int .i64 d.2] 41)) := Lib.hid (by
          have := heap_alloc_new ((w4.alloc (.cells #[.int .i64 c1, .int .i64 c2] 34)).alloc (.cells #[.int .i64 d.1, .int .i64 d.2] 34)) (.cells #[.int .i64 c1, .int .i64 c2, .int .i64 d.1, .int .i64 d.2] 41)
          rw [show ((w4.alloc (.cells #[.int .i64 c1, .int .i64 c2] 34)).alloc (.cells #[.int .i64 d.1, .int .i64 d.2] 34)).heap.size = w4.heap.size + 1 + 1 by simp] at this
          exact this)
        clear hrg hlt hB4 hO4 hkt hkm hkp hsz4 hs4 hfc hcd HRG HP0 HB2 HSZ
        go_wp2_with fail
        generalize (((w4.alloc (.cells #[.int .i64 c1, .int .i64 c2] 34)).alloc (.cells #[.int .i64 d.1, .int .i64 d.2] 34)).alloc (.cells #[.int .i64 c1, .int .i64 c2, .int .i64 d.1, .int .i64 d.2] 41)) = A at *
        clear hen
        refine (goneLit_any ((c1, c2), d) bx a b _ (by rw [HBA.out.block _ (Array.getElem?_eq_some_iff.1 HBX.out).1]; exact HBX.out)).mono ?_
        rintro e w6 ⟨rfl, hb6⟩
        have hAl := (Array.getElem?_eq_some_iff.1 HAR.out).1
        have hr6 : w6.heap[w4.heap.size + 1 + 1]? = some (.cells #[.int .i64 c1, .int .i64 c2, .int .i64 d.1, .int .i64 d.2] 41) := by rw [hb6.block _ hAl]; exact HAR.out
        have HO6 := Lib.hid (HOA.out.later hb6)
        have HRG6 := Lib.hid (HRG4.out.later hb6)
        have HB6 := Lib.hid (nb_trans HBA.out hb6)
        have hs6 := hb6.size
        have hs4' := HS4.out
        have hr6l := (Array.getElem?_eq_some_iff.1 hr6).1
        have k0 : w6.cell? ⟨w4.heap.size + 1 + 1, 0, none⟩ = some (.int .i64 c1) := by rw [cell_of_row _ _ _ _ _ _ hr6]; rfl
        have k1 : w6.cell? ⟨w4.heap.size + 1 + 1, 1, none⟩ = some (.int .i64 c2) := by rw [cell_of_row _ _ _ _ _ _ hr6]; rfl
        have k2 : w6.cell? ⟨w4.heap.size + 1 + 1, 2, none⟩ = some (.int .i64 d.1) := by rw [cell_of_row _ _ _ _ _ _ hr6]; rfl
        have k3 : w6.cell? ⟨w4.heap.size + 1 + 1, 3, none⟩ = some (.int .i64 d.2) := by rw [cell_of_row _ _ _ _ _ _ hr6]; rfl
        clear hb6 hr6
        have hqq := HQ.out ((c1, c2), d)
        try dsimp only at hqq
        rw [hqq]
        cases hm : Q ((c1, c2), d)
        · 
          have HPN := Lib.hid (hP.out.skip HS.out HCD.out hm)
          clear hqq hm k0 k1 k2 k3
          go_wp2
          go_roundw
          case rel => exact ⟨_, _, ys, HRG6, HPN, HO6, HB6, Lib.hid (by omega)⟩
          case measure => rw [HRG6.out.left_eq, hR.out.left_eq]; exact HLT.out
        · have hPN := hP.out.next HS.out HKT.out HCD.out hm
          have hyl2 := hPN.len
          rw [List.length_append] at hyl2
          simp only [List.length_cons, List.length_nil] at hyl2
          have HPN := Lib.hid hPN
          clear hPN hqq hm
          go_wp2_with (first | (at_builtin; refine wpList_append_own _ rfl _ _ 29 rfl (w.heap.size + 1) 41 i0 _ 4 32 Tryz.underlying29 hi hz0 hz1 hz2 rfl (by decide) _ ys.length (ys.flatMap elBond.enc) rfl (World.ownsRow.alloc HO6.out _) ⟨w6.heap.size, 0, none⟩ 1 1 [.int .i64 c1, .int .i64 c2, .int .i64 d.1, .int .i64 d.2] rfl rfl ?d1 ?d2 ?d3 ?d4 ?d5 ?_))
          case d1 => exact World.news_of_block (heap_alloc_new _ _)
          case d2 => exact elBond.one ((c1, c2), d)
          case d3 => unfold maxLen; omega
          case d4 => omega
          case d5 => simp; omega
          intro v' w7 hown hgr _
          have HO7 : Hid (OwnsF elBond w7 (w.heap.size + 1) 41 v' (ys ++ [((c1, c2), d)])) := Lib.hid (OwnsF.snoc (x := ((c1, c2), d)) hown)
          have hk7 : Kept (fun b => w.heap.size + 1 ≤ b) w6 w7 := (Kept.alloc _ w6 _).trans (Kept.grown (F := fun b => w.heap.size + 1 ≤ b) hgr (fun k e => HO6.out.ge e)) (fun _ h => .inl h)
          have HB7 : Hid (Below w.heap.size w w7) := Lib.hid (HB6.out.trans (hk7.below (by omega) (fun k e => by omega)))
          have HRG7 := Lib.hid (HRG6.out.kept hk7 (by have := HMTL.out; omega) (by omega))
          have hs7 := hk7.size
          clear hown hgr hk7 k0 k1 k2 k3
          go_wp2
          go_roundw
          case rel => exact ⟨_, _, ys ++ [((c1, c2), d)], HRG7, HPN, HO7, HB7, Lib.hid (by omega)⟩
          case measure => rw [HRG7.out.left_eq, hR.out.left_eq]; exact HLT.out

set_option maxHeartbeats 1000000 in
theorem famBonds_any (p : Nat) (F : Nat → Prop) (bs : List Bd) (w : World) (h : FamIn u w p F bs) (hs : SortedB bs) (hn : bs.length * 32 ≤ 140737488355328) :
    Calls Tryz.prog 19 #[.pointer (some ⟨p, 3, none⟩)] w (SelPost w bs) := by
  have HW := Lib.hid h
  have HS := Lib.hid hs
  have HN := Lib.hid hn
  clear h hs hn
  go_enter Tryz.func19, Tryz.ntmps19
  go_wp2_with fail
  refine (selBonds_any p F bs _ HW.out HS.out HN.out).mono ?_
  rintro e w' ⟨v, rfl, ho, hb⟩
  rw [List.filter_eq_self.2 (fun _ _ => rfl)] at ho
  have HO := Lib.hid ho
  have HB := Lib.hid hb
  clear ho hb
  go_wp2
  go_ret
  exact ⟨_, rfl, HO.out, HB.out⟩
end Go.Proofs.YtcmpaohefihijabGreatDoor

/- The contracts of Children and Gone of package family. -/
namespace Go.Proofs.YtcmpaohefihijabGreatDoor
set_option maxRecDepth 8000
set_option maxRecDepth 8000
open Go.RowKit
variable {u : Value × Value × Value}

theorem made_enc' {α : Type} (E : El α) (z : Array Value) (hz : z.toList = E.enc E.zero) (n : Nat) : (madeCells z (n * E.size)).toList = (List.replicate n E.zero).flatMap E.enc := by
  have hs : z.size = E.size := by rw [← Array.length_toList, hz, E.len]
  apply List.ext_getElem?
  intro j
  by_cases hj : j < n * E.size
  · have hd : j / E.size < n := Nat.div_lt_of_lt_mul (by rwa [Nat.mul_comm])
    have hm := Nat.mod_lt j E.pos
    have he := enc_at E (List.replicate n E.zero) (j / E.size) (j % E.size) (by simpa using hd) hm
    rw [Nat.mul_comm, Nat.div_add_mod] at he
    have e0 : (List.replicate n E.zero).getD (j / E.size) E.zero = E.zero := by simp [List.getD_eq_getElem?_getD, hd]
    have hm' : j % z.size < z.size := by rw [hs]; exact hm
    have e1 : (madeCells z (n * E.size)).toList[j]? = some (z[j % z.size]!) := by simp [madeCells, hj]
    rw [he, e0, ← hz, e1, ← hs, getElem!_pos z _ hm', Array.getElem?_toList, Array.getElem?_eq_getElem hm']
  · rw [List.getElem?_eq_none (by simp [madeCells]; omega), List.getElem?_eq_none (by rw [length_enc]; simp; omega)]

def lsC (ys : List Bd) (k : Nat) : List Hd := (ys.take k).map (·.1) ++ List.replicate (ys.length - k) (0, 0)
theorem lsC_len {ys : List Bd} {k : Nat} (h : k ≤ ys.length) : (lsC ys k).length = ys.length := by simp [lsC]; omega
theorem lsC_zero (ys : List Bd) : lsC ys 0 = List.replicate ys.length (0, 0) := by simp [lsC]
theorem lsC_end (ys : List Bd) : lsC ys ys.length = ys.map (·.1) := by simp [lsC]
theorem lsC_next {ys : List Bd} {k : Nat} (h : k < ys.length) : (lsC ys k).set k (ys.getD k bdZ).1 = lsC ys (k + 1) := by
  unfold lsC
  have hl : ((ys.take k).map (·.1)).length = k := by simp; omega
  rw [List.set_append_right _ _ (by omega), hl, Nat.sub_self, show ys.length - k = (ys.length - (k + 1)) + 1 by omega, List.replicate_succ, List.set_cons_zero, List.take_add_one, List.getElem?_eq_getElem h, List.getD_eq_getElem?_getD, List.getElem?_eq_getElem h, List.map_append, List.append_assoc]
  rfl
theorem OwnsF.storedHd {w : World} {B : Nat} {T : TypeId} {g n cap : Nat} {xs : List Hd} (h : OwnsF elHand w B T (.slice (some ⟨g, 0, none⟩) n cap) xs) (k : Nat) (x : Hd) (hk : k < xs.length) :
    OwnsF elHand ((w.setCell ⟨g, k * 2, none⟩ (.int .i64 x.1)).setCell ⟨g, k * 2 + 1, none⟩ (.int .i64 x.2)) B T (.slice (some ⟨g, 0, none⟩) n cap) (xs.set k x) := by
  have h1 := h.stored k 0 (x.1, (xs.getD k elHand.zero).2) (.int .i64 x.1) hk (by decide) rfl
  have h2 := h1.stored k 1 x (.int .i64 x.2) (by simpa using hk) (by decide) (by rw [getD_set_eq _ _ _ _ hk]; rfl)
  rw [List.set_set] at h2
  exact h2

def HandsPost (w : World) (xs : List Hd) (e : Ending) (w' : World) : Prop := ∃ v, e = .returned v ∧ OwnsF elHand w' w.heap.size 34 v xs ∧ Below w.heap.size w w'


theorem mem_foldRm {b : Bd} : ∀ {zs : List Bd} {bs : List Bd}, b ∈ zs.foldl (fun s x => rmB s x.1) bs ↔ b ∈ bs ∧ ∀ x ∈ zs, b.1 ≠ x.1
  | [], bs => by simp
  | z :: zs, bs => by
    rw [List.foldl_cons, mem_foldRm, mem_rmB]
    simp only [List.forall_mem_cons]
    exact and_assoc
theorem foldRm_sorted : ∀ {zs : List Bd} {bs : List Bd}, SortedB bs → SortedB (zs.foldl (fun s x => rmB s x.1) bs)
  | [], _, h => h
  | z :: zs, bs, h => foldRm_sorted (zs := zs) (bs := rmB bs z.1) (h.filter _)
theorem foldRm_gone {bs : List Bd} (hs : SortedB bs) (h : Hd) : (bs.filter (fun x => decide (x.1 = h) || decide (x.2 = h))).foldl (fun s x => rmB s x.1) bs = goneB bs h := by
  refine SortedB.ext (foldRm_sorted hs) (hs.filter _) (fun b => ?_)
  show _ ↔ b ∈ goneB bs h
  rw [mem_foldRm, mem_goneB]
  constructor
  · rintro ⟨h1, h2⟩
    refine ⟨h1, fun e => h2 b (List.mem_filter.2 ⟨h1, by simp [e]⟩) rfl, fun e => h2 b (List.mem_filter.2 ⟨h1, by simp [e]⟩) rfl⟩
  · rintro ⟨h1, h2, h3⟩
    refine ⟨h1, fun x hx e => ?_⟩
    obtain ⟨hx1, hx2⟩ := List.mem_filter.1 hx
    have hxb : x = b := Prod.ext e.symm (hs.fn (c := x.1) hx1 (by rw [← e]; exact h1))
    rw [hxb] at hx2
    simp [h2, h3] at hx2
theorem foldRm_snoc (zs : List Bd) (z : Bd) (bs : List Bd) : (zs ++ [z]).foldl (fun s x => rmB s x.1) bs = rmB (zs.foldl (fun s x => rmB s x.1) bs) z.1 := by rw [List.foldl_append]; rfl
theorem FamIs.del {V w3 : World} {p mb n : Nat} {F : Nat → Prop} {ks : List Hd} {f : Hd → Value} {bs : List Bd} (h : FamIs u V p F (.map (some mb)) bs) (hB : MapB ks f bs) (hF : F mb) (hne : mb ≠ p) (x : Hd)
    (hmap3 : MapIs kHand w3 mb n (ks.filter (fun y => !decide (y = x))) f) (hk3 : Kept (fun q => q = mb) V w3) : FamIs u w3 p F (.map (some mb)) (rmB bs x) := by
  refine ⟨by rw [hk3.block p h.plt (fun e => hne e.symm)]; exact h.block, .inr ⟨mb, _, f, rfl, hmap3.tight, ⟨fun y hy => ?_, fun y z hyz => ?_⟩, hF, hne⟩, h.at_, fun i hi => Nat.lt_of_lt_of_le (h.lt i hi) hk3.size⟩
  · obtain ⟨h1, h2⟩ := List.mem_filter.1 hy
    obtain ⟨z, hz⟩ := hB.some_ y h1
    exact ⟨z, mem_rmB.2 ⟨hz, by simpa using h2⟩⟩
  · obtain ⟨h1, h2⟩ := mem_rmB.1 hyz
    obtain ⟨e1, e2⟩ := hB.val y z h1
    exact ⟨List.mem_filter.2 ⟨e1, by simpa using h2⟩, e2⟩

set_option maxHeartbeats 4000000 in
theorem famGone_any (p : Nat) (F : Nat → Prop) (bs : List Bd) (a b : Int) (w : World) (h : FamIn u w p F bs) (ok : FOk bs) (hn : bs.length * 32 ≤ 140737488355328) :
    Calls Tryz.prog 98 #[.pointer (some ⟨p, 3, none⟩), .agg #[.int .i64 a, .int .i64 b]] w fun e w' => e = .returned (.tuple #[]) ∧ FamIn u w' p F (goneB bs (a, b)) ∧ Kept F w w' := by
  have hX : Below w.heap.size w (w.alloc (.cells #[.int .i64 a, .int .i64 b] 34)) := nb_alloc (Below.refl _ _) _
  have HX := Lib.hid hX
  have HXB : Hid ((w.alloc (.cells #[.int .i64 a, .int .i64 b] 34)).heap[w.heap.size]? = some (.cells #[.int .i64 a, .int .i64 b] 34)) := Lib.hid (heap_alloc_new _ _)
  have HW := Lib.hid (h.later hX)
  have HLT := Lib.hid h.lt
  have HOK := Lib.hid ok
  have HN := Lib.hid hn
  obtain ⟨ys, hys⟩ : ∃ ys, bs.filter (fun x => decide (x.1 = (a, b)) || decide (x.2 = (a, b))) = ys := ⟨_, rfl⟩
  have HK : Hid (ys.foldl (fun s x => rmB s x.1) bs = goneB bs (a, b)) := Lib.hid (by rw [← hys]; exact foldRm_gone ok.sorted _)
  have HYB : Hid (∀ y ∈ ys, y ∈ bs) := Lib.hid (by rw [← hys]; exact fun y hy => (List.mem_filter.1 hy).1)
  have HYN : Hid ((ys.map (·.1)).Nodup) := Lib.hid (by rw [← hys]; exact (ok.sorted.filter _).keys)
  have HYS := Lib.hid hys
  clear h ok hn hX hys
  go_enter Tryz.func98, Tryz.ntmps98
  go_wp2_with fail
  generalize (w.alloc (.cells #[.int .i64 a, .int .i64 b] 34)) = X at *
  refine (selGone_any p F bs w.heap.size a b _ HW.out HOK.out.sorted HN.out HXB.out).mono ?_
  rintro e w2 ⟨v, rfl, ho, hb⟩
  rw [HYS.out] at ho
  have HGE : Hid (∀ k, v.ownBlock = some k → w.heap.size ≤ k) := Lib.hid (fun k e => Nat.le_trans HX.out.size (ho.ge e))
  have HB2 := Lib.hid (nb_trans HX.out hb)
  have HW2 := Lib.hid (HW.out.later hb)
  obtain ⟨hm, hop⟩ := ho.reads.open
  clear ho hb
  unfold maxLen at hm
  obtain ⟨n, hyn⟩ : ∃ n, ys.length = n := ⟨_, rfl⟩
  have HYL := Lib.hid hyn
  rw [hyn] at hm hop
  clear hyn
  rcases hop with ⟨ad, cap, rfl, hz⟩ | ⟨bl, off, cap, rfl, hbl, hlc, hcm, hc⟩
  all_goals
    go_wp2
    go_loopw [10] (fun i wr => ∃ k : Nat, k ≤ n ∧ i = .int .i64 k ∧ Hid (FamIn u wr p F ((ys.take k).foldl (fun s x => rmB s x.1) bs)) ∧ Hid (Kept F w2 wr)) (fun i _ => n - (intOf i).toNat)
    case atStart => exact ⟨0, by omega, rfl, HW2, Lib.hid (Kept.refl _ _)⟩
    case round =>
      obtain ⟨k, hk, rfl, hF, hKp⟩ := hrel
      by_cases hltk : k < n
      · first
          | omega
          | (have hnF : ¬ F bl := fun e => by have := HLT.out bl e; have := HGE.out bl rfl; omega
             have hcr : ∀ jj, jj < 4 → wr.cell? ⟨bl, off + k * 4 + jj, none⟩ = (elBond.enc (ys.getD k bdZ))[jj]? := fun jj hjj => by rw [hKp.out.cell (p := ⟨bl, _, none⟩) hbl hnF]; exact hc k hltk jj hjj
             have hkl : k < ys.length := by rw [HYL.out]; exact hltk
             have HTK : Hid (ys.take (k + 1) = ys.take k ++ [ys.getD k bdZ]) := Lib.hid (by rw [List.take_add_one, List.getElem?_eq_getElem hkl, List.getD_eq_getElem?_getD, List.getElem?_eq_getElem hkl]; rfl)
             have HYM : Hid (ys.getD k bdZ ∈ ys) := Lib.hid (memD hkl)
             have hbw : bl < wr.heap.size := Nat.lt_of_lt_of_le hbl hKp.out.size
             have HNT : Hid (ys.getD k bdZ ∈ (ys.take k).foldl (fun s x => rmB s x.1) bs) := Lib.hid (mem_foldRm.2 ⟨HYB.out _ HYM.out, fun x hx e => by
               have hnd := HYN.out
               rw [← List.take_append_drop k ys, List.map_append, List.nodup_append] at hnd
               refine hnd.2.2 _ (List.mem_map.2 ⟨x, hx, rfl⟩) _ (List.mem_map.2 ⟨ys.getD k bdZ, ?_, rfl⟩) e.symm
               rw [List.drop_eq_getElem_cons hkl, List.getD_eq_getElem?_getD, List.getElem?_eq_getElem hkl, Option.getD_some]
               exact List.mem_cons_self⟩)
             obtain ⟨y, hy⟩ : ∃ y, ys.getD k bdZ = y := ⟨_, rfl⟩
             rw [hy] at hcr HTK HYM HNT
             obtain ⟨⟨y1, y2⟩, y3, y4⟩ := y
             obtain ⟨cs, hcs⟩ : ∃ cs, (ys.take k).foldl (fun s x => rmB s x.1) bs = cs := ⟨_, rfl⟩
             have HCS : Hid ((ys.take (k + 1)).foldl (fun s x => rmB s x.1) bs = rmB cs (y1, y2)) := Lib.hid (by rw [HTK.out, foldRm_snoc, hcs])
             rw [hcs] at hF HNT
             have HYO : Hid (okH (y1, y2)) := Lib.hid (HOK.out.ok _ (HYB.out _ HYM.out)).1
             have c0 : wr.cell? ⟨bl, off + k * 4, none⟩ = some (.int .i64 y1) := hcr 0 (by decide)
             have c1 : wr.cell? ⟨bl, off + k * 4 + 1, none⟩ = some (.int .i64 y2) := hcr 1 (by decide)
             have c2 : wr.cell? ⟨bl, off + k * 4 + 2, none⟩ = some (.int .i64 y3) := hcr 2 (by decide)
             have c3 : wr.cell? ⟨bl, off + k * 4 + 3, none⟩ = some (.int .i64 y4) := hcr 3 (by decide)
             obtain ⟨vm, hfi⟩ := hF.out
             obtain ⟨mb, ks, f, rfl, hm9, hB9, hF9, hne9⟩ : ∃ b ks f, vm = .map (some b) ∧ MapIs kHand wr b ks.length ks f ∧ MapB ks f cs ∧ F b ∧ b ≠ p := by
               rcases hfi.map with ⟨_, e⟩ | hh
               · have := HNT.out; rw [e] at this; simp at this
               · exact hh
             have hfa := hfi.later (nb_alloc (Below.refl _ _) (.cells #[.int .i64 y1, .int .i64 y2, .int .i64 y3, .int .i64 y4] 41))
             have hba : (wr.alloc (.cells #[.int .i64 y1, .int .i64 y2, .int .i64 y3, .int .i64 y4] 41)).heap[wr.heap.size]? = some (.cells #[.int .i64 y1, .int .i64 y2, .int .i64 y3, .int .i64 y4] 41) := heap_alloc_new _ _
             have HFA := Lib.hid hfa
             have HKA : Hid (Kept F w2 (wr.alloc (.cells #[.int .i64 y1, .int .i64 y2, .int .i64 y3, .int .i64 y4] 41))) := Lib.hid (hKp.out.trans (Kept.alloc F _ _) (fun _ h => .inl h))
             have HMA : Hid (MapIs kHand (wr.alloc (.cells #[.int .i64 y1, .int .i64 y2, .int .i64 y3, .int .i64 y4] 41)).drew mb ks.length ks f) := Lib.hid (hm9.later (nb_alloc (Below.refl _ _) _).drew)
             have HB9 := Lib.hid hB9
             have HF9 := Lib.hid hF9
             have HNE9 := Lib.hid hne9
             have HBA := Lib.hid hba
             clear hcr hc hy hcs hfi hm9 hB9 hF9 hne9 hfa hba
             go_wp2_with fail
             generalize wr.alloc (.cells #[.int .i64 y1, .int .i64 y2, .int .i64 y3, .int .i64 y4] 41) = A at *
             clear c0 c1 c2 c3
             have ca := HFA.out.cell
             have hpa := HFA.out.plt
             have hal := (Array.getElem?_eq_some_iff.1 HBA.out).1
             have k0 : A.cell? ⟨wr.heap.size, 0, none⟩ = some (.int .i64 y1) := by rw [cell_of_row _ _ _ _ _ _ HBA.out]; rfl
             have k1 : A.cell? ⟨wr.heap.size, 1, none⟩ = some (.int .i64 y2) := by rw [cell_of_row _ _ _ _ _ _ HBA.out]; rfl
             go_still_tail 6, (by kernel_rfl)
             change wpList _ _ _ _ _ A.drew
             clear k0 k1 ca
             go_wp2_with (first | (at_delete; refine wpList_del_is (K := kHand) _ rfl _ _ 72 rfl 34 Tryz.underlying72 rfl HMA.out (y1, y2) HYO.out rfl ?_))
             intro w5 hmap5 hk5
             have hk5' : Kept (fun q => q = mb) A w5 := (Kept.drew (fun q => q = mb) A).trans hk5 (fun _ h => .inl h)
             have HF5 : Hid (FamIn u w5 p F (rmB cs (y1, y2))) := Lib.hid ⟨_, HFA.out.del HB9.out HF9.out HNE9.out (y1, y2) hmap5 hk5'⟩
             have HK5 : Hid (Kept F w2 w5) := Lib.hid (HKA.out.trans hk5' (fun i e => .inl (by rw [e]; exact HF9.out)))
             clear hmap5 hk5 hk5'
             go_wp2
             go_roundw
             case rel => exact ⟨k + 1, by omega, by go_num, by rw [HCS.out]; exact HF5, HK5⟩
             case measure => simp [intOf]; omega)
      · obtain rfl : k = n := by omega
        have HALL : Hid ((ys.take k).foldl (fun s x => rmB s x.1) bs = goneB bs (a, b)) := Lib.hid (by rw [List.take_of_length_le (by rw [HYL.out]; exact Nat.le_refl _)]; exact HK.out)
        rw [HALL.out] at hF
        go_wp2
        go_end0
        exact ⟨rfl, hF.out, (Kept.ofBelow HB2.out).trans hKp.out (fun _ h => .inl h)⟩
end Go.Proofs.YtcmpaohefihijabGreatDoor

/- The iterator ancestors of package family: all above a handle, from its parent on. -/
namespace Go.Proofs.YtcmpaohefihijabGreatDoor
set_option maxRecDepth 100000
open Go.RowKit Go.Shelf
variable {u : Value × Value × Value}
attribute [local go_sem] Oper.semAt_some

theorem eqHd' {a b c d : Int} : decide (((a, b) : Hd) = (c, d)) = ((a == c) && (b == d)) := by
  by_cases h1 : a = c <;> by_cases h2 : b = d <;> simp [h1, h2]
/-- What is still to come, behind a look at the parent. -/
def AncRest (bs : List Bd) (g : Bool) (y : Hd) (rest : List Hd) : Prop := (g = false ∧ rest = []) ∨ (g = true ∧ ∃ r, rest = y :: r ∧ IsAnc bs y r)
theorem IsAnc.unique {bs : List Bd} (hs : SortedB bs) : ∀ {A B : List Hd} {x : Hd}, IsAnc bs x A → IsAnc bs x B → A = B
  | [], [], _, _, _ => rfl
  | [], b :: _, _, h, k => absurd k.1 (h b)
  | a :: _, [], _, h, k => absurd h.1 (k a)
  | a :: r, b :: r', x, h, k => by
    have e := hs.fn h.1 k.1
    subst e
    rw [IsAnc.unique hs h.2 k.2]
theorem AncRest.of {bs : List Bd} {x : Hd} {A : List Hd} (hs : SortedB bs) (h : IsAnc bs x A) : AncRest bs (hasP bs x) (parB bs x) A := by
  cases A with
  | nil => exact .inl ⟨hasP_no h, rfl⟩
  | cons y r =>
    obtain ⟨e1, e2⟩ := parB_of hs h.1
    exact .inr ⟨e1, r, by rw [e2], by rw [e2]; exact h.2⟩
def AncAt (bs : List Bd) (v4 v5 : Value) (wr : World) (rest : List Hd) : Prop :=
  ∃ (q : Nat) (y : Hd) (g : Bool), v4 = .pointer (some ⟨q, 0, none⟩) ∧ v5 = .bool g ∧ wr.cell? ⟨q, 0, none⟩ = some (.int .i64 y.1) ∧ wr.cell? ⟨q, 1, none⟩ = some (.int .i64 y.2) ∧ AncRest bs g y rest
theorem AncAt.unique {bs : List Bd} (hs : SortedB bs) {v4 v5 : Value} {wr : World} {r r' : List Hd} (h : AncAt bs v4 v5 wr r) (k : AncAt bs v4 v5 wr r') : r = r' := by
  obtain ⟨q, y, g, rfl, rfl, h1, h2, h3⟩ := h
  obtain ⟨q', y', g', e1, e2, k1, k2, k3⟩ := k
  simp only [Value.pointer.injEq, Option.some.injEq, Addr.mk.injEq, and_true] at e1
  subst e1
  simp only [Value.bool.injEq] at e2
  subst e2
  rw [h1] at k1
  rw [h2] at k2
  simp only [Option.some.injEq, Value.int.injEq, true_and] at k1 k2
  obtain rfl : y = y' := Prod.ext k1 k2
  rcases h3 with ⟨rfl, rfl⟩ | ⟨rfl, s, rfl, hs1⟩ <;> rcases k3 with ⟨e, rfl⟩ | ⟨e, s', rfl, hs2⟩
  · rfl
  · cases e
  · cases e
  · rw [IsAnc.unique hs hs1 hs2]
open Classical in
noncomputable def ancLeft (bs : List Bd) (v4 v5 : Value) (wr : World) : Nat := if h : ∃ rest, AncAt bs v4 v5 wr rest then (Classical.choose h).length else 0
theorem ancLeft_eq {bs : List Bd} (hs : SortedB bs) {v4 v5 : Value} {wr : World} {rest : List Hd} (h : AncAt bs v4 v5 wr rest) : ancLeft bs v4 v5 wr = rest.length := by
  unfold ancLeft
  rw [dif_pos ⟨rest, h⟩, AncAt.unique hs (Classical.choose_spec (⟨rest, h⟩ : ∃ rest, AncAt bs v4 v5 wr rest)) h]
theorem abides_later {β : Type} {B : Nat} {J : β → World → Prop} (h : AbidesFrom B J) {s : β} {W W' : World} (hs : J s W) (hb : Below W.heap.size W W') : J s W' :=
  h s W W' none hs ⟨hb.os, hb.tape, hb.output, hb.size, fun k hk _ => hb.block k hk⟩ (fun r e => by cases e)
/-- A round keeps what lay below n0, and all variables. -/
def KpC (n0 : Nat) (W W' : World) : Prop := Below n0 W W' ∧ ∀ (k : Nat) (c : Array Value) (T : TypeId) (f : Nat × Nat), W.heap[k]? = some (.cells c T f) → W'.heap[k]? = some (.cells c T f)
theorem KpC.trans {n0 : Nat} {A B C : World} (h : KpC n0 A B) (k : KpC n0 B C) : KpC n0 A C := ⟨h.1.trans k.1, fun i c T f e => k.2 i c T f (h.2 i c T f e)⟩
theorem KpC.put {n0 : Nat} {w : World} (hn : n0 ≤ w.heap.size) (W : World) (l : Nat) (o o' : Obj) (hl : w.heap.size ≤ l) (ho : W.heap[l]? = some o) (hc : o.isCells = false) (hw : o.isWalk = false) : KpC n0 W (W.putObj l o') := by
  refine ⟨belowK_b (w := w) hn W l o o' hl ho hc hw, fun k c T f e => ?_⟩
  have hne : k ≠ l := by
    rintro rfl
    rw [e] at ho
    cases ho
    cases hc
  rw [(grownBy_putObj' W l o').block k (Array.getElem?_eq_some_iff.1 e).1 (fun q => hne (by cases q; rfl))]
  exact e
theorem KpC.later {n0 : Nat} {W W' : World} (hn : n0 ≤ W.heap.size) (h : Below W.heap.size W W') : KpC n0 W W' := ⟨h.mono hn, fun k c T f e => by rw [h.block k (Array.getElem?_eq_some_iff.1 e).1]; exact e⟩
theorem IsAnc.okA {bs : List Bd} (hok : ∀ b ∈ bs, okH b.1 ∧ okH b.2) : ∀ {A : List Hd} {x : Hd}, IsAnc bs x A → ∀ y ∈ A, okH y
  | [], _, _, y, hy => by simp at hy
  | p :: r, x, h, y, hy => by
    rcases List.mem_cons.1 hy with rfl | hy
    · exact (hok _ h.1).2
    · exact IsAnc.okA hok h.2 y hy

set_option maxHeartbeats 4000000 in
theorem anc1_in (n : Nat) (hn : 1 ≤ n) (l Bf Bh p n0 n1 : Nat) (F : Nat → Prop) (bs : List Bd) (A : List Hd) (a b : Int) (J Jx : List Hd → World → Prop)
    (hY : ∀ pre x W, J pre W → pre.length < A.length → YieldAt Fence.wide (n - 1) Tryz.prog l #[.agg #[.int .i64 x.1, .int .i64 x.2]] W fun e W' =>
      (e = .returned (.bool true) ∧ J (pre ++ [x]) W' ∧ KpC n0 W W') ∨ (e = .returned (.bool false) ∧ Jx (pre ++ [x]) W'))
    (hJ : AbidesFrom n1 J) (W : World) (hBf : W.heap[Bf]? = some (.cells #[.pointer (some ⟨p, 3, none⟩)] 105)) (hBh : W.heap[Bh]? = some (.cells #[.int .i64 a, .int .i64 b] 34)) (hf0 : Bf < n0) (hnW : n0 ≤ W.heap.size)
    (hfam : FamIn u W p F bs) (hF : ∀ i, F i → i < n0) (hs : SortedB bs) (hok : ∀ b ∈ bs, okH b.1 ∧ okH b.2) (hab : okH (a, b)) (hA : IsAnc bs (a, b) A) (h0 : J [] W) :
    CallsIn Fence.wide n Tryz.prog 125 #[.func (.yield l) #[] #[], .pointer (some ⟨Bf, 0, none⟩), .pointer (some ⟨Bh, 0, none⟩)] W fun e W' => (∃ v, e = .returned v) ∧
      ((∃ ys, ys = A ∧ J ys W') ∨ (∃ pre, pre <+: A ∧ Jx pre W')) := by
  obtain ⟨vm, hfam⟩ := hfam
  have hlt := (Array.getElem?_eq_some_iff.1 hBf).1
  have hlt2 := (Array.getElem?_eq_some_iff.1 hBh).1
  have cf : W.cell? ⟨Bf, 0, none⟩ = some (.pointer (some ⟨p, 3, none⟩)) := by rw [cell_of_row _ _ _ _ _ _ hBf]; rfl
  obtain ⟨kh0, kh1⟩ := hCells (a := a) (b := b) hBh
  have cm := hfam.cell
  have hpl := hfam.plt
  have HFAM : Hid (∀ Y, Below n0 W Y → FamIs u Y p F vm bs) := Lib.hid (fun Y hY => hfam.kept (G := fun i => n0 ≤ i) ⟨hY.os, hY.tape, hY.output, hY.size, fun k _ hf => hY.block k (by omega)⟩ (fun i hi hi2 => by have := hF i hi; omega))
  have HLK : Hid (∀ Y, Below n0 W Y → ∀ x : Hd, okH x → (Instr.lookup 72 vm (.agg #[.int .i64 x.1, .int .i64 x.2]) true).run Tryz.prog Y = .ok (.tuple #[.agg #[.int .i64 (parB bs x).1, .int .i64 (parB bs x).2], .bool (hasP bs x)]) Y) := Lib.hid (fun Y hY x hx => (HFAM.out Y hY).look hs x.1 x.2 hx.1 hx.2)
  have HJ := Lib.hid hJ
  have HS := Lib.hid hs
  have HOKA := Lib.hid (hA.okA hok)
  have HR0 := Lib.hid (AncRest.of hs hA)
  have HCF : Hid (∀ Y, Below n0 W Y → Y.cell? ⟨Bf, 0, none⟩ = some (.pointer (some ⟨p, 3, none⟩)) ∧ Y.cell? ⟨p, 3, none⟩ = some vm ∧ p < Y.heap.size ∧ Bf < Y.heap.size) := Lib.hid (fun Y hY => ⟨by rw [hY.cell (p := ⟨Bf, 0, none⟩) hf0]; exact cf, (HFAM.out Y hY).cell, (HFAM.out Y hY).plt, Nat.lt_of_lt_of_le hlt hY.size⟩)
  have HBW : Hid (∀ o, Below n0 W (W.alloc o).drew ∧ Below n0 W (W.alloc o)) := Lib.hid (fun o => ⟨((nb_alloc (Below.refl _ W) o).mono hnW).drew, (nb_alloc (Below.refl _ W) o).mono hnW⟩)
  have hlk := HLK.out W.drew (Below.refl _ _).drew (a, b) hab
  have hlk1 := HLK.out (W.alloc (.cells #[.int .i64 0, .int .i64 0] 34)).drew (HBW.out _).1 (a, b) hab
  dsimp only at hlk hlk1
  obtain ⟨y0, hy0⟩ : ∃ y, parB bs (a, b) = y := ⟨_, rfl⟩
  obtain ⟨g0, hg0⟩ : ∃ g, hasP bs (a, b) = g := ⟨_, rfl⟩
  rw [hy0, hg0] at hlk hlk1 HR0
  clear hy0 hg0
  clear hfam hF hs hok hA hJ hBf hBh
  refine callsIn_of_wp Tryz.func125 rfl trivial ?_ rfl
  simp only [Tryz.ntmps125, List.size_toArray, List.length_cons, List.length_nil, Nat.reduceAdd, Nat.reduceSub, Array.replicate_succ, Array.replicate_zero, List.push_toArray, List.append_toArray, List.nil_append, List.cons_append]
  gi_wp2_with fail
  gi_region
  all_goals
    have HV : Hid (Below n0 W (W.alloc (.cells #[.int .i64 y0.1, .int .i64 y0.2] 34)).drew) := Lib.hid (HBW.out _).1
    have HJ0 : Hid (J [] (W.alloc (.cells #[.int .i64 y0.1, .int .i64 y0.2] 34)).drew) := Lib.hid (abides_later HJ.out h0 (nb_alloc (Below.refl _ _) _).drew)
    have HC0 : Hid ((W.alloc (.cells #[.int .i64 y0.1, .int .i64 y0.2] 34)).drew.heap[W.heap.size]? = some (.cells #[.int .i64 y0.1, .int .i64 y0.2] 34)) := Lib.hid (heap_alloc_new _ _)
    generalize (W.alloc (.cells #[.int .i64 y0.1, .int .i64 y0.2] 34)).drew = V at *
    clear hlk hlk1 kh0 kh1 cf cm h0
    gi_wp2
    gi_loopw [4, 5] (fun v4 v5 wr => ∃ (pre rest : List Hd) (q : Nat) (y : Hd) (g : Bool), v4 = .pointer (some ⟨q, 0, none⟩) ∧ v5 = .bool g ∧ Hid (wr.heap[q]? = some (.cells #[.int .i64 y.1, .int .i64 y.2] 34)) ∧ Hid (AncRest bs g y rest) ∧ Hid (A = pre ++ rest) ∧ Hid (J pre wr) ∧ Hid (Below n0 W wr)) (fun v4 v5 wr => ancLeft bs v4 v5 wr)
    case atStart => exact ⟨[], A, _, y0, g0, rfl, rfl, HC0, HR0, Lib.hid rfl, HJ0, HV⟩
    case round =>
      obtain ⟨pre, rest, q, y, g, rfl, rfl, hq, hr, hA, hJp, hB⟩ := hrel
      have hql := (Array.getElem?_eq_some_iff.1 hq.out).1
      obtain ⟨kq0, kq1⟩ := hCells (a := y.1) (b := y.2) hq.out
      have HAT : Hid (AncAt bs (.pointer (some ⟨q, 0, none⟩)) (.bool g) wr rest) := Lib.hid ⟨q, y, g, rfl, rfl, kq0, kq1, hr.out⟩
      rcases hr.out with ⟨rfl, rfl⟩ | ⟨rfl, r, rfl, hyr⟩
      · clear kq0 kq1
        gi_wp2
        go_end0
        exact ⟨⟨_, rfl⟩, .inl ⟨pre, by rw [hA.out, List.append_nil], hJp.out⟩⟩
      · have HYR := Lib.hid hyr
        have hyA : y ∈ A := by rw [hA.out]; simp
        obtain ⟨fn, tmps, assign, body, hy, hRd⟩ := hY pre y wr hJp.out (by rw [hA.out]; simp)
        clear hyr
        gi_wp2
        refine hRd.mono ?_
        rintro e W3 (⟨rfl, hJ3, hk3⟩ | ⟨rfl, hJx3⟩)
        · have hB3 : Below n0 W W3 := hB.out.trans hk3.1
          have hq3 := hk3.2 _ _ _ _ hq.out
          have hql3 := (Array.getElem?_eq_some_iff.1 hq3).1
          obtain ⟨kr0, kr1⟩ := hCells (a := y.1) (b := y.2) hq3
          have hn3 : n0 ≤ W3.heap.size := Nat.le_trans hnW hB3.size
          have hB4 : Below n0 W (W3.alloc (.cells #[.int .i64 y.1, .int .i64 y.2] 34)) := hB3.alloc hn3 _
          have HJ3 := Lib.hid hJ3
          have HB34 : Hid (Below W3.heap.size W3 (W3.alloc (.cells #[.int .i64 y.1, .int .i64 y.2] 34))) := Lib.hid (nb_alloc (Below.refl _ _) _)
          have hc4 : (W3.alloc (.cells #[.int .i64 y.1, .int .i64 y.2] 34)).heap[W3.heap.size]? = some (.cells #[.int .i64 y.1, .int .i64 y.2] 34) := heap_alloc_new _ _
          have HB4 := Lib.hid hB4
          have HC4 := Lib.hid hc4
          have HSZ4 : Hid ((W3.alloc (.cells #[.int .i64 y.1, .int .i64 y.2] 34)).heap.size = W3.heap.size + 1) := Lib.hid (by simp)
          clear hB3 hJ3 hk3 hq3 hB4 hc4 kq0 kq1
          gi_wp2_with fail
          generalize W3.alloc (.cells #[.int .i64 y.1, .int .i64 y.2] 34) = V4 at *
          obtain ⟨cf, cm, hpl4, hbf4⟩ := HCF.out V4 HB4.out
          have hl4 : W3.heap.size < V4.heap.size := (Array.getElem?_eq_some_iff.1 HC4.out).1
          obtain ⟨ks0, ks1⟩ := hCells (a := y.1) (b := y.2) HC4.out
          have fz : ∀ j, V4.frozen? ⟨W3.heap.size, j, none⟩ = false := fun j => frozen_of_row _ _ _ _ _ HC4.out
          have hlk := HLK.out V4.drew HB4.out.drew y (HOKA.out y hyA)
          have HR4 := Lib.hid (AncRest.of HS.out HYR.out)
          obtain ⟨y1, hy1⟩ : ∃ z, parB bs y = z := ⟨_, rfl⟩
          obtain ⟨g1, hg1⟩ : ∃ g, hasP bs y = g := ⟨_, rfl⟩
          rw [hy1, hg1] at hlk HR4
          clear hy1 hg1 kr0 kr1
          gi_region
          all_goals
            have hq5 : ((V4.setCell ⟨W3.heap.size, 0, none⟩ (.int .i64 y1.1)).setCell ⟨W3.heap.size, 1, none⟩ (.int .i64 y1.2)).drew.heap[W3.heap.size]? = some (.cells #[.int .i64 y1.1, .int .i64 y1.2] 34) := heap_setCell_same _ _ 1 _ _ _ (heap_setCell_same _ _ 0 _ _ _ HC4.out)
            have hB5 : Below W3.heap.size W3 ((V4.setCell ⟨W3.heap.size, 0, none⟩ (.int .i64 y1.1)).setCell ⟨W3.heap.size, 1, none⟩ (.int .i64 y1.2)).drew := (nbf_set (nbf_set HB34.out _ 0 _ (Nat.le_refl _)) _ 1 _ (Nat.le_refl _)).drew
            have HQ5 := Lib.hid hq5
            have HJ5 := Lib.hid (abides_later HJ.out HJ3.out hB5)
            have HB5 : Hid (Below n0 W ((V4.setCell ⟨W3.heap.size, 0, none⟩ (.int .i64 y1.1)).setCell ⟨W3.heap.size, 1, none⟩ (.int .i64 y1.2)).drew) := Lib.hid (nbf_set (nbf_set HB4.out _ 0 _ hn3) _ 1 _ hn3).drew
            generalize ((V4.setCell ⟨W3.heap.size, 0, none⟩ (.int .i64 y1.1)).setCell ⟨W3.heap.size, 1, none⟩ (.int .i64 y1.2)).drew = V5 at *
            clear hq5 hB5 hlk ks0 ks1 fz cf cm
            gi_wp2
            go_roundw
            case rel => exact ⟨pre ++ [y], r, _, y1, g1, rfl, rfl, HQ5, HR4, Lib.hid (by rw [hA.out]; simp), HJ5, HB5⟩
            case measure =>
              rw [ancLeft_eq HS.out HAT.out, ancLeft_eq HS.out (rest := r) ⟨_, y1, g1, rfl, rfl, by rw [cell_of_row _ _ _ _ _ _ HQ5.out]; rfl, by rw [cell_of_row _ _ _ _ _ _ HQ5.out]; rfl, HR4.out⟩]
              simp
        · clear kq0 kq1
          gi_wp2
          refine bodyPost_ret (results_none rfl _ _ _) rfl ?_
          exact ⟨⟨_, rfl⟩, .inr ⟨pre ++ [y], ⟨r, by rw [hA.out]; simp⟩, hJx3⟩⟩
end Go.Proofs.YtcmpaohefihijabGreatDoor

/- The contract of Adopt of package family. -/
namespace Go.Proofs.YtcmpaohefihijabGreatDoor
set_option maxRecDepth 8000
set_option maxRecDepth 100000
open Go.RowKit Go.Shelf
variable {u : Value × Value × Value}
attribute [local go_sem] Oper.semAt_some

set_option maxHeartbeats 1000000 in
/-- f.ancestors(h): both are boxed; the function value captures the boxes. -/
theorem anc_in (n p : Nat) (a b : Int) (w : World) :
    CallsIn Fence.wide n Tryz.prog 104 #[.pointer (some ⟨p, 3, none⟩), .agg #[.int .i64 a, .int .i64 b]] w fun e w' =>
      e = .returned (.func (.func 125) #[] #[.pointer (some ⟨w.heap.size, 0, none⟩), .pointer (some ⟨w.heap.size + 1, 0, none⟩)]) ∧ w' = (w.alloc (.cells #[.pointer (some ⟨p, 3, none⟩)] 105)).alloc (.cells #[.int .i64 a, .int .i64 b] 34) := by
  refine callsIn_of_wp Tryz.func104 rfl trivial ?_ rfl
  simp only [Tryz.ntmps104, List.size_toArray, List.length_cons, List.length_nil, Nat.reduceAdd, Nat.reduceSub, Array.replicate_succ, Array.replicate_zero, List.push_toArray, List.append_toArray, List.nil_append, List.cons_append]
  gi_wp2
  go_ret
  exact ⟨rfl, rfl⟩
theorem anc_stops (n : Nat) (hn : 1 ≤ n) (Bf Bh p n0 : Nat) (F : Nat → Prop) (bs : List Bd) (A : List Hd) (a b : Int) (w : World) (hBf : w.heap[Bf]? = some (.cells #[.pointer (some ⟨p, 3, none⟩)] 105)) (hBh : w.heap[Bh]? = some (.cells #[.int .i64 a, .int .i64 b] 34))
    (hf0 : Bf < n0) (hn0 : n0 ≤ w.heap.size) (hfam : FamIn u w p F bs) (hF : ∀ i, F i → i < n0) (hs : SortedB bs) (hok : ∀ b ∈ bs, okH b.1 ∧ okH b.2) (hab : okH (a, b)) (hA : IsAnc bs (a, b) A) :
    SeqStopsK Fence.wide n Tryz.prog 125 #[.pointer (some ⟨Bf, 0, none⟩), .pointer (some ⟨Bh, 0, none⟩)] (fun x : Hd => #[Value.agg #[.int .i64 x.1, .int .i64 x.2]]) (KpC n0) (fun ys => ys = A) (fun pre => pre <+: A) A.length w := fun l J Jx W hW hJ _ hY h0 =>
  anc1_in n hn l Bf Bh p n0 _ F bs A a b J Jx hY hJ W (by rw [hW.block _ (Array.getElem?_eq_some_iff.1 hBf).1]; exact hBf) (by rw [hW.block _ (Array.getElem?_eq_some_iff.1 hBh).1]; exact hBh) hf0 (Nat.le_trans hn0 hW.size) (hfam.later hW) hF hs hok hab hA h0

/-- 'm[x] = u', as a run -/
theorem MapIs.putRun {α : Type} [DecidableEq α] {k t e : TypeId} {K : KeyEnc α k} {w : World} {b n : Nat} {ks : List α} {f : α → Value} (h : MapIs K w b n ks f) (ht : Tryz.prog.underlying t = some (.map k e)) (hn : ks.length < maxLen) (x0 : α) (hx0 : K.ok x0) (u : Value) :
    ∃ w' ks' f', (Instr.mapUpdate t (.map (some b)) (K.val x0) u).run Tryz.prog w = .ok () w' ∧ MapIs K w' b ks'.length ks' f' ∧ (∀ x, x ∈ ks' ↔ x = x0 ∨ x ∈ ks) ∧ f' x0 = u ∧ (∀ x, x ≠ x0 → f' x = f x) ∧ Kept (fun q => q = b) w w' := by
  obtain ⟨D, ho, h1, h2, h3, h4, h5⟩ := h.tight
  obtain ⟨w', hrun, ho', hgr⟩ := ho.update K.law ht hn (K.key x0 hx0) (val := u) (d := .held u) (ps := []) rfl
  refine ⟨w', _, _, hrun, (MapIs.put ho h1 h2 h3 h4 h5 x0 hx0 u ho').tight, fun x => ?_, by simp, fun x hx => by simp [hx], Kept.grown hgr (fun q e => by cases e; rfl)⟩
  split
  · rename_i hc
    exact ⟨.inr, fun e => e.elim (fun e => e ▸ hc) id⟩
  · simp only [List.mem_append, List.mem_singleton]
    exact Or.comm
theorem MapB.adopt {ks ks' : List Hd} {f f' : Hd → Value} {bs : List Bd} (h : MapB ks f bs) (c d : Hd) (hl : ¬ Loops bs c d) (hm : ∀ x, x ∈ ks' ↔ x = c ∨ x ∈ ks) (h1 : f' c = .agg #[.int .i64 d.1, .int .i64 d.2]) (h2 : ∀ x, x ≠ c → f' x = f x) : MapB ks' f' (adoptB bs c d) := by
  refine ⟨fun x hx => ?_, fun x y hxy => ?_⟩
  · by_cases e : x = c
    · exact ⟨d, (mem_adoptB hl).2 (.inl (by rw [e]))⟩
    · obtain ⟨y, hy⟩ := h.some_ x (((hm x).1 hx).resolve_left e)
      exact ⟨y, (mem_adoptB hl).2 (.inr ⟨hy, e⟩)⟩
  · rcases (mem_adoptB hl).1 hxy with e | ⟨hb, hne⟩
    · simp only [Prod.mk.injEq] at e
      obtain ⟨rfl, rfl⟩ := e
      exact ⟨(hm _).2 (.inl rfl), h1⟩
    · obtain ⟨e1, e2⟩ := h.val x y hb
      exact ⟨(hm x).2 (.inr e1), by rw [h2 x hne]; exact e2⟩

theorem own_block {W W' : World} {row : Option Nat} {B k : Nat} {o : Obj} (h : W.heap[k]? = some o) (hg : W.grownBy W' row) (hr : ∀ r, row = some r → B ≤ r ∧ ∃ o : Obj, W.heap[r]? = some o ∧ o.isCells = false) (hk : k < B) : W'.heap[k]? = some o := by
  rw [hg.block k (Array.getElem?_eq_some_iff.1 h).1 (fun e => by have := (hr k e.symm).1; omega)]; exact h

def AdoptPost (u : Value × Value × Value) (w : World) (p : Nat) (F : Nat → Prop) (bs : List Bd) (c d : Hd) (e : Ending) (w' : World) : Prop :=
  e = .returned (.int .i64 (adoptE bs c d)) ∧ ∃ F', FamIn u w' p F' (adoptB bs c d) ∧ Kept F w w' ∧ Moves w F F'

set_option maxHeartbeats 4000000 in
theorem famAdopt_any (p : Nat) (F : Nat → Prop) (bs : List Bd) (a b c d : Int) (w : World) (h : FamIn u w p F bs) (ok : FOk bs) (hab : okH (a, b)) (hcd : okH (c, d)) (hlen : bs.length < maxLen) :
    Calls Tryz.prog 64 #[.pointer (some ⟨p, 3, none⟩), .agg #[.int .i64 a, .int .i64 b], .agg #[.int .i64 c, .int .i64 d]] w (AdoptPost u w p F bs (a, b) (c, d)) := by
  refine (callsIn_wide (n := 3)).1 ?_
  obtain ⟨X, hXe⟩ : ∃ X, ((w.alloc (.cells #[.int .i64 a, .int .i64 b] 34)).alloc (.cells #[.int .i64 c, .int .i64 d] 34)).alloc (.cells #[.int .i64 0] 49) = X := ⟨_, rfl⟩
  have hX : Below w.heap.size w X := by rw [← hXe]; exact nb_alloc (nb_alloc (nb_alloc (Below.refl _ _) _) _) _
  have hsz : X.heap.size = w.heap.size + 3 := by rw [← hXe]; simp
  have hxa : X.heap[w.heap.size]? = some (.cells #[.int .i64 a, .int .i64 b] 34) := by rw [← hXe]; exact (Below.heap_alloc _ _ _ (by simp; omega)).trans (heap_alloc2_old _ _ _)
  have hxb : X.heap[w.heap.size + 1]? = some (.cells #[.int .i64 c, .int .i64 d] 34) := by rw [← hXe]; exact (Below.heap_alloc _ _ _ (by simp)).trans (heap_alloc2_new _ _ _)
  have hxc : X.heap[w.heap.size + 1 + 1]? = some (.cells #[.int .i64 0] 49) := by
    have := heap_alloc_new ((w.alloc (.cells #[.int .i64 a, .int .i64 b] 34)).alloc (.cells #[.int .i64 c, .int .i64 d] 34)) (.cells #[.int .i64 0] 49)
    rw [hXe, show ((w.alloc (.cells #[.int .i64 a, .int .i64 b] 34)).alloc (.cells #[.int .i64 c, .int .i64 d] 34)).heap.size = w.heap.size + 1 + 1 by simp] at this
    exact this
  have HX := Lib.hid hX
  have HXC := Lib.hid hxc
  have HW0 := Lib.hid h
  have HOK := Lib.hid ok
  obtain ⟨ka0, ka1⟩ := hCells (a := a) (b := b) hxa
  obtain ⟨kb0, kb1⟩ := hCells (a := c) (b := d) hxb
  have kc : X.cell? ⟨w.heap.size + 1 + 1, 0, none⟩ = some (.int .i64 0) := by rw [cell_of_row _ _ _ _ _ _ hxc]; rfl
  have fz : X.frozen? ⟨w.heap.size + 1 + 1, 0, none⟩ = false := frozen_of_row _ _ _ _ _ hxc
  have hxal := (Array.getElem?_eq_some_iff.1 hxa).1
  have hxbl := (Array.getElem?_eq_some_iff.1 hxb).1
  have hxcl := (Array.getElem?_eq_some_iff.1 hxc).1
  have hro : Fence.wide.round = none := rfl
  have h13 : 1 ≤ 3 := by omega
  clear h ok hX
  refine callsIn_of_wp_marks Tryz.func64 rfl trivial ?_ hro
  simp only [Tryz.ntmps64, List.size_toArray, List.length_cons, List.length_nil, Nat.reduceAdd, Nat.reduceSub, Array.replicate_succ, Array.replicate_zero, List.push_toArray, List.append_toArray, List.nil_append, List.cons_append]
  by_cases heq : (a, b) = (c, d)
  · simp only [Prod.mk.injEq] at heq
    obtain ⟨rfl, rfl⟩ := heq
    have HP := Lib.hid (adoptB_yes (bs := bs) (c := (a, b)) (p := (a, b)) (.inl rfl))
    have e1 : (a == a) = true := by simp
    have e2 : (b == b) = true := by simp
    gi_wp2
    have hc8 : (X.setCell ⟨w.heap.size + 1 + 1, 0, none⟩ (.int .i64 8)).cell? ⟨w.heap.size + 1 + 1, 0, none⟩ = some (.int .i64 8) := World.cell?_setCell_same' _ _ _ (by rw [kc]; rfl)
    have HB8 : Hid (Below w.heap.size w (X.setCell ⟨w.heap.size + 1 + 1, 0, none⟩ (.int .i64 8))) := Lib.hid (nbf_set HX.out _ 0 _ (by omega))
    refine ⟨.int .i64 8, by simp [results, Tryz.results64, go_sem, hc8], by rw [HP.out.2], F, ?_, Kept.ofBelow HB8.out, Moves.refl _ _⟩
    rw [HP.out.1]
    exact HW0.out.later HB8.out
  · have HNE := Lib.hid heq
    cases h1 : (a == c) <;> cases h2 : (b == d)
    case true.true => exact absurd (Prod.ext (eq_of_beq h1) (eq_of_beq h2)) heq
    all_goals
      clear heq
      gi_wp2_with (refine ⟨trivial, ?_⟩; gi_at_call 104; refine (anc_in _ p c d _).mono ?_; rintro e w' ⟨rfl, rfl⟩)
      have hsz0 : ((X.alloc (.cells #[.pointer (some ⟨p, 3, none⟩)] 105)).alloc (.cells #[.int .i64 c, .int .i64 d] 34)).heap.size = w.heap.size + 5 := by simp; omega
      have hb0 : Below X.heap.size X ((X.alloc (.cells #[.pointer (some ⟨p, 3, none⟩)] 105)).alloc (.cells #[.int .i64 c, .int .i64 d] 34)) := nb_alloc (nb_alloc (Below.refl _ _) _) _
      have hbf : ((X.alloc (.cells #[.pointer (some ⟨p, 3, none⟩)] 105)).alloc (.cells #[.int .i64 c, .int .i64 d] 34)).heap[w.heap.size + 3]? = some (.cells #[.pointer (some ⟨p, 3, none⟩)] 105) := by rw [← hsz]; exact heap_alloc2_old _ _ _
      have hbh : ((X.alloc (.cells #[.pointer (some ⟨p, 3, none⟩)] 105)).alloc (.cells #[.int .i64 c, .int .i64 d] 34)).heap[w.heap.size + 3 + 1]? = some (.cells #[.int .i64 c, .int .i64 d] 34) := by rw [← hsz]; exact heap_alloc2_new _ _ _
      generalize (X.alloc (.cells #[.pointer (some ⟨p, 3, none⟩)] 105)).alloc (.cells #[.int .i64 c, .int .i64 d] 34) = W0 at *
      have hw0 : Below w.heap.size w W0 := nb_trans HX.out hb0
      have hxa0 : W0.heap[w.heap.size]? = some (.cells #[.int .i64 a, .int .i64 b] 34) := by rw [hb0.block _ hxal]; exact hxa
      have hxb0 : W0.heap[w.heap.size + 1]? = some (.cells #[.int .i64 c, .int .i64 d] 34) := by rw [hb0.block _ hxbl]; exact hxb
      have hxc0 : W0.heap[w.heap.size + 1 + 1]? = some (.cells #[.int .i64 0] 49) := by rw [hb0.block _ hxcl]; exact hxc
      obtain ⟨A, hA, -, hAm⟩ := HOK.out.anc (c, d)
      have HAM := Lib.hid hAm
      have HW := Lib.hid hw0
      clear hAm ka0 ka1 kb0 kb1 kc fz hXe
      refine wpIn_rangeFunc_ownH hro h13 (gf := 125) (lb := #[.pointer (some ⟨w.heap.size + 3, 0, none⟩), .pointer (some ⟨w.heap.size + 3 + 1, 0, none⟩)]) rfl trivial (enters_of Tryz.func125 (by kernel_rfl) rfl)
        (anc_stops (3 - 1) (by omega) (w.heap.size + 3) (w.heap.size + 3 + 1) p W0.heap.size F bs A c d W0 hbf hbh (by omega) (Nat.le_refl _) (HW0.out.later hw0) (fun i hi => Nat.lt_of_lt_of_le (HW0.out.lt i hi) hw0.size) HOK.out.sorted HOK.out.ok hcd hA) KpC.trans (KpC.put (Nat.le_refl _)) (Below.refl _ _) (fun _ => rfl)
        (fun pre W => (∀ y ∈ pre, y ≠ (a, b)) ∧ Below W0.heap.size W0 W)
        (fun k pre W => (k = .ret ∧ (a, b) ∈ pre ∧ W.heap[w.heap.size + 1 + 1]? = some (.cells #[.int .i64 8] 49)) ∧ Below w.heap.size w W)
        (OwnFrom.and (ownFrom_pure _ _) (ownFrom_below (Nat.le_refl _) (Nat.le_refl _)))
        (fun k => OwnFrom.and (fun s A B row hs hg hr => ⟨hs.1, hs.2.1, own_block hs.2.2 hg hr (by omega)⟩) (ownFrom_below (Nat.le_refl _) (by omega)))
        ⟨by simp, Below.refl _ _⟩
        (fun x a' W => ∃ Bx, W0.heap.size ≤ Bx ∧ W.heap[Bx]? = some (.cells #[.int .i64 x.1, .int .i64 x.2] 34) ∧ a' = { tmps := #[.pointer (some ⟨p, 3, none⟩), .agg #[.int .i64 a, .int .i64 b], .agg #[.int .i64 c, .int .i64 d], undef, .pointer (some ⟨w.heap.size, 0, none⟩), .pointer (some ⟨w.heap.size + 1, 0, none⟩), .pointer (some ⟨w.heap.size + 1 + 1, 0, none⟩), .pointer (some ⟨Bx, 0, none⟩), .agg #[.int .i64 a, .int .i64 b], .agg #[.int .i64 c, .int .i64 d], .bool false, .pointer (some ⟨p, 3, none⟩), .agg #[.int .i64 c, .int .i64 d], .func (.func 125) #[] #[.pointer (some ⟨w.heap.size + 3, 0, none⟩), .pointer (some ⟨w.heap.size + 3 + 1, 0, none⟩)], .agg #[.int .i64 x.1, .int .i64 x.2], undef, undef, undef, undef, undef, undef, undef, undef, undef, undef, undef, undef, undef, undef, undef, undef, undef, undef], defers := [] })
        (fun x a' s A B row hs hg hr => by
          obtain ⟨Bx, h1, h2, h3⟩ := hs
          refine ⟨Bx, h1, ?_, h3⟩
          rw [hg.block Bx (Array.getElem?_eq_some_iff.1 h2).1 (fun e => ?_)]
          · exact h2
          · obtain ⟨_, o, ho, hc⟩ := hr Bx e.symm
            rw [h2] at ho; cases ho; cases hc) ?assign ?body ?done ?stop
      case assign =>
        rintro l pre x W K ⟨hi1, hi2⟩ hK
        have hs2 := hi2.size
        gi_wp2
        exact hK _ _ ((KeepsOthers.alloc _ _).from _) (KpC.later hs2 (nb_alloc (Below.refl _ _) _)) ⟨hi1, nb_alloc hi2 _⟩ ⟨W.heap.size, hs2, heap_alloc_new _ _, rfl⟩
      case body =>
        rintro l pre ⟨x1, x2⟩ a' W hl ⟨r, hr⟩ ⟨hi1, hi2⟩ ⟨Bx, hBx, hx, rfl⟩ hlt
        have hs2 := hi2.size
        have hxl := (Array.getElem?_eq_some_iff.1 hx).1
        have hxa2 : W.heap[w.heap.size]? = some (.cells #[.int .i64 a, .int .i64 b] 34) := by rw [hi2.block _ (by omega)]; exact hxa0
        have hxc2 : W.heap[w.heap.size + 1 + 1]? = some (.cells #[.int .i64 0] 49) := by rw [hi2.block _ (by omega)]; exact hxc0
        have ha2l := (Array.getElem?_eq_some_iff.1 hxa2).1
        have hc2l := (Array.getElem?_eq_some_iff.1 hxc2).1
        obtain ⟨ka0, ka1⟩ := hCells (a := a) (b := b) hxa2
        obtain ⟨kx0, kx1⟩ := hCells (a := x1) (b := x2) hx
        have kc : W.cell? ⟨w.heap.size + 1 + 1, 0, none⟩ = some (.int .i64 0) := by rw [cell_of_row _ _ _ _ _ _ hxc2]; rfl
        have fz : W.frozen? ⟨w.heap.size + 1 + 1, 0, none⟩ = false := frozen_of_row _ _ _ _ _ hxc2
        have HI1 := Lib.hid hi1
        have HI2 := Lib.hid hi2
        have HC2 := Lib.hid hxc2
        clear hi1 hi2 hxa2 hxc2 hx hr
        cases g1 : (x1 == a) <;> cases g2 : (x2 == b)
        case true.true =>
          obtain rfl := eq_of_beq g1
          obtain rfl := eq_of_beq g2
          gi_wp2
          exact ⟨(KeepsOthers.setCell _ _ _).from _, ⟨rfl, by simp, heap_setCell_same _ _ 0 _ _ _ HC2.out⟩, nbf_set (hw0.trans (HI2.out.mono hw0.size)) _ 0 _ (by omega)⟩
        all_goals
          have HNX : Hid ((x1, x2) ≠ (a, b)) := Lib.hid (fun e => by
            simp only [Prod.mk.injEq] at e
            obtain ⟨rfl, rfl⟩ := e
            first | (simp at g1; done) | (simp at g2; done))
          gi_wp2
          exact ⟨KeepsFrom.refl _ _, ⟨Below.refl _ _, fun _ _ _ _ h => h⟩, fun y hy => (List.mem_append.1 hy).elim (HI1.out y) (fun e => by simp at e; rw [e]; exact HNX.out), HI2.out⟩
      case done =>
        rintro D ys W hD rfl ⟨hi1, hi2⟩ hK
        have HNL : Hid (¬ Loops bs (a, b) (c, d)) := Lib.hid (fun hl => hl.elim HNE.out (fun u => hi1 _ ((HAM.out (a, b)).2 u) rfl))
        have HP := Lib.hid (adoptB_no HNL.out)
        have hs2 := hi2.size
        have hKl := (Array.getElem?_eq_some_iff.1 hK).1
        have hwW : Below w.heap.size w W := hw0.trans (hi2.mono hw0.size)
        have HWW := Lib.hid hwW
        have HK := Lib.hid hK
        have HBX : Hid (∀ Y : World, (∀ k, w.heap.size ≤ k → k < w.heap.size + 5 → Y.heap[k]? = W.heap[k]?) → Y.heap[w.heap.size]? = some (.cells #[.int .i64 a, .int .i64 b] 34) ∧ Y.heap[w.heap.size + 1]? = some (.cells #[.int .i64 c, .int .i64 d] 34) ∧ Y.heap[w.heap.size + 1 + 1]? = some (.cells #[.int .i64 0] 49)) := Lib.hid (fun Y hY => ⟨by rw [hY _ (by omega) (by omega), hi2.block _ (by omega)]; exact hxa0, by rw [hY _ (by omega) (by omega), hi2.block _ (by omega)]; exact hxb0, by rw [hY _ (by omega) (by omega), hi2.block _ (by omega)]; exact hxc0⟩)
        obtain ⟨vm, hfam⟩ := HW0.out
        have hfw := hfam.later hwW
        have cm := hfw.cell
        have hpl := hfw.plt
        have hpw := hfam.plt
        have heqN : ∀ x : World, (binOp .eql 72 (.map none) (.map none)).run Tryz.prog x = .ok (.bool true) x := fun x => by kernel_rfl
        have hmk : ∀ x : World, (Instr.makeMap 72 none).run Tryz.prog x = .ok (.map (some x.heap.size)) (x.alloc (.map #[] 0)) := run_makeMap 72
        have fzp := hfw.frozen
        clear hi1 hi2 hwW hK hxa0 hxb0 hxc0 hxa hxb hxc hbf hbh hb0 hA
        rcases hfw.map with ⟨rfl, hbs⟩ | ⟨mb, ks, f, rfl, hm, hB, hF, hne⟩
        · have hB0 : MapB [] (fun _ => .map none) bs := by rw [hbs]; exact ⟨by simp, by simp⟩
          clear hbs
          have hs3 : (W.setCell ⟨p, 3, none⟩ (.map (some W.heap.size))).heap.size = W.heap.size := by simp [World.setCell]
          have hkV : Kept (fun i => i = p) W ((W.setCell ⟨p, 3, none⟩ (.map (some W.heap.size))).alloc (.map #[] 0)) := (Kept.setCell (F := fun i => i = p) W (p := ⟨p, 3, none⟩) rfl _).trans (Kept.alloc (fun i => i = p) _ _) (fun _ h => .inl h)
          have HVB : Hid (∀ k, w.heap.size ≤ k → k < w.heap.size + 5 → ((W.setCell ⟨p, 3, none⟩ (.map (some W.heap.size))).alloc (.map #[] 0)).heap[k]? = W.heap[k]?) := Lib.hid (fun k h1 h2 => hkV.block k (by omega) (by omega))
          have HVP : Hid (((W.setCell ⟨p, 3, none⟩ (.map (some W.heap.size))).alloc (.map #[] 0)).heap[p]? = some (.cells #[u.1, u.2.1, u.2.2, .map (some W.heap.size)] 76 (0, 0))) := Lib.hid (by rw [Below.heap_alloc _ _ _ (by rw [hs3]; omega)]; exact heap_setCell_same _ _ 3 _ _ _ hfw.block)
          have HMP : Hid (MapIs kHand ((W.setCell ⟨p, 3, none⟩ (.map (some W.heap.size))).alloc (.map #[] 0)) W.heap.size ([] : List Hd).length [] (fun _ => .map none)) := Lib.hid (by
            have := MapIs.new kHand (W.setCell ⟨p, 3, none⟩ (.map (some W.heap.size))) (fun _ => .map none)
            rw [hs3] at this
            exact this)
          have HKL : Hid (([] : List Hd).length < maxLen) := Lib.hid (by simp [maxLen])
          have HMB := Lib.hid hB0
          have HKD : Hid (((W.setCell ⟨p, 3, none⟩ (.map (some W.heap.size))).alloc (.map #[] 0)).heap[D]? = some (.deferred (some []))) := Lib.hid (by rw [hkV.block D hKl (by omega)]; exact HK.out)
          have HMN : Hid (W.heap.size ≠ p ∧ W.heap.size ≠ w.heap.size ∧ W.heap.size ≠ w.heap.size + 1 + 1 ∧ W.heap.size ≠ D) := Lib.hid ⟨by omega, by omega, by omega, by omega⟩
          have HKV : Hid (Kept F w ((W.setCell ⟨p, 3, none⟩ (.map (some W.heap.size))).alloc (.map #[] 0))) := Lib.hid ((Kept.ofBelow HWW.out).trans (hkV.mono (G := F) (fun i e => .inl (by rw [e]; exact hfw.at_))) (fun _ h => .inl h))
          have HMV : Hid (Moves w F (fun i => F i ∨ i = W.heap.size)) := Lib.hid (fun i e => e.elim .inl (fun e => .inr (by omega)))
          have HF1 : Hid ((F p ∨ p = W.heap.size) ∧ (F W.heap.size ∨ W.heap.size = W.heap.size) ∧ ∀ i, (F i ∨ i = W.heap.size) → i < ((W.setCell ⟨p, 3, none⟩ (.map (some W.heap.size))).alloc (.map #[] 0)).heap.size) := Lib.hid ⟨.inl hfw.at_, .inr rfl, fun i e => by
            rw [World.size_alloc, hs3]
            exact e.elim (fun h => Nat.lt_succ_of_lt (hfw.lt i h)) (fun e => by omega)⟩
          gi_wp2_with fail
          clear cm fzp hmk heqN hfw hB0 hkV
          generalize (W.setCell ⟨p, 3, none⟩ (.map (some W.heap.size))).alloc (.map #[] 0) = V at *
          obtain ⟨F1, hF1⟩ : ∃ F1 : Nat → Prop, (fun i => F i ∨ i = W.heap.size) = F1 := ⟨_, rfl⟩
          replace HF1 : Hid (F1 p ∧ F1 W.heap.size ∧ ∀ i, F1 i → i < V.heap.size) := Lib.hid (by rw [← hF1]; exact ⟨HF1.out.1, .inr rfl, HF1.out.2.2⟩)
          rw [hF1] at HMV
          clear hF1
          clear hs3
          obtain ⟨mb, hmb⟩ : ∃ mb, W.heap.size = mb := ⟨_, rfl⟩
          rw [hmb] at HVP HMP HMN HF1 ⊢
          obtain ⟨hva, hvb, hvc⟩ := HBX.out V HVB.out
          have hval := (Array.getElem?_eq_some_iff.1 hva).1
          have hvbl := (Array.getElem?_eq_some_iff.1 hvb).1
          have hvcl := (Array.getElem?_eq_some_iff.1 hvc).1
          have hvpl := (Array.getElem?_eq_some_iff.1 HVP.out).1
          have cv : V.cell? ⟨p, 3, none⟩ = some (.map (some mb)) := by rw [cell_of_row _ _ _ _ _ _ HVP.out]; rfl
          obtain ⟨ka0, ka1⟩ := hCells (a := a) (b := b) hva
          obtain ⟨kb0, kb1⟩ := hCells (a := c) (b := d) hvb
          obtain ⟨V5, ks5, f5', hmu, hmap5, hks5, hfa5, hfb5, hk5⟩ := (HMP.out.kept (Kept.drew (fun _ => False) V) id).putRun Tryz.underlying72 HKL.out (a, b) hab (.agg #[.int .i64 c, .int .i64 d])
          replace hmu : (Instr.mapUpdate 72 (.map (some mb)) (.agg #[.int .i64 a, .int .i64 b]) (.agg #[.int .i64 c, .int .i64 d])).run Tryz.prog V.drew = .ok () V5 := hmu
          have hk5' : Kept (fun q => q = mb) V V5 := (Kept.drew (fun q => q = mb) V).trans hk5 (fun _ h => .inl h)
          have hc5 : V5.heap[w.heap.size + 1 + 1]? = some (.cells #[.int .i64 0] 49) := by rw [hk5'.block _ hvcl (fun e => HMN.out.2.2.1 e.symm)]; exact hvc
          have hp5 : V5.heap[p]? = some (.cells #[u.1, u.2.1, u.2.2, .map (some mb)] 76 (0, 0)) := by rw [hk5'.block _ hvpl (fun e => HMN.out.1 e.symm)]; exact HVP.out
          have hD5 : V5.heap[D]? = some (.deferred (some [])) := by rw [hk5'.block _ (Array.getElem?_eq_some_iff.1 HKD.out).1 (fun e => HMN.out.2.2.2 e.symm)]; exact HKD.out
          have hc5l := (Array.getElem?_eq_some_iff.1 hc5).1
          have k5 : V5.cell? ⟨w.heap.size + 1 + 1, 0, none⟩ = some (.int .i64 0) := by rw [cell_of_row _ _ _ _ _ _ hc5]; rfl
          have f5 : V5.frozen? ⟨w.heap.size + 1 + 1, 0, none⟩ = false := frozen_of_row _ _ _ _ _ hc5
          have hD6 : (V5.setCell ⟨w.heap.size + 1 + 1, 0, none⟩ (.int .i64 0)).heap[D]? = some (.deferred (some [])) := by rw [heap_setCell_other _ _ _ _ (show D ≠ w.heap.size + 1 + 1 by omega)]; exact hD5
          have hk6 : Kept (fun i => i = w.heap.size + 1 + 1) V5 (V5.setCell ⟨w.heap.size + 1 + 1, 0, none⟩ (.int .i64 0)) := Kept.setCell (F := fun i => i = w.heap.size + 1 + 1) V5 (p := ⟨w.heap.size + 1 + 1, 0, none⟩) rfl _
          have hk7 : Kept (fun i => i = D) (V5.setCell ⟨w.heap.size + 1 + 1, 0, none⟩ (.int .i64 0)) ((V5.setCell ⟨w.heap.size + 1 + 1, 0, none⟩ (.int .i64 0)).putObj D (.deferred none)) := Kept.grown (grownBy_putObj' _ D _) (fun i e => by cases e; rfl)
          have hk57 : Kept (fun i => i = w.heap.size + 1 + 1 ∨ i = D) V5 ((V5.setCell ⟨w.heap.size + 1 + 1, 0, none⟩ (.int .i64 0)).putObj D (.deferred none)) := (hk6.mono (fun i e => .inl (.inl e))).trans (hk7.mono (fun i e => .inl (.inr e))) (fun _ h => .inl h)
          have hkV7 : Kept (fun i => i = mb ∨ i = w.heap.size + 1 + 1 ∨ i = D) V ((V5.setCell ⟨w.heap.size + 1 + 1, 0, none⟩ (.int .i64 0)).putObj D (.deferred none)) := (hk5'.mono (fun i e => .inl (.inl e))).trans (hk57.mono (fun i e => .inl (.inr e))) (fun _ h => .inl h)
          have hkw : Kept F w ((V5.setCell ⟨w.heap.size + 1 + 1, 0, none⟩ (.int .i64 0)).putObj D (.deferred none)) := (HKV.out.mono (G := fun i => F i ∨ w.heap.size ≤ i) (fun i h => .inl (.inl h))).trans hkV7 (fun i e => by
            rcases e with e | e | e
            · rcases HMV.out mb HF1.out.2.1 with h | h
              · exact .inl (.inl (by rw [e]; exact h))
              · exact .inl (.inr (by omega))
            · exact .inl (.inr (by omega))
            · exact .inl (.inr (by omega))) |>.mono (fun i h => h)
          have hpp : ((V5.setCell ⟨w.heap.size + 1 + 1, 0, none⟩ (.int .i64 0)).putObj D (.deferred none)).heap[p]? = some (.cells #[u.1, u.2.1, u.2.2, .map (some mb)] 76 (0, 0)) := by rw [hk57.block p (Array.getElem?_eq_some_iff.1 hp5).1 (fun e => by omega)]; exact hp5
          have hc7 : ((V5.setCell ⟨w.heap.size + 1 + 1, 0, none⟩ (.int .i64 0)).putObj D (.deferred none)).heap[w.heap.size + 1 + 1]? = some (.cells #[.int .i64 0] 49) := by rw [hk7.block _ (by simp [World.setCell]; exact hc5l) (show ¬ w.heap.size + 1 + 1 = D by omega)]; exact heap_setCell_same _ _ 0 _ _ _ hc5
          have HEND : Hid (FamIn u ((V5.setCell ⟨w.heap.size + 1 + 1, 0, none⟩ (.int .i64 0)).putObj D (.deferred none)) p F1 (adoptB bs (a, b) (c, d)) ∧ Kept F w ((V5.setCell ⟨w.heap.size + 1 + 1, 0, none⟩ (.int .i64 0)).putObj D (.deferred none))) := Lib.hid ⟨⟨_, hpp, .inr ⟨mb, _, _, rfl, hmap5.kept hk57 (fun e => e.elim HMN.out.2.2.1 HMN.out.2.2.2), HMB.out.adopt (a, b) (c, d) HNL.out hks5 hfa5 hfb5, HF1.out.2.1, HMN.out.1⟩, HF1.out.1, fun i hi => Nat.lt_of_lt_of_le (HF1.out.2.2 i hi) hkV7.size⟩, hkw⟩
          have hc8 : ((V5.setCell ⟨w.heap.size + 1 + 1, 0, none⟩ (.int .i64 0)).putObj D (.deferred none)).cell? ⟨w.heap.size + 1 + 1, 0, none⟩ = some (.int .i64 0) := by rw [cell_of_row _ _ _ _ _ _ hc7]; rfl
          clear hks5 hfa5 hfb5 hmap5 hk5 hk5' hc5 hp5 hD5 hk6 hk7 hk57 hkV7 hkw hpp hc7 hva hvb hvc
          gi_region
          all_goals
            clear hmu ka0 ka1 kb0 kb1 cv
            gi_wp2
            refine ⟨by simp, .inl ⟨_, _, rfl, run_takeDeferred hD6, ?_⟩⟩
            exact ⟨.int .i64 0, by simp [results, Tryz.results64, go_sem, hc8], by rw [HP.out.2], F1, HEND.out.1, HEND.out.2, HMV.out⟩
        · have heqS : ∀ x : World, (binOp .eql 72 (.map (some mb)) (.map none)).run Tryz.prog x = .ok (.bool false) x := fun x => by kernel_rfl
          have HVP := Lib.hid hfw.block
          have HMP := Lib.hid hm
          have HKL : Hid (ks.length < maxLen) := Lib.hid (by
            have := nodup_sub_len (ys := bs.map (·.1)) hm.nodup (fun x hx => by
              obtain ⟨y, hy⟩ := hB.some_ x hx
              exact List.mem_map.2 ⟨_, hy, rfl⟩)
            simp at this
            omega)
          have HMB := Lib.hid hB
          have HKD := HK
          have hmbw := hfam.lt mb hF
          have HMN : Hid (mb ≠ p ∧ mb ≠ w.heap.size ∧ mb ≠ w.heap.size + 1 + 1 ∧ mb ≠ D) := Lib.hid ⟨hne, by omega, by omega, by omega⟩
          have HKV : Hid (Kept F w W) := Lib.hid (Kept.ofBelow HWW.out)
          have HMV : Hid (Moves w F F) := Lib.hid (Moves.refl _ _)
          have HF1 : Hid (F p ∧ F mb ∧ ∀ i, F i → i < W.heap.size) := Lib.hid ⟨hfw.at_, hF, hfw.lt⟩
          gi_wp2_with fail
          clear cm fzp hmk heqN heqS hfw hm hB hF hne
          obtain ⟨V, hV⟩ : ∃ V, W = V := ⟨_, rfl⟩
          obtain ⟨F1, hF1⟩ : ∃ F1, F = F1 := ⟨_, rfl⟩
          replace HMV : Hid (Moves w F F1) := by rw [← hF1]; exact HMV
          replace HF1 : Hid (F1 p ∧ F1 mb ∧ ∀ i, F1 i → i < V.heap.size) := by rw [← hF1, ← hV]; exact HF1
          rw [hV] at HVP HMP HKD HKV ⊢
          have HVB : Hid (∀ k, w.heap.size ≤ k → k < w.heap.size + 5 → V.heap[k]? = W.heap[k]?) := Lib.hid (by rw [hV]; exact fun _ _ _ => rfl)
          clear hF1
          obtain ⟨hva, hvb, hvc⟩ := HBX.out V HVB.out
          have hval := (Array.getElem?_eq_some_iff.1 hva).1
          have hvbl := (Array.getElem?_eq_some_iff.1 hvb).1
          have hvcl := (Array.getElem?_eq_some_iff.1 hvc).1
          have hvpl := (Array.getElem?_eq_some_iff.1 HVP.out).1
          have cv : V.cell? ⟨p, 3, none⟩ = some (.map (some mb)) := by rw [cell_of_row _ _ _ _ _ _ HVP.out]; rfl
          obtain ⟨ka0, ka1⟩ := hCells (a := a) (b := b) hva
          obtain ⟨kb0, kb1⟩ := hCells (a := c) (b := d) hvb
          obtain ⟨V5, ks5, f5', hmu, hmap5, hks5, hfa5, hfb5, hk5⟩ := (HMP.out.kept (Kept.drew (fun _ => False) V) id).putRun Tryz.underlying72 HKL.out (a, b) hab (.agg #[.int .i64 c, .int .i64 d])
          replace hmu : (Instr.mapUpdate 72 (.map (some mb)) (.agg #[.int .i64 a, .int .i64 b]) (.agg #[.int .i64 c, .int .i64 d])).run Tryz.prog V.drew = .ok () V5 := hmu
          have hk5' : Kept (fun q => q = mb) V V5 := (Kept.drew (fun q => q = mb) V).trans hk5 (fun _ h => .inl h)
          have hc5 : V5.heap[w.heap.size + 1 + 1]? = some (.cells #[.int .i64 0] 49) := by rw [hk5'.block _ hvcl (fun e => HMN.out.2.2.1 e.symm)]; exact hvc
          have hp5 : V5.heap[p]? = some (.cells #[u.1, u.2.1, u.2.2, .map (some mb)] 76 (0, 0)) := by rw [hk5'.block _ hvpl (fun e => HMN.out.1 e.symm)]; exact HVP.out
          have hD5 : V5.heap[D]? = some (.deferred (some [])) := by rw [hk5'.block _ (Array.getElem?_eq_some_iff.1 HKD.out).1 (fun e => HMN.out.2.2.2 e.symm)]; exact HKD.out
          have hc5l := (Array.getElem?_eq_some_iff.1 hc5).1
          have k5 : V5.cell? ⟨w.heap.size + 1 + 1, 0, none⟩ = some (.int .i64 0) := by rw [cell_of_row _ _ _ _ _ _ hc5]; rfl
          have f5 : V5.frozen? ⟨w.heap.size + 1 + 1, 0, none⟩ = false := frozen_of_row _ _ _ _ _ hc5
          have hD6 : (V5.setCell ⟨w.heap.size + 1 + 1, 0, none⟩ (.int .i64 0)).heap[D]? = some (.deferred (some [])) := by rw [heap_setCell_other _ _ _ _ (show D ≠ w.heap.size + 1 + 1 by omega)]; exact hD5
          have hk6 : Kept (fun i => i = w.heap.size + 1 + 1) V5 (V5.setCell ⟨w.heap.size + 1 + 1, 0, none⟩ (.int .i64 0)) := Kept.setCell (F := fun i => i = w.heap.size + 1 + 1) V5 (p := ⟨w.heap.size + 1 + 1, 0, none⟩) rfl _
          have hk7 : Kept (fun i => i = D) (V5.setCell ⟨w.heap.size + 1 + 1, 0, none⟩ (.int .i64 0)) ((V5.setCell ⟨w.heap.size + 1 + 1, 0, none⟩ (.int .i64 0)).putObj D (.deferred none)) := Kept.grown (grownBy_putObj' _ D _) (fun i e => by cases e; rfl)
          have hk57 : Kept (fun i => i = w.heap.size + 1 + 1 ∨ i = D) V5 ((V5.setCell ⟨w.heap.size + 1 + 1, 0, none⟩ (.int .i64 0)).putObj D (.deferred none)) := (hk6.mono (fun i e => .inl (.inl e))).trans (hk7.mono (fun i e => .inl (.inr e))) (fun _ h => .inl h)
          have hkV7 : Kept (fun i => i = mb ∨ i = w.heap.size + 1 + 1 ∨ i = D) V ((V5.setCell ⟨w.heap.size + 1 + 1, 0, none⟩ (.int .i64 0)).putObj D (.deferred none)) := (hk5'.mono (fun i e => .inl (.inl e))).trans (hk57.mono (fun i e => .inl (.inr e))) (fun _ h => .inl h)
          have hkw : Kept F w ((V5.setCell ⟨w.heap.size + 1 + 1, 0, none⟩ (.int .i64 0)).putObj D (.deferred none)) := (HKV.out.mono (G := fun i => F i ∨ w.heap.size ≤ i) (fun i h => .inl (.inl h))).trans hkV7 (fun i e => by
            rcases e with e | e | e
            · rcases HMV.out mb HF1.out.2.1 with h | h
              · exact .inl (.inl (by rw [e]; exact h))
              · exact .inl (.inr (by omega))
            · exact .inl (.inr (by omega))
            · exact .inl (.inr (by omega))) |>.mono (fun i h => h)
          have hpp : ((V5.setCell ⟨w.heap.size + 1 + 1, 0, none⟩ (.int .i64 0)).putObj D (.deferred none)).heap[p]? = some (.cells #[u.1, u.2.1, u.2.2, .map (some mb)] 76 (0, 0)) := by rw [hk57.block p (Array.getElem?_eq_some_iff.1 hp5).1 (fun e => by omega)]; exact hp5
          have hc7 : ((V5.setCell ⟨w.heap.size + 1 + 1, 0, none⟩ (.int .i64 0)).putObj D (.deferred none)).heap[w.heap.size + 1 + 1]? = some (.cells #[.int .i64 0] 49) := by rw [hk7.block _ (by simp [World.setCell]; exact hc5l) (show ¬ w.heap.size + 1 + 1 = D by omega)]; exact heap_setCell_same _ _ 0 _ _ _ hc5
          have HEND : Hid (FamIn u ((V5.setCell ⟨w.heap.size + 1 + 1, 0, none⟩ (.int .i64 0)).putObj D (.deferred none)) p F1 (adoptB bs (a, b) (c, d)) ∧ Kept F w ((V5.setCell ⟨w.heap.size + 1 + 1, 0, none⟩ (.int .i64 0)).putObj D (.deferred none))) := Lib.hid ⟨⟨_, hpp, .inr ⟨mb, _, _, rfl, hmap5.kept hk57 (fun e => e.elim HMN.out.2.2.1 HMN.out.2.2.2), HMB.out.adopt (a, b) (c, d) HNL.out hks5 hfa5 hfb5, HF1.out.2.1, HMN.out.1⟩, HF1.out.1, fun i hi => Nat.lt_of_lt_of_le (HF1.out.2.2 i hi) hkV7.size⟩, hkw⟩
          have hc8 : ((V5.setCell ⟨w.heap.size + 1 + 1, 0, none⟩ (.int .i64 0)).putObj D (.deferred none)).cell? ⟨w.heap.size + 1 + 1, 0, none⟩ = some (.int .i64 0) := by rw [cell_of_row _ _ _ _ _ _ hc7]; rfl
          clear hks5 hfa5 hfb5 hmap5 hk5 hk5' hc5 hp5 hD5 hk6 hk7 hk57 hkV7 hkw hpp hc7 hva hvb hvc
          gi_region
          all_goals
            clear hmu ka0 ka1 kb0 kb1 cv
            gi_wp2
            refine ⟨by simp, .inl ⟨_, _, rfl, run_takeDeferred hD6, ?_⟩⟩
            exact ⟨.int .i64 0, by simp [results, Tryz.results64, go_sem, hc8], by rw [HP.out.2], F1, HEND.out.1, HEND.out.2, HMV.out⟩
      case stop =>
        rintro D k pre W hD hpre ⟨⟨rfl, hin, hcr⟩, hB⟩ hK
        have HP := Lib.hid (adoptB_yes (bs := bs) (c := (a, b)) (p := (c, d)) (.inr ((HAM.out (a, b)).1 (hpre.subset hin))))
        have hcl := (Array.getElem?_eq_some_iff.1 hcr).1
        have hk9 : Kept (fun i => w.heap.size ≤ i) W (W.putObj D (.deferred none)) := Kept.grown (grownBy_putObj' _ D _) (fun i e => by cases e; omega)
        have hB9 : Below w.heap.size w (W.putObj D (.deferred none)) := hB.trans (hk9.below hB.size (fun _ e => e))
        have hc9 : (W.putObj D (.deferred none)).cell? ⟨w.heap.size + 1 + 1, 0, none⟩ = some (.int .i64 8) := by
          rw [cell_of_row _ _ _ _ _ _ (by rw [(grownBy_putObj' W D (.deferred none)).block _ hcl (fun e => by simp only [Option.some.injEq] at e; omega)]; exact hcr)]; rfl
        have HB9 := Lib.hid hB9
        gi_wp2
        refine ⟨by simp, .inl ⟨_, _, rfl, run_takeDeferred hK, ?_⟩⟩
        refine ⟨.int .i64 8, by simp [results, Tryz.results64, go_sem, hc9], by rw [HP.out.2], F, ?_, Kept.ofBelow HB9.out, Moves.refl _ _⟩
        rw [HP.out.1]
        exact HW0.out.later HB9.out
end Go.Proofs.YtcmpaohefihijabGreatDoor

/- slices.Backward over bonds; the map of children of package family. -/
namespace Go.Proofs.YtcmpaohefihijabGreatDoor
set_option maxRecDepth 100000
open Go.RowKit Go.Shelf
attribute [local go_sem] Oper.semAt_some

/-- A bond whose handles fit, with its index. -/
abbrev IxB := { x : Nat × Bd // okH x.2.1 ∧ okH x.2.2 }
def bondsOf (l : List IxB) : List Bd := l.map (fun x => x.1.2)
/-- A round keeps these blocks. -/
def KpS (S : Nat → Prop) (W W' : World) : Prop := W.heap.size ≤ W'.heap.size ∧ ∀ k, S k → W'.heap[k]? = W.heap[k]?
theorem KpS.trans {S : Nat → Prop} {A B C : World} (h : KpS S A B) (k : KpS S B C) : KpS S A C := ⟨Nat.le_trans h.1 k.1, fun i hi => (k.2 i hi).trans (h.2 i hi)⟩
theorem KpS.put {S : Nat → Prop} {w : World} (hS : ∀ k, S k → k < w.heap.size) (W : World) (l : Nat) (o o' : Obj) (hl : w.heap.size ≤ l) (ho : W.heap[l]? = some o) (_ : o.isCells = false) (_ : o.isWalk = false) : KpS S W (W.putObj l o') := by
  have hlt := (Array.getElem?_eq_some_iff.1 ho).1
  refine ⟨(grownBy_putObj' W l o').size, fun k hk => (grownBy_putObj' W l o').block k (by have := hS k hk; omega) (fun e => ?_)⟩
  simp only [Option.some.injEq] at e
  have := hS k hk
  omega
theorem KpS.refl (S : Nat → Prop) (W : World) : KpS S W W := ⟨Nat.le_refl _, fun _ _ => rfl⟩

set_option maxHeartbeats 4000000 in
theorem back1_in (n : Nat) (hn : 1 ≤ n) (l Bs n1 : Nat) (S : Nat → Prop) (v : Value) (ys : List Bd) (J Jx : List IxB → World → Prop)
    (hY : ∀ pre x W, J pre W → pre.length < ys.length → YieldAt Fence.wide (n - 1) Tryz.prog l #[.int .i64 (x.1.1 : Int), .agg #[.int .i64 x.1.2.1.1, .int .i64 x.1.2.1.2, .int .i64 x.1.2.2.1, .int .i64 x.1.2.2.2]] W fun e W' =>
      (e = .returned (.bool true) ∧ J (pre ++ [x]) W' ∧ KpS S W W') ∨ (e = .returned (.bool false) ∧ Jx (pre ++ [x]) W'))
    (_ : AbidesFrom n1 J) (W : World) (hBs : W.heap[Bs]? = some (.cells #[v] 29)) (hS : S Bs) (hSv : ∀ k, v.ownBlock = some k → S k) (hr : Reads elBond W v ys) (hok : ∀ b ∈ ys, okH b.1 ∧ okH b.2) (h0 : J [] W) :
    CallsIn Fence.wide n Tryz.prog 146 #[.func (.yield l) #[] #[], .pointer (some ⟨Bs, 0, none⟩)] W fun e W' => (∃ v, e = .returned v) ∧
      ((∃ zs, bondsOf zs = ys.reverse ∧ J zs W') ∨ (∃ pre, True ∧ Jx pre W')) := by
  obtain ⟨hm, hop⟩ := hr.open
  obtain ⟨N, hN⟩ : ∃ N, ys.length = N := ⟨_, rfl⟩
  have HN := Lib.hid hN
  unfold maxLen at hm
  rw [hN] at hm hop hY
  have hBl := (Array.getElem?_eq_some_iff.1 hBs).1
  have HOKY := Lib.hid hok
  have HKB : Hid (∀ Y, KpS S W Y → Y.heap[Bs]? = some (.cells #[v] 29)) := Lib.hid (fun Y hY => by rw [hY.2 Bs hS]; exact hBs)
  have cb : W.cell? ⟨Bs, 0, none⟩ = some v := by rw [cell_of_row _ _ _ _ _ _ hBs]; rfl
  clear hN hr hok
  rcases hop with ⟨ad, cap, rfl, hz⟩ | ⟨bl, off, cap, rfl, hbl, hlc, hcm, hc⟩
  all_goals
    refine callsIn_of_wp Tryz.func146 rfl trivial ?_ rfl
    simp only [Tryz.ntmps146, List.size_toArray, List.length_cons, List.length_nil, Nat.reduceAdd, Nat.reduceSub, Array.replicate_succ, Array.replicate_zero, List.push_toArray, List.append_toArray, List.nil_append, List.cons_append]
    gi_wp2
    clear cb
    gi_loopw [3] (fun i wr => ∃ (k : Nat) (pre : List IxB), k ≤ N ∧ i = .int .i64 ((k : Int) - 1) ∧ Hid (bondsOf pre = (ys.drop k).reverse) ∧ Hid (J pre wr) ∧ Hid (KpS S W wr)) (fun i _ => (intOf i + 1).toNat)
    case atStart => exact ⟨N, [], Nat.le_refl _, by go_num, Lib.hid (by rw [List.drop_of_length_le (by rw [HN.out]; exact Nat.le_refl _)]; rfl), Lib.hid h0, Lib.hid (KpS.refl _ _)⟩
    case round =>
      obtain ⟨k, pre, hk, rfl, hp, hJ, hK⟩ := hrel
      by_cases hk0 : k = 0
      · subst hk0
        have HE : Hid (bondsOf pre = ys.reverse) := Lib.hid (by rw [hp.out]; rfl)
        gi_wp2
        go_end0
        exact ⟨⟨_, rfl⟩, .inl ⟨pre, HE.out, hJ.out⟩⟩
      · first
          | omega
          | (have hb1 := HKB.out wr hK.out
             have hb1l := (Array.getElem?_eq_some_iff.1 hb1).1
             have cb : wr.cell? ⟨Bs, 0, none⟩ = some (.slice (some ⟨bl, off, none⟩) N cap) := by rw [cell_of_row _ _ _ _ _ _ hb1]; rfl
             obtain ⟨j, rfl⟩ : ∃ j, k = j + 1 := ⟨k - 1, by omega⟩
             have hbw : bl < wr.heap.size := Nat.lt_of_lt_of_le hbl hK.out.1
             have hcr : ∀ jj, jj < 4 → wr.cell? ⟨bl, off + j * 4 + jj, none⟩ = (elBond.enc (ys.getD j bdZ))[jj]? := fun jj hjj => by rw [World.cell?_of_block (hK.out.2 bl (hSv bl rfl))]; exact hc j (by omega) jj hjj
             have hjl : j < ys.length := by rw [HN.out]; omega
             have hym : ys.getD j bdZ ∈ ys := memD hjl
             have hyo := HOKY.out _ hym
             have HDR : Hid ((ys.drop j).reverse = (ys.drop (j + 1)).reverse ++ [ys.getD j bdZ]) := Lib.hid (by rw [List.drop_eq_getElem_cons hjl, List.reverse_cons, List.getD_eq_getElem?_getD, List.getElem?_eq_getElem hjl]; rfl)
             have hpl : pre.length < N := by
               have := congrArg List.length hp.out
               simp only [bondsOf, List.length_map, List.length_reverse, List.length_drop] at this
               rw [this, HN.out]; omega
             obtain ⟨y, hy⟩ : ∃ y, ys.getD j bdZ = y := ⟨_, rfl⟩
             rw [hy] at hcr hyo HDR
             obtain ⟨⟨y1, y2⟩, y3, y4⟩ := y
             have c0 : wr.cell? ⟨bl, off + j * 4, none⟩ = some (.int .i64 y1) := hcr 0 (by decide)
             have c1 : wr.cell? ⟨bl, off + j * 4 + 1, none⟩ = some (.int .i64 y2) := hcr 1 (by decide)
             have c2 : wr.cell? ⟨bl, off + j * 4 + 2, none⟩ = some (.int .i64 y3) := hcr 2 (by decide)
             have c3 : wr.cell? ⟨bl, off + j * 4 + 3, none⟩ = some (.int .i64 y4) := hcr 3 (by decide)
             obtain ⟨fn, tmps, assign, body, hy', hRd⟩ := hY pre ⟨(j, ((y1, y2), (y3, y4))), hyo⟩ wr hJ.out hpl
             dsimp only at hy'
             have ej : (((j + 1 : Nat) : Int) - 1) = (j : Int) := by omega
             have hj0 : (0 : Int) ≤ (j : Int) := by omega
             have hjN : (j : Int) < (N : Int) := by omega
             rw [ej]
             clear hcr hym hy hb1
             gi_wp2
             refine hRd.mono ?_
             rintro e W3 (⟨rfl, hJ3, hk3⟩ | ⟨rfl, hJx3⟩)
             · clear c0 c1 c2 c3 cb
               gi_wp2
               go_roundw
               case rel => exact ⟨j, _, by omega, by go_num, Lib.hid (by rw [bondsOf, List.map_append]; show bondsOf pre ++ _ = _; rw [hp.out, HDR.out]; rfl), Lib.hid hJ3, Lib.hid (hK.out.trans hk3)⟩
               case measure => simp [intOf]; try omega
             · gi_wp2
               refine bodyPost_ret (results_none rfl _ _ _) rfl ?_
               exact ⟨⟨_, rfl⟩, .inr ⟨_, trivial, hJx3⟩⟩)

set_option maxHeartbeats 1000000 in
theorem back_in (n : Nat) (v : Value) (w : World) (h1 : ∃ a k c, v = .slice a k c) :
    CallsIn Fence.wide n Tryz.prog 120 #[v] w fun e w' => e = .returned (.func (.func 146) #[] #[.pointer (some ⟨w.heap.size, 0, none⟩)]) ∧ w' = w.alloc (.cells #[v] 29) := by
  obtain ⟨a, k, c, rfl⟩ := h1
  refine callsIn_of_wp Tryz.func120 rfl trivial ?_ rfl
  simp only [Tryz.ntmps120, List.size_toArray, List.length_cons, List.length_nil, Nat.reduceAdd, Nat.reduceSub, Array.replicate_succ, Array.replicate_zero, List.push_toArray, List.append_toArray, List.nil_append, List.cons_append]
  gi_wp2
  go_ret
  exact ⟨rfl, rfl⟩
theorem back_stops (n : Nat) (hn : 1 ≤ n) (Bs : Nat) (S : Nat → Prop) (v : Value) (ys : List Bd) (w : World) (hBs : w.heap[Bs]? = some (.cells #[v] 29)) (hS : S Bs) (hSv : ∀ k, v.ownBlock = some k → S k) (hr : Reads elBond w v ys) (hok : ∀ b ∈ ys, okH b.1 ∧ okH b.2) :
    SeqStopsK Fence.wide n Tryz.prog 146 #[.pointer (some ⟨Bs, 0, none⟩)] (fun x : IxB => #[Value.int .i64 (x.1.1 : Int), .agg #[.int .i64 x.1.2.1.1, .int .i64 x.1.2.1.2, .int .i64 x.1.2.2.1, .int .i64 x.1.2.2.2]]) (KpS S) (fun zs => bondsOf zs = ys.reverse) (fun _ => True) ys.length w := fun l J Jx W hW hJ _ hY h0 =>
  back1_in n hn l Bs _ S v ys J Jx hY hJ W (by rw [hW.block _ (Array.getElem?_eq_some_iff.1 hBs).1]; exact hBs) hS hSv (hr.later hW) hok h0
end Go.Proofs.YtcmpaohefihijabGreatDoor

/- The contract of children of package family: a map of the children of each parent, the last one first. -/
namespace Go.Proofs.YtcmpaohefihijabGreatDoor
set_option maxRecDepth 8000
set_option maxRecDepth 100000
open Go.RowKit Go.Shelf
variable {u : Value × Value × Value}
attribute [local go_sem] Oper.semAt_some

theorem hand_klaw : Go.WideMaps.KeyLaw Tryz.prog 34 := Go.deep_law_laid (by kernel_rfl) (m := 3) (by omega) (of_decide_eq_true (by kernel_rfl)) (by kernel_rfl) (by rw [Tryz.underlying34])
theorem zeroHands (w : World) : (zeroValue 86).run Tryz.prog w = .ok (.slice none 0 0) w := by kernel_rfl
theorem pw_key : ∀ {l : List MapEntry}, l.Pairwise (fun x y => x.key ≠ y.key) → ∀ {a b : MapEntry}, a ∈ l → b ∈ l → a ≠ b → a.key ≠ b.key
  | [], _, a, _, ha, _, _ => by simp at ha
  | x :: l, h, a, b, ha, hb, hne => by
    obtain ⟨h1, h2⟩ := List.pairwise_cons.1 h
    rcases List.mem_cons.1 ha with ea | ma <;> rcases List.mem_cons.1 hb with eb | mb
    · exact absurd (ea.trans eb.symm) hne
    · rw [ea]; exact h1 b mb
    · rw [eb]; exact (h1 a ma).symm
    · exact pw_key h2 ma mb hne
/-- 'm[x] = .. m[x] ..': the entry is laid, or found; then it is set. -/
theorem MapIs.entry {t e : TypeId} {w : World} {b n : Nat} {ks : List Hd} {f : Hd → Value} {z : Value} (h : MapIs kHand w b n ks f) (ht : Tryz.prog.underlying t = some (.map 34 e)) (hz : ∀ u : World, (zeroValue e).run Tryz.prog u = .ok z u) (hn : ks.length < maxLen) (x0 : Hd) (hx0 : okH x0) :
    ∃ v0 st w1, (Instr.mapEntry t (.map (some b)) (.agg #[.int .i64 x0.1, .int .i64 x0.2])).run Tryz.prog w = .ok (.tuple #[v0, .int .i64 st]) w1 ∧ Kept (fun q => q = b) w w1 ∧ w1.heap.size = w.heap.size ∧ ((x0 ∈ ks ∧ v0 = f x0) ∨ (x0 ∉ ks ∧ v0 = z)) ∧
      ∀ (w2 : World) (u : Value), w2.heap[b]? = w1.heap[b]? → ∃ w3 ks' f', (Instr.entryStore t (.map (some b)) (.int .i64 st) u).run Tryz.prog w2 = .ok () w3 ∧ Kept (fun q => q = b) w2 w3 ∧ MapIs kHand w3 b ks'.length ks' f' ∧ (∀ x, x ∈ ks' ↔ x = x0 ∨ x ∈ ks) ∧ f' x0 = u ∧ ∀ x, x ≠ x0 → f' x = f x := by
  have hlook := h.look ht (hz w) x0 hx0
  obtain ⟨D, ho, h1, h2, h3, h4, h5⟩ := h.tight
  obtain ⟨es, clock, hb, F, hs, hD⟩ := ho
  have ho' : w.ownsMap Tryz.prog 34 heldR b ks.length D := ⟨es, clock, hb, F, hs, hD⟩
  have hkey : keyOf Tryz.prog 34 (.agg #[.int .i64 x0.1, .int .i64 x0.2]) = some (kHand.lit x0) := kHand.key x0 hx0
  obtain ⟨v0, st, es1, clock1, hrun, hv, hst⟩ := Go.WideElems.entry_then_store hand_klaw ht hz hb F hkey
  have hb1 := ChangeMaps.heap_setBlock_same hb (.map es1 clock1)
  have hkb : ∀ (W : World) (es0 : Array MapEntry) (c0 : Nat) (o' : Obj), W.heap[b]? = some (.map es0 c0) → Kept (fun q => q = b) W (ChangeMaps.setBlock W b o') := fun W es0 c0 o' hW => ⟨rfl, rfl, rfl, by simp [ChangeMaps.setBlock], fun i _ hi => ChangeMaps.heap_setBlock_other hW _ hi⟩
  refine ⟨v0, st, _, hrun, hkb w _ _ _ hb, by simp [ChangeMaps.setBlock], ?_, fun w2 u hw2 => ?_⟩
  · have hv0 : (Instr.lookup t (.map (some b)) (.agg #[.int .i64 x0.1, .int .i64 x0.2]) false).run Tryz.prog w = .ok v0 w := by
      rcases Maps.fit_look false kHand.law ht (hz w) hb F hkey with ⟨hr2, hno, _⟩ | ⟨e0, y, hm0, hk0, hr2, _⟩
      · rcases hv with ⟨e9, hm9, hk9, _⟩ | ⟨_, rfl⟩
        · exact absurd hk9 (hno e9 hm9)
        · exact hr2
      · rcases hv with ⟨e9, hm9, hk9, rfl⟩ | ⟨hno, _⟩
        · have hpw := List.pairwise_map.1 F.stamped.2.2
          rcases Classical.em (e9 = e0) with e | e
          · rw [e]; exact hr2
          · exact absurd (hk9.trans hk0.symm) (pw_key hpw hm9 hm0 e)
        · exact absurd hk0 (hno e0 hm0)
    by_cases hc : x0 ∈ ks
    · rw [if_pos hc] at hlook
      have := hv0.symm.trans hlook
      exact .inl ⟨hc, by simpa using this⟩
    · rw [if_neg hc] at hlook
      have := hv0.symm.trans hlook
      exact .inr ⟨hc, by simpa using this⟩
  · obtain ⟨es', clock', hr3, hr4⟩ := hst w2 u (hw2.trans hb1)
    obtain ⟨w9, hrun9, ho9, _⟩ := ho'.update kHand.law ht hn hkey (val := u) (d := .held u) (ps := []) rfl
    have e9 : w9 = ChangeMaps.setBlock w b (.map es' clock') := by
      have := hrun9.symm.trans hr4
      simpa using this
    rw [e9] at ho9
    have hM := (MapIs.put ho' h1 h2 h3 h4 h5 x0 hx0 u ho9).tight
    obtain ⟨D', ⟨es2, cl2, hb2, rest⟩, r2⟩ := hM
    rw [ChangeMaps.heap_setBlock_same hb] at hb2
    refine ⟨_, _, _, hr3, hkb w2 _ _ _ (hw2.trans hb1), ⟨D', ⟨es2, cl2, by rw [ChangeMaps.heap_setBlock_same (hw2.trans hb1)]; exact hb2, rest⟩, r2⟩, fun x => ?_, by simp, fun x hx => by simp [hx]⟩
    split
    · rename_i hc
      exact ⟨.inr, fun e => e.elim (fun e => e ▸ hc) id⟩
    · simp only [List.mem_append, List.mem_singleton]
      exact Or.comm

/-- the children of h among these bonds, as they came -/
def lstB (done : List Bd) (h : Hd) : List Hd := (done.filter (fun b => decide (b.2 = h))).map (·.1)
theorem lstB_snoc_same (done : List Bd) (c h : Hd) : lstB (done ++ [(c, h)]) h = lstB done h ++ [c] := by simp [lstB, List.filter_append]
theorem lstB_snoc_other (done : List Bd) (c h x : Hd) (hne : h ≠ x) : lstB (done ++ [(c, h)]) x = lstB done x := by simp [lstB, List.filter_append, hne]
theorem lstB_rev (bs : List Bd) (h : Hd) : lstB bs.reverse h = (kids bs h).reverse := by unfold lstB kids; rw [List.filter_reverse, List.map_reverse]
theorem lstB_len (done : List Bd) (h : Hd) : (lstB done h).length ≤ done.length := by unfold lstB; rw [List.length_map]; exact List.length_filter_le _ _
/-- The map in block mb holds, for each parent, an own slice of its children. -/
structure ChMap (W : World) (mb B : Nat) (ks : List Hd) (f : Hd → Value) (done : List Bd) : Prop where
  map : MapIs kHand W mb ks.length ks f
  own : ∀ h ∈ ks, OwnsF elHand W B 34 (f h) (lstB done h)
  none_ : ∀ h, h ∉ ks → lstB done h = []
  ap : ∀ h ∈ ks, ∀ h' ∈ ks, h ≠ h' → ∀ k, (f h).ownBlock = some k → (f h').ownBlock ≠ some k
  len : ks.length ≤ done.length
  ne : ∀ h ∈ ks, lstB done h ≠ []
def ChAt (W : World) (mb B : Nat) (done : List Bd) : Prop := ∃ ks f, ChMap W mb B ks f done
theorem ChMap.kept {W W' : World} {mb B : Nat} {ks : List Hd} {f : Hd → Value} {done : List Bd} {G : Nat → Prop} (h : ChMap W mb B ks f done) (hk : Kept G W W') (hmb : ¬ G mb) (hB : ∀ k, B ≤ k → k < W.heap.size → ¬ G k) : ChMap W' mb B ks f done :=
  ⟨h.map.kept hk hmb, fun x hx => (h.own x hx).kept hk (fun k e => hB k ((h.own x hx).ge e) ((h.own x hx).lt e)), h.none_, h.ap, h.len, h.ne⟩
theorem ChMap.turned {W W' : World} {mb B : Nat} {ks : List Hd} {f : Hd → Value} {done : List Bd} {row : Option Nat} (h : ChMap W mb B ks f done) (hg : W.grownBy W' row) (hr : ∀ r, row = some r → B ≤ r ∧ ∃ o : Obj, W.heap[r]? = some o ∧ o.isCells = false) (hmb : mb < B) : ChMap W' mb B ks f done := by
  have hk : Kept (fun k => row = some k) W W' := Kept.grown hg (fun k e => e)
  refine ⟨h.map.kept hk (fun e => by have := (hr mb e).1; omega), fun x hx => (h.own x hx).kept hk (fun k e e2 => ?_), h.none_, h.ap, h.len, h.ne⟩
  obtain ⟨c, hc⟩ := (h.own x hx).owns.isC e
  obtain ⟨_, o, ho, hoc⟩ := hr k e2
  rw [hc] at ho; cases ho; cases hoc
theorem keepsFrom_of {B : Nat} {G : Nat → Prop} {W W' : World} (hk : Kept G W W') (h : ∀ k o, B ≤ k → W.heap[k]? = some o → o.isCells = false → ¬ G k) : KeepsFrom B W W' :=
  ⟨hk.size, fun k o hB ho hc => by rw [hk.block k (Array.getElem?_eq_some_iff.1 ho).1 (h k o hB ho hc)]; exact ho⟩
theorem ChMap.later {W W' : World} {mb B : Nat} {ks : List Hd} {f : Hd → Value} {done : List Bd} (h : ChMap W mb B ks f done) (hb : Below W.heap.size W W') : ChMap W' mb B ks f done := h.kept (G := fun _ => False) (Kept.ofBelow hb) id (fun _ _ _ => id)
theorem ChMap.lookR {W : World} {mb B : Nat} {ks : List Hd} {f : Hd → Value} {done : List Bd} (h : ChMap W mb B ks f done) (x : Hd) (hx : okH x) :
    ∃ v, (∀ Y, Y.heap[mb]? = W.heap[mb]? → (Instr.lookup 169 (.map (some mb)) (.agg #[.int .i64 x.1, .int .i64 x.2]) false).run Tryz.prog Y = .ok v Y) ∧ OwnsF elHand W B 34 v (lstB done x) ∧ ((v = .slice none 0 0 ∧ lstB done x = []) ∨ lstB done x ≠ []) := by
  have hl0 : ∀ Y : World, Y.heap[mb]? = W.heap[mb]? → MapIs kHand Y mb ks.length ks f := fun Y hY => by
    obtain ⟨D, ⟨es, cl, hb, r⟩, rest⟩ := h.map
    exact ⟨D, ⟨es, cl, hY.trans hb, r⟩, rest⟩
  have hl := fun (Y : World) (hY : Y.heap[mb]? = W.heap[mb]?) => (hl0 Y hY).look Tryz.underlying169 (zeroHands Y) x hx
  by_cases hc : x ∈ ks
  · exact ⟨f x, fun Y hY => by have := hl Y hY; rw [if_pos hc] at this; exact this, h.own x hc, .inr (h.ne x hc)⟩
  · exact ⟨.slice none 0 0, fun Y hY => by have := hl Y hY; rw [if_neg hc] at this; exact this, by rw [h.none_ x hc]; exact OwnsF.nil _ _ _ _, .inl ⟨rfl, h.none_ x hc⟩⟩
theorem ChMap.lookO {W : World} {mb B : Nat} {ks : List Hd} {f : Hd → Value} {done : List Bd} (h : ChMap W mb B ks f done) {x : Hd} {v0 : Value} (hv : (x ∈ ks ∧ v0 = f x) ∨ (x ∉ ks ∧ v0 = .slice none 0 0)) : OwnsF elHand W B 34 v0 (lstB done x) := by
  rcases hv with ⟨hc, rfl⟩ | ⟨hc, rfl⟩
  · exact h.own x hc
  · rw [h.none_ x hc]; exact OwnsF.nil _ _ _ _
/-- One bond more. -/
theorem ChMap.step {W w1 w2 w3 : World} {mb B : Nat} {ks ks' : List Hd} {f f' : Hd → Value} {done : List Bd} {c x : Hd} {v0 u : Value} (h : ChMap W mb B ks f done) (hBm : mb < B) (hk1 : Kept (fun q => q = mb) W w1) (hs1 : w1.heap.size = W.heap.size) (hv : (x ∈ ks ∧ v0 = f x) ∨ (x ∉ ks ∧ v0 = .slice none 0 0))
    (ho : OwnsF elHand w2 B 34 u (lstB done x ++ [c])) (hg : w1.grownBy w2 v0.ownBlock) (hat : u.ownBlock = v0.ownBlock ∨ u.ownBlock = some w1.heap.size)
    (hk3 : Kept (fun q => q = mb) w2 w3) (hm3 : MapIs kHand w3 mb ks'.length ks' f') (hks : ∀ y, y ∈ ks' ↔ y = x ∨ y ∈ ks) (hf1 : f' x = u) (hf2 : ∀ y, y ≠ x → f' y = f y) : ChMap w3 mb B ks' f' (done ++ [(c, x)]) := by
  have hne : ∀ y ∈ ks, y ≠ x → ∀ k, (f y).ownBlock = some k → v0.ownBlock ≠ some k ∧ u.ownBlock ≠ some k := fun y hy hyx k hk => by
    have h0 : v0.ownBlock ≠ some k := by
      rcases hv with ⟨hc, rfl⟩ | ⟨hc, rfl⟩
      · exact h.ap y hy x hc hyx k hk
      · simp [Value.ownBlock]
    refine ⟨h0, fun e => ?_⟩
    rcases hat with e2 | e2
    · exact h0 (e2 ▸ e)
    · rw [e2] at e
      have := (h.own y hy).lt hk
      simp only [Option.some.injEq] at e
      omega
  refine ⟨hm3, fun y hy => ?_, fun y hy => ?_, fun y hy y' hy' hyy k hk => ?_, ?_, fun y hy => ?_⟩
  · by_cases e : y = x
    · rw [e, hf1, lstB_snoc_same]
      exact ho.kept hk3 (fun k hk => by have := ho.ge hk; omega)
    · have hyk := ((hks y).1 hy).resolve_left e
      rw [hf2 y e, lstB_snoc_other _ _ _ _ (fun q => e q.symm)]
      have o1 := (h.own y hyk).kept hk1 (fun k hk => by have := (h.own y hyk).ge hk; omega)
      have o2 : OwnsF elHand w2 B 34 (f y) (lstB done y) := ownsRow_block o1 (fun g hg' => hg.block g (by have := (h.own y hyk).lt hg'; omega) (fun q => (hne y hyk e g hg').1 q.symm))
      exact o2.kept hk3 (fun k hk => by have := (h.own y hyk).ge hk; omega)
  · have e : y ≠ x := fun e => hy ((hks y).2 (.inl e))
    rw [lstB_snoc_other _ _ _ _ (fun q => e q.symm)]
    exact h.none_ y (fun q => hy ((hks y).2 (.inr q)))
  · by_cases e : y = x
    · have e' : y' ≠ x := fun q => hyy (e.trans q.symm)
      have hyk' := ((hks y').1 hy').resolve_left e'
      rw [e, hf1] at hk
      rw [hf2 y' e']
      exact fun q => (hne y' hyk' e' k q).2 hk
    · have hyk := ((hks y).1 hy).resolve_left e
      rw [hf2 y e] at hk
      by_cases e' : y' = x
      · rw [e', hf1]; exact (hne y hyk e k hk).2
      · rw [hf2 y' e']
        exact h.ap y hyk y' (((hks y').1 hy').resolve_left e') hyy k hk
  · have := nodup_sub_len (ys := x :: ks) hm3.nodup (fun y hy => List.mem_cons.2 ((hks y).1 hy))
    simp only [List.length_cons] at this
    have := h.len
    simp
    omega
  · by_cases e : y = x
    · rw [e, lstB_snoc_same]; simp
    · rw [lstB_snoc_other _ _ _ _ (fun q => e q.symm)]
      exact h.ne y (((hks y).1 hy).resolve_left e)

theorem own_blk {W W' : World} {row : Option Nat} {B k : Nat} {o : Obj} (h : W.heap[k]? = some o) (hg : W.grownBy W' row) (hr : ∀ r, row = some r → B ≤ r ∧ ∃ o : Obj, W.heap[r]? = some o ∧ o.isCells = false) (hk : k < B) : W'.heap[k]? = some o := by
  rw [hg.block k (Array.getElem?_eq_some_iff.1 h).1 (fun e => by have := (hr k e.symm).1; omega)]; exact h

def KidsPost (w : World) (bs : List Bd) (e : Ending) (w' : World) : Prop := ∃ mb B, e = .returned (.map (some mb)) ∧ w.heap.size ≤ mb ∧ mb < B ∧ B ≤ w'.heap.size ∧ ChAt w' mb B bs.reverse ∧ Below w.heap.size w w'

set_option maxHeartbeats 4000000 in
theorem famKids_any (p : Nat) (F : Nat → Prop) (bs : List Bd) (w : World) (h : FamIn u w p F bs) (ok : FOk bs) (hn : bs.length * 32 ≤ 140737488355328) :
    Calls Tryz.prog 95 #[.pointer (some ⟨p, 3, none⟩)] w (KidsPost w bs) := by
  refine (callsIn_wide (n := 3)).1 ?_
  obtain ⟨i0, hi, hz0, hz1, hz2⟩ := info_parts infoHand
  have hro : Fence.wide.round = none := rfl
  have h13 : 1 ≤ 3 := by omega
  have hmk : ∀ x : World, (Instr.makeMap 169 none).run Tryz.prog x = .ok (.map (some x.heap.size)) (x.alloc (.map #[] 0)) := run_makeMap 169
  obtain ⟨X, hXe⟩ : ∃ X, (w.alloc (.map #[] 0)).alloc (.cells #[.map (some w.heap.size)] 169) = X := ⟨_, rfl⟩
  have hX : Below w.heap.size w X := by rw [← hXe]; exact nb_alloc (nb_alloc (Below.refl _ _) _) _
  have hsz : X.heap.size = w.heap.size + 2 := by rw [← hXe]; simp
  have hxb : X.heap[w.heap.size + 1]? = some (.cells #[.map (some w.heap.size)] 169) := by rw [← hXe]; exact heap_alloc2_new _ _ _
  have hxm : MapIs kHand X w.heap.size 0 [] (fun _ => .slice none 0 0) := by rw [← hXe]; exact (MapIs.new kHand w _).later (nb_alloc (Below.refl _ _) _)
  have HX := Lib.hid hX
  have HW := Lib.hid (h.later hX)
  have HOK := Lib.hid ok
  have HN := Lib.hid hn
  clear h ok hX
  refine callsIn_of_wp_marks Tryz.func95 rfl trivial ?_ hro
  simp only [Tryz.ntmps95, List.size_toArray, List.length_cons, List.length_nil, Nat.reduceAdd, Nat.reduceSub, Array.replicate_succ, Array.replicate_zero, List.push_toArray, List.append_toArray, List.nil_append, List.cons_append]
  gi_wp2_with (refine ⟨trivial, ?_⟩; gi_at_call 19; refine (callsIn_wide.2 (famBonds_any p F bs _ HW.out HOK.out.sorted HN.out)).mono ?_; rintro e w2 ⟨v, rfl, ho, hb2⟩)
  obtain ⟨va, vc, hve, -⟩ := ho.reads
  have hvs : ∃ a k c, v = .slice a k c := ⟨_, _, _, hve⟩
  have HO := Lib.hid ho
  have HB2 := Lib.hid hb2
  have hs2 := hb2.size
  clear ho hb2 hve hXe hmk
  gi_wp2_with (refine ⟨trivial, ?_⟩; gi_at_call 120; refine (back_in _ v _ hvs).mono ?_; rintro e w' ⟨rfl, rfl⟩)
  have hb0 : Below w2.heap.size w2 (w2.alloc (.cells #[v] 29)) := nb_alloc (Below.refl _ _) _
  have hsz0 : (w2.alloc (.cells #[v] 29)).heap.size = w2.heap.size + 1 := by simp
  have hbs : (w2.alloc (.cells #[v] 29)).heap[w2.heap.size]? = some (.cells #[v] 29) := heap_alloc_new _ _
  generalize w2.alloc (.cells #[v] 29) = W0 at *
  have hx0 : Below X.heap.size X W0 := nb_trans HB2.out hb0
  have hw0 : Below w.heap.size w W0 := nb_trans HX.out hx0
  have hob : ∀ k, v.ownBlock = some k → X.heap.size ≤ k ∧ k < w2.heap.size := fun k e => ⟨HO.out.ge e, HO.out.lt e⟩
  have HCH0 : Hid (ChMap W0 w.heap.size W0.heap.size [] (fun _ => .slice none 0 0) []) := Lib.hid ⟨hxm.later hx0, by simp, fun _ _ => rfl, by simp, by simp, by simp⟩
  have hxb0 : W0.heap[w.heap.size + 1]? = some (.cells #[.map (some w.heap.size)] 169) := by rw [hx0.block _ (by omega)]; exact hxb
  have hSS : ∀ k, (k = w2.heap.size ∨ v.ownBlock = some k) → k < W0.heap.size := fun k e => e.elim (fun e => by omega) (fun e => by have := hob k e; omega)
  refine wpIn_rangeFunc_ownH hro h13 (gf := 146) (lb := #[.pointer (some ⟨w2.heap.size, 0, none⟩)]) rfl trivial (enters_of Tryz.func146 (by kernel_rfl) rfl)
    (back_stops (3 - 1) (by omega) w2.heap.size (fun k => k = w2.heap.size ∨ v.ownBlock = some k) v bs W0 hbs (.inl rfl) (fun k e => .inr e) (HO.out.reads.later hb0) HOK.out.ok) KpS.trans (KpS.put hSS) (Below.refl _ _) (fun _ => rfl)
    (fun pre W => (W.heap[w.heap.size + 1]? = some (.cells #[.map (some w.heap.size)] 169) ∧ ChAt W w.heap.size W0.heap.size (bondsOf pre)) ∧ (Below w.heap.size w W ∧ W0.heap.size ≤ W.heap.size))
    (fun _ _ _ => False)
    (OwnFrom.and (fun s A B row hs hg hr => ⟨own_blk hs.1 hg hr (by omega), by obtain ⟨ks, f, hc⟩ := hs.2; exact ⟨ks, f, hc.turned hg hr (by omega)⟩⟩) (OwnFrom.and (ownFrom_below (Nat.le_refl _) (by omega)) (fun s A B row hs hg hr => Nat.le_trans hs hg.size)))
    (fun _ _ _ _ _ hs _ _ => hs)
    ⟨⟨hxb0, ⟨_, _, HCH0.out⟩⟩, hw0, Nat.le_refl _⟩
    (fun x a' W => ∃ Bx, W0.heap.size ≤ Bx ∧ W.heap[Bx]? = some (.cells #[.int .i64 x.1.2.1.1, .int .i64 x.1.2.1.2, .int .i64 x.1.2.2.1, .int .i64 x.1.2.2.2] 41) ∧ a' = { tmps := #[.pointer (some ⟨p, 3, none⟩), undef, .map none, .pointer (some ⟨w.heap.size + 1, 0, none⟩), undef, .pointer (some ⟨Bx, 0, none⟩), .map (some w.heap.size), .pointer (some ⟨p, 3, none⟩), v, .func (.func 146) #[] #[.pointer (some ⟨w2.heap.size, 0, none⟩)], .int .i64 (x.1.1 : Int), .agg #[.int .i64 x.1.2.1.1, .int .i64 x.1.2.1.2, .int .i64 x.1.2.2.1, .int .i64 x.1.2.2.2], undef, undef, undef, undef, undef, undef, undef, undef, undef, undef, undef], defers := [] })
    (fun x a' s A B row hs hg hr => by
      obtain ⟨Bx, h1, h2, h3⟩ := hs
      refine ⟨Bx, h1, ?_, h3⟩
      rw [hg.block Bx (Array.getElem?_eq_some_iff.1 h2).1 (fun e => ?_)]
      · exact h2
      · obtain ⟨_, o, ho, hc⟩ := hr Bx e.symm
        rw [h2] at ho; cases ho; cases hc) ?assign ?body ?done ?stop
  case assign =>
    rintro l pre x W K ⟨⟨hi1, hi2⟩, hi3, hi4⟩ hK
    have hbA : Below W.heap.size W (W.alloc (.cells #[.int .i64 x.1.2.1.1, .int .i64 x.1.2.1.2, .int .i64 x.1.2.2.1, .int .i64 x.1.2.2.2] 41)) := nb_alloc (Below.refl _ _) _
    gi_wp2
    refine hK _ _ ((KeepsOthers.alloc _ _).from _) ⟨hbA.size, fun k e => hbA.block k ?_⟩ ⟨⟨?_, ?_⟩, nb_trans hi3 hbA, Nat.le_trans hi4 hbA.size⟩ ⟨W.heap.size, hi4, heap_alloc_new _ _, rfl⟩
    · rcases e with e | e
      · omega
      · have := hob k e; omega
    · rw [hbA.block _ (Array.getElem?_eq_some_iff.1 hi1).1]; exact hi1
    · obtain ⟨ks, f, hc⟩ := hi2; exact ⟨ks, f, hc.later hbA⟩
  case body =>
    rintro l pre ⟨⟨xi, ⟨c1, c2⟩, q1, q2⟩, hxo⟩ a' W hl ⟨r, hr⟩ ⟨⟨hi1, ks, f, hch⟩, hi3, hi4⟩ ⟨Bx, hBx, hx, rfl⟩ hlt
    dsimp only at hx hxo
    have hxl := (Array.getElem?_eq_some_iff.1 hx).1
    have h1l := (Array.getElem?_eq_some_iff.1 hi1).1
    have cm : W.cell? ⟨w.heap.size + 1, 0, none⟩ = some (.map (some w.heap.size)) := by rw [cell_of_row _ _ _ _ _ _ hi1]; rfl
    have k0 : W.cell? ⟨Bx, 0, none⟩ = some (.int .i64 c1) := by rw [cell_of_row _ _ _ _ _ _ hx]; rfl
    have k1 : W.cell? ⟨Bx, 1, none⟩ = some (.int .i64 c2) := by rw [cell_of_row _ _ _ _ _ _ hx]; rfl
    have k2 : W.cell? ⟨Bx, 2, none⟩ = some (.int .i64 q1) := by rw [cell_of_row _ _ _ _ _ _ hx]; rfl
    have k3 : W.cell? ⟨Bx, 3, none⟩ = some (.int .i64 q2) := by rw [cell_of_row _ _ _ _ _ _ hx]; rfl
    have hdl : (bondsOf pre).length < bs.length := by simp only [bondsOf, List.length_map]; exact hlt
    have hbX : Below W.heap.size W (W.alloc (.cells #[.int .i64 c1, .int .i64 c2] 34)) := nb_alloc (Below.refl _ _) _
    have hcX := hch.later hbX
    have hkl : ks.length < maxLen := by have := hch.len; unfold maxLen; omega
    obtain ⟨v0, st, w1, hme, hk1, hs1', hv, hst⟩ := hcX.map.entry Tryz.underlying169 zeroHands hkl (q1, q2) hxo.2
    dsimp only at hme
    have hs1 : w1.heap.size = W.heap.size + 1 := by rw [hs1']; simp
    have ho1 : OwnsF elHand w1 W0.heap.size 34 v0 (lstB (bondsOf pre) (q1, q2)) := (hcX.lookO hv).kept hk1 (fun k e => by have := (hcX.lookO hv).ge e; omega)
    have hnb : w1.heap[W.heap.size]? = some (.cells #[.int .i64 c1, .int .i64 c2] 34) := by rw [hk1.block _ (by simp) (by omega)]; exact heap_alloc_new _ _
    have hll := lstB_len (bondsOf pre) (q1, q2)
    have HCX := Lib.hid hcX
    have HHV := Lib.hid hv
    have HK1 := Lib.hid hk1
    have HST := Lib.hid hst
    have HI1 := Lib.hid hi1
    have HO1 := Lib.hid ho1
    have HBX := Lib.hid hbX
    have HI3 := Lib.hid hi3
    clear hcX hv hk1 hst hi1 ho1 hbX hch hx hr
    gi_wp2_with (first
      | (gi_at_builtin; refine wpListIn_append_own_at _ rfl _ _ 86 rfl W0.heap.size 34 i0 _ 2 16 Tryz.underlying86 hi hz0 hz1 hz2 rfl (by decide) _ (lstB (bondsOf pre) (q1, q2)).length ((lstB (bondsOf pre) (q1, q2)).flatMap elHand.enc) rfl HO1.out ⟨W.heap.size, 0, none⟩ 1 1 [.int .i64 c1, .int .i64 c2] rfl rfl (World.news_of_block hnb) (elHand.one (c1, c2)) (by unfold maxLen; omega) (by omega) (by omega) ?_; intro u w3 hown hgr hnil hat; obtain ⟨w4, ks', f', hes, hk4, hm4, hks', hf1, hf2⟩ := HST.out w3 u (hgr.block _ (by omega) (fun e => by have := HO1.out.ge e.symm; omega))))
    have kA : Kept (fun k => k = w.heap.size ∨ v0.ownBlock = some k) W (W.alloc (.cells #[.int .i64 c1, .int .i64 c2] 34)) := Kept.ofBelow HBX.out
    have kC : Kept (fun k => v0.ownBlock = some k) w1 w3 := Kept.grown hgr (fun k e => e)
    have kD : Kept (fun k => k = w.heap.size ∨ v0.ownBlock = some k) W w4 := ((kA.trans HK1.out (fun i e => .inl (.inl e))).trans kC (fun i e => .inl (.inr e))).trans hk4 (fun i e => .inl (.inl e))
    have hge : ∀ k, v0.ownBlock = some k → W0.heap.size ≤ k := fun k e => HO1.out.ge e
    have hstep := HCX.out.step (by omega) HK1.out hs1' HHV.out (OwnsF.snoc (x := (c1, c2)) hown) hgr hat hk4 hm4 hks' hf1 hf2
    refine ⟨keepsFrom_of kD (fun k o hB ho hc e => ?_), ⟨kD.size, fun k e => kD.block k ?_ (fun e2 => ?_)⟩, ⟨⟨?_, ks', f', ?_⟩, HI3.out.trans (kD.below HI3.out.size (fun k e => ?_)), by have := kD.size; omega⟩⟩
    · rcases e with e | e
      · omega
      · obtain ⟨cc, hcc⟩ := HO1.out.owns.isC e
        have hkW := (Array.getElem?_eq_some_iff.1 ho).1
        rw [HK1.out.block k (by simp; omega) (by omega), HBX.out.block k hkW, ho] at hcc
        cases hcc; cases hc
    · have := hSS k e; omega
    · rcases e2 with e2 | e2
      · rcases e with e | e
        · omega
        · have := hob k e; omega
      · have h1 := hge k e2
        have h2 := hSS k e
        omega
    · rw [kD.block _ h1l (fun e => by
        rcases e with e | e
        · omega
        · have := hge _ e; omega)]
      exact HI1.out
    · rw [show bondsOf (pre ++ [⟨(xi, (c1, c2), q1, q2), hxo⟩]) = bondsOf pre ++ [((c1, c2), (q1, q2))] by simp [bondsOf]]
      rw [← hsz0]; exact hstep
    · rcases e with e | e
      · omega
      · have := hge k e; have := hw0.size; omega
  case done =>
    rintro D ys W hD hS ⟨⟨hi1, ks, f, hch⟩, hi3, hi4⟩ hK
    have h1l := (Array.getElem?_eq_some_iff.1 hi1).1
    have cm : W.cell? ⟨w.heap.size + 1, 0, none⟩ = some (.map (some w.heap.size)) := by rw [cell_of_row _ _ _ _ _ _ hi1]; rfl
    have hgp := grownBy_putObj' W D (.deferred none)
    have hch9 := hch.turned hgp (fun r e => by cases e; exact ⟨hD, _, hK, rfl⟩) (by omega)
    rw [hS] at hch9
    have hB9 : Below w.heap.size w (W.putObj D (.deferred none)) := hi3.trans ((Kept.grown (F := fun i => i = D) hgp (fun i e => by cases e; rfl)).below hi3.size (fun i e => by have := hw0.size; omega))
    have HEND : Hid (KidsPost w bs (.returned (.map (some w.heap.size))) (W.putObj D (.deferred none))) := Lib.hid ⟨w.heap.size, W0.heap.size, rfl, Nat.le_refl _, by omega, Nat.le_trans hi4 hgp.size, ⟨ks, f, hch9⟩, hB9⟩
    gi_wp2
    refine ⟨by simp, .inl ⟨_, _, rfl, run_takeDeferred hK, ?_⟩⟩
    refine ⟨_, results_tmp rfl _ _ _, ?_⟩
    exact HEND.out
  case stop =>
    rintro D c pre W _ _ h _
    exact h.elim
end Go.Proofs.YtcmpaohefihijabGreatDoor

/- The contract of Under of package family. -/
namespace Go.Proofs.YtcmpaohefihijabGreatDoor
set_option maxRecDepth 8000
set_option maxRecDepth 8000
open Go.RowKit
variable {u : Value × Value × Value}

theorem cloneHd_new (w : World) (B : Nat) (h : B ≤ w.heap.size) : (w.alloc (.cells #[] 34)).ownsRow B 34 2 (.slice (some ⟨w.heap.size, 0, none⟩) 0 0) 0 [] :=
  ⟨rfl, .inr ⟨w.heap.size, 0, #[], rfl, h, heap_alloc_new w _, Nat.le_refl _, by unfold maxLen; omega, rfl, rfl⟩⟩
set_option maxHeartbeats 1000000 in
theorem cloneHd_any (v : Value) (xs : List (Int × Int)) (w : World) (h : OwnsF elHand w 0 34 v xs) (hl : xs.length * 16 ≤ 140737488355328) :
    Calls Tryz.prog 96 #[v] w fun e w' => ∃ v', e = .returned v' ∧ OwnsF elHand w' w.heap.size 34 v' xs ∧ Below w.heap.size w w' := by
  obtain ⟨i0, hi, hz0, hz1, hz2⟩ := info_parts infoHand
  have HR := Lib.hid h.reads
  rcases h.owns.form with ⟨rfl, rfl⟩ | ⟨g, cap, cur, rfl, hh, hg, hn, hcap, hsz⟩
  · have heq : ∀ x : World, (binOp .eql 86 (.slice none 0 0) (.slice none 0 0)).run Tryz.prog x = .ok (.bool true) x := fun x => Lib.run_eql_slice_nil x 86 _ none 0 0 0 0 Tryz.underlying86
    go_enter Tryz.func96, Tryz.ntmps96
    go_wp2
    go_ret
    exact ⟨_, rfl, OwnsF.nil _ _ _ _, Below.refl _ _⟩
  · have HH := Lib.hid h
    have HC : Hid (∀ X, Below w.heap.size w X → ∀ j u, (xs.flatMap elHand.enc)[j]? = some u → X.cell? ((⟨g, 0, none⟩ : Addr).add j) = some u) := Lib.hid (fun X hX j u hu => by
      rw [addr_add', Nat.zero_add, hX.cell (p := ⟨g, j, none⟩) hg, World.ownsRow.cellAt h.owns j (by have := (List.getElem?_eq_some_iff.1 hu).1; rwa [length_enc] at this)]
      exact hu)
    have HL := Lib.hid hl
    have HL2 : Hid (xs.length ≤ maxLen) := Lib.hid (Nat.le_trans hn hcap)
    have heq : ∀ x : World, (binOp .eql 86 (.slice (some ⟨g, 0, none⟩) xs.length cap) (.slice none 0 0)).run Tryz.prog x = .ok (.bool false) x := fun x => Lib.run_eql_slice_nil x 86 _ (some ⟨g, 0, none⟩) xs.length cap 0 0 Tryz.underlying86
    clear h hh
    go_enter Tryz.func96, Tryz.ntmps96
    go_wp2_with (first | (at_builtin; refine wpList_append_own _ rfl _ _ 86 rfl w.heap.size 34 i0 (.agg #[.int .i64 0, .int .i64 0]) 2 16 Tryz.underlying86 hi hz0 hz1 hz2 rfl (by decide) _ 0 [] rfl (cloneHd_new w w.heap.size (Nat.le_refl _)) ⟨g, 0, none⟩ xs.length cap (xs.flatMap elHand.enc) rfl (length_enc elHand xs) (HC.out _ (nb_alloc (Below.refl _ _) _)) (by intro u hu; obtain ⟨x, _, hx⟩ := List.mem_flatMap.1 hu; exact elHand.one x u hx) (by rw [Nat.zero_add]; exact HL2.out) (by rw [Nat.zero_add]; exact HL.out) (by simp) ?_))
    intro v' w2 hown hgr _
    have HB2 : Hid (Below w.heap.size w w2) := Lib.hid ((nb_alloc (Below.refl _ _) _).grown hgr (by simp) (fun j hj => by simp [Value.ownBlock] at hj; omega))
    have HO2 : Hid (OwnsF elHand w2 w.heap.size 34 v' xs) := Lib.hid (hown)
    clear hown hgr
    go_wp2
    go_ret
    exact ⟨_, rfl, HO2.out, HB2.out⟩


theorem OwnsF.cutTo' {α : Type} {E : El α} {w : World} {B : Nat} {T : TypeId} {g n cap t : Nat} {xs : List α} (h : OwnsF E w B T (.slice (some ⟨g, 0, none⟩) n cap) xs) (ht : t ≤ xs.length) : OwnsF E w B T (.slice (some ⟨g, 0, none⟩) t cap) (xs.take t) := by
  have hft : ∀ (xs : List α) (t : Nat), (xs.take t).flatMap E.enc = (xs.flatMap E.enc).take (t * E.size) := fun xs => by
    induction xs with
    | nil => intro t; simp
    | cons x xs ih =>
      intro t
      cases t with
      | zero => simp
      | succ t => rw [List.take_succ_cons, List.flatMap_cons, List.flatMap_cons, ih t, List.take_append, E.len, show (t + 1) * E.size - E.size = t * E.size by rw [Nat.add_mul]; omega, List.take_of_length_le (l := E.enc x) (by rw [E.len, Nat.add_mul]; omega)]
  have hlen : (xs.take t).length = t := by rw [List.length_take]; omega
  rcases h.2 with ⟨e, _⟩ | ⟨g', cap', cur, e, hb, hh, hn, hc, hsz, htk⟩
  · cases e
  · simp only [Value.slice.injEq, Option.some.injEq, Addr.mk.injEq, and_true] at e
    obtain ⟨rfl, rfl, rfl⟩ := e
    refine ⟨?_, .inr ⟨g, cap, cur, by rw [hlen], hb, hh, by rw [hlen]; omega, hc, hsz, ?_⟩⟩
    · rw [length_enc, hlen]
    · rw [hlen, hft, ← htk, List.take_take, Nat.min_eq_left (Nat.mul_le_mul_right _ ht)]
theorem nil_or_snoc {α : Type} (l : List α) : l = [] ∨ ∃ s x, l = s ++ [x] := by
  rcases List.eq_nil_or_concat l with h | ⟨s, x, h⟩
  · exact .inl h
  · exact .inr ⟨s, x, by rw [h, List.concat_eq_append]⟩
def lenV : Value → Nat
  | .slice _ n _ => n
  | _ => 0
theorem stack_step {bs : List Bd} {d : Hd → Nat} {M : Nat} (ha : AcyBy bs d M) {out s : List Hd} {nx h : Hd} (e : out ++ (s ++ [nx]).reverse.flatMap (fun c => c :: under bs M c) = under bs M h) :
    (out ++ [nx]) ++ (s ++ (kids bs nx).reverse).reverse.flatMap (fun c => c :: under bs M c) = under bs M h := by
  rw [← e, List.reverse_append, List.reverse_reverse, List.flatMap_append, List.reverse_append]
  simp only [List.reverse_cons, List.reverse_nil, List.nil_append, List.flatMap_cons, List.append_assoc, List.cons_append]
  rw [ha.under_eq nx]
theorem flat_len (g : Hd → List Hd) : ∀ s : List Hd, s.length ≤ (s.flatMap (fun c => c :: g c)).length
  | [] => by simp
  | x :: s => by rw [List.flatMap_cons, List.length_append, List.length_cons, List.length_cons]; have := flat_len g s; omega

set_option maxHeartbeats 4000000 in
theorem famUnder_any (p : Nat) (F : Nat → Prop) (bs : List Bd) (d : Hd → Nat) (M : Nat) (a b : Int) (w : World) (h : FamIn u w p F bs) (ok : FOk bs) (ha : AcyBy bs d M) (hab : okH (a, b)) (hn : bs.length * 32 ≤ 140737488355328) :
    Calls Tryz.prog 59 #[.pointer (some ⟨p, 3, none⟩), .agg #[.int .i64 a, .int .i64 b]] w (HandsPost w (under bs M (a, b))) := by
  obtain ⟨i0, hi, hz0, hz1, hz2⟩ := info_parts infoHand
  have hX : Below w.heap.size w (w.alloc (.cells #[.int .i64 a, .int .i64 b] 34)) := nb_alloc (Below.refl _ _) _
  have HX := Lib.hid hX
  have HXB : Hid ((w.alloc (.cells #[.int .i64 a, .int .i64 b] 34)).heap[w.heap.size]? = some (.cells #[.int .i64 a, .int .i64 b] 34)) := Lib.hid (heap_alloc_new _ _)
  have HW := Lib.hid (h.later hX)
  have HOK := Lib.hid ok
  have HAC := Lib.hid ha
  have HN := Lib.hid hn
  have HUL := Lib.hid (ha.under_len ok.sorted (a, b))
  have HUE := Lib.hid (ha.under_eq (a, b))
  obtain ⟨U, hU⟩ : ∃ U, under bs M (a, b) = U := ⟨_, rfl⟩
  rw [hU] at HUL HUE
  have HUO : Hid (∀ x ∈ U, okH x) := Lib.hid (fun x hx => by
    rw [← hU] at hx
    cases ha.in_under.1 hx with
    | base hb => exact (ok.ok _ hb).1
    | step hb _ => exact (ok.ok _ hb).1)
  have HU := Lib.hid hU
  clear h ok ha hX
  rw [hU]
  clear hU
  go_enter Tryz.func59, Tryz.ntmps59
  go_wp2_with fail
  generalize (w.alloc (.cells #[.int .i64 a, .int .i64 b] 34)) = X at *
  refine (famKids_any p F bs _ HW.out HOK.out HN.out).mono ?_
  rintro e w2 ⟨mb, B, rfl, hmb, hmB, hB2, ⟨ks, f, hch⟩, hb2⟩
  have hxl := (Array.getElem?_eq_some_iff.1 HXB.out).1
  have hx2 : w2.heap[w.heap.size]? = some (.cells #[.int .i64 a, .int .i64 b] 34) := by rw [hb2.block _ hxl]; exact HXB.out
  have hx2l := (Array.getElem?_eq_some_iff.1 hx2).1
  obtain ⟨k0, k1⟩ := hCells (a := a) (b := b) hx2
  obtain ⟨v1, hlk, ho1, -⟩ := hch.lookR (a, b) hab
  rw [lstB_rev] at ho1
  have hlk2 := hlk w2 rfl
  have HO1 := Lib.hid ho1
  have HCH := Lib.hid hch
  have HB2 := Lib.hid (nb_trans HX.out hb2)
  have HMB : Hid (mb < w2.heap.size) := Lib.hid (by omega)
  have HKU : Hid ((kids bs (a, b)).reverse.length ≤ U.length) := Lib.hid (by rw [HUE.out, List.length_reverse]; exact flat_len _ _)
  clear hlk hch ho1 hb2 hx2
  dsimp only at hlk2
  go_wp2_with fail
  refine (cloneHd_any v1 _ _ (HO1.out.weaken (Nat.zero_le _)) (by have := HKU.out; have := HUL.out; have := HN.out; omega)).mono ?_
  rintro e w3 ⟨vs, rfl, hos, hb3⟩
  have HOS := Lib.hid hos
  have HB3 := Lib.hid hb3
  clear hos hb3 hlk2 k0 k1
  go_wp2
  go_loopw [6, 7] (fun v6 v7 wr => ∃ (stk out : List Hd), Hid (OwnsF elHand wr w2.heap.size 34 v6 stk) ∧ Hid (OwnsF elHand wr w2.heap.size 34 v7 out) ∧ Hid (∀ k, v6.ownBlock = some k → v7.ownBlock ≠ some k) ∧ Hid (out ++ stk.reverse.flatMap (fun c => c :: under bs M c) = U) ∧ Hid (Below w2.heap.size w2 wr)) (fun _ v7 _ => U.length - lenV v7)
  case atStart => exact ⟨_, [], HOS, OwnsF.nil _ _ _ _, Lib.hid (fun k _ => by simp [Value.ownBlock]), Lib.hid (by rw [List.nil_append, List.reverse_reverse]; exact HUE.out.symm), HB3⟩
  case round =>
    obtain ⟨stk, out, hS, hO, hap, heq, hB⟩ := hrel
    rcases nil_or_snoc stk with rfl | ⟨s, nx, rfl⟩
    · have HE : Hid (out = U) := Lib.hid (by have := heq.out; simpa using this)
      rw [HE.out] at hO
      obtain ⟨a6, c6, rfl, -⟩ := hS.out.reads
      simp only [List.length_nil]
      go_wp2
      go_ret
      exact ⟨_, rfl, hO.out.weaken (by have := HB2.out.size; omega), nb_trans HB2.out hB.out⟩
    · have HNX := Lib.hid (stack_step HAC.out (by rw [HU.out]; exact heq.out))
      rw [HU.out] at HNX
      have hlen := congrArg List.length heq.out
      have hfl := flat_len (under bs M) (s ++ [nx]).reverse
      have hlen2 := congrArg List.length HNX.out
      have hfl2 := flat_len (under bs M) (s ++ (kids bs nx).reverse).reverse
      simp only [List.length_append, List.length_reverse, List.length_cons, List.length_nil] at hlen hfl hlen2 hfl2
      have hul := HUL.out
      have hnn := HN.out
      have hL1 : out.length + s.length + 1 ≤ U.length := by omega
      have hL2 : out.length + 1 + s.length + (kids bs nx).reverse.length ≤ U.length := by rw [List.length_reverse]; omega
      clear hlen hfl hlen2 hfl2
      have hnxU : nx ∈ U := by rw [← HNX.out]; simp
      obtain ⟨n1, n2⟩ := nx
      obtain ⟨g, cap, rfl, hgw, hml, c0, c1, -⟩ := hS.out.owns.open2 rfl (k := s.length) (by simp)
      have eg : (s ++ [(n1, n2)]).getD s.length elHand.zero = (n1, n2) := by rw [List.getD_eq_getElem?_getD, List.getElem?_append_right (Nat.le_refl _)]; simp
      rw [eg] at c0 c1
      replace c0 : wr.cell? ⟨g, s.length * 2, none⟩ = some (.int .i64 n1) := c0
      replace c1 : wr.cell? ⟨g, s.length * 2 + 1, none⟩ = some (.int .i64 n2) := c1
      have hSc := hS.out.cutTo' (t := s.length) (by simp)
      rw [List.take_left' rfl] at hSc
      obtain ⟨v2, hlk, ho2, hv2⟩ := HCH.out.lookR (n1, n2) (HUO.out _ hnxU)
      rw [lstB_rev] at ho2 hv2
      obtain ⟨ol, hol⟩ : ∃ ol, out.length = ol := ⟨_, rfl⟩
      obtain ⟨a7, c7, e7, -⟩ := hO.out.reads
      obtain ⟨m, hm⟩ : ∃ m, s.length = m := ⟨_, rfl⟩
      obtain ⟨cs, hcs⟩ : ∃ cs, (kids bs (n1, n2)).reverse = cs := ⟨_, rfl⟩
      rw [hm] at hL1 hL2 c0 c1 hSc
      rw [hcs] at ho2 hv2 HNX hL2
      have es : (s ++ [(n1, n2)]).length = m + 1 := by rw [List.length_append, hm]; rfl
      rw [es] at hml ⊢
      have HSC : Hid (OwnsF elHand wr w2.heap.size 34 (.slice (some ⟨g, 0, none⟩) m cap) s) := Lib.hid hSc
      have HG : Hid (w2.heap.size ≤ g) := Lib.hid (hS.out.ge rfl)
      have HLK := Lib.hid hlk
      have HO2 := Lib.hid ho2
      have HV2 := Lib.hid hv2
      have HMS := Lib.hid hm
      have HOL := Lib.hid hol
      rw [hol] at hL1 hL2
      have HXN : Hid ((wr.alloc (.cells #[.int .i64 n1, .int .i64 n2] 34)).heap[wr.heap.size]? = some (.cells #[.int .i64 n1, .int .i64 n2] 34)) := Lib.hid (heap_alloc_new _ _)
      have HBN : Hid (Below wr.heap.size wr (wr.alloc (.cells #[.int .i64 n1, .int .i64 n2] 34))) := Lib.hid (nb_alloc (Below.refl _ _) _)
      subst e7
      rw [hol] at hO hap ⊢
      unfold maxLen at hml
      clear hSc hlk ho2 hv2 eg hcs es hol hm hS
      have HOA : Hid (OwnsF elHand ((wr.alloc (.cells #[.int .i64 n1, .int .i64 n2] 34)).alloc (.cells #[.int .i64 n1, .int .i64 n2] 34)) w2.heap.size 34 (.slice a7 ol c7) out) := Lib.hid (hO.out.later (nb_alloc (nb_alloc (Below.refl _ _) _) _))
      have HOAR := Lib.hid (show World.ownsRow _ w2.heap.size 34 2 (.slice a7 ol c7) ol (out.flatMap elHand.enc) from by have := HOA.out; unfold OwnsF at this; rw [HOL.out] at this; exact this)
      have HBA : Hid (Below wr.heap.size wr ((wr.alloc (.cells #[.int .i64 n1, .int .i64 n2] 34)).alloc (.cells #[.int .i64 n1, .int .i64 n2] 34))) := Lib.hid (nb_alloc (nb_alloc (Below.refl _ _) _) _)
      have HSA : Hid (((wr.alloc (.cells #[.int .i64 n1, .int .i64 n2] 34)).alloc (.cells #[.int .i64 n1, .int .i64 n2] 34)).heap.size = wr.heap.size + 2) := Lib.hid (by simp)
      have hbsz := hB.out.size
      have HNA : Hid (((wr.alloc (.cells #[.int .i64 n1, .int .i64 n2] 34)).alloc (.cells #[.int .i64 n1, .int .i64 n2] 34)).heap[wr.heap.size + 1]? = some (.cells #[.int .i64 n1, .int .i64 n2] 34)) := Lib.hid (heap_alloc2_new _ _ _)
      have HNO : Hid (((wr.alloc (.cells #[.int .i64 n1, .int .i64 n2] 34)).alloc (.cells #[.int .i64 n1, .int .i64 n2] 34)).heap[wr.heap.size]? = some (.cells #[.int .i64 n1, .int .i64 n2] 34)) := Lib.hid (heap_alloc2_old _ _ _)
      go_wp2_with (first | (at_builtin; refine wpList_append_lies _ rfl _ _ 86 rfl w2.heap.size 34 i0 _ 2 16 Tryz.underlying86 hi hz0 hz1 hz2 rfl (by decide) _ ol (out.flatMap elHand.enc) rfl HOAR.out ⟨wr.heap.size + 1, 0, none⟩ 1 1 [.int .i64 n1, .int .i64 n2] rfl rfl (World.news_of_block HNA.out) (elHand.one (n1, n2)) (by decide) ?d3 ?d4 ?d5 (wr.heap.size + 2) ?d6 ?_))
      case d3 => unfold maxLen; omega
      case d4 => omega
      case d5 => omega
      intro g7 cap7 w5 hown hgr hat hg7
      have HGO : Hid (OwnsF elHand w5 w2.heap.size 34 (.slice (some ⟨g7, 0, none⟩) (ol + 1) cap7) (out ++ [(n1, n2)])) := Lib.hid (by
        have := OwnsF.snoc (E := elHand) (xs := out) (x := (n1, n2)) (by rw [HOL.out]; exact hown)
        exact this)
      have hk5 : Kept (fun k => (Value.slice a7 ol c7).ownBlock = some k) wr w5 := (Kept.ofBelow HBA.out).trans (Kept.grown hgr (fun k e => e)) (fun _ e => .inl e)
      have hg7g : g7 ≠ g := by
        rcases hat with e | e
        · intro q; exact hap.out g rfl (by rw [e, q])
        · omega
      have HS5 : Hid (OwnsF elHand w5 w2.heap.size 34 (.slice (some ⟨g, 0, none⟩) m cap) s) := Lib.hid (HSC.out.kept hk5 (fun k e e2 => hap.out k e e2))
      have HB5 : Hid (Below w2.heap.size w2 w5) := Lib.hid (hB.out.trans (hk5.below hbsz (fun k e => hO.out.ge e)))
      have hx5 : w5.heap[wr.heap.size]? = some (.cells #[.int .i64 n1, .int .i64 n2] 34) := by rw [hgr.block _ (by rw [HSA.out]; omega) (fun e => by have := hO.out.lt e.symm; omega)]; exact HNO.out
      have hx5l := (Array.getElem?_eq_some_iff.1 hx5).1
      have hlk5 := HLK.out w5.drew (HB5.out.block mb HMB.out)
      obtain ⟨kk0, kk1⟩ := hCells (a := n1) (b := n2) hx5
      clear hown hgr hat hk5 hx5 c0 c1
      have hmc : m ≤ cap := by
        obtain ⟨_, _, e9, h9, -⟩ := HSC.out.reads
        simp only [Value.slice.injEq] at e9
        omega
      go_wp2_with fail
      go_still_tail 6, (by kernel_rfl)
      change wpList _ _ _ _ _ w5.drew
      clear hlk5 kk0 kk1
      have HSD := Lib.hid (show World.ownsRow w5.drew w2.heap.size 34 2 (.slice (some ⟨g, 0, none⟩) m cap) m (s.flatMap elHand.enc) from by have := HS5.out; unfold OwnsF at this; rw [HMS.out] at this; exact this)
      rcases HV2.out with ⟨rfl, hc0⟩ | hc0
      · have hap0 := fun ty => run_append_owned_none (P := Tryz.prog) (w := w5.drew) w2.heap.size 86 ty 34 i0 2 Tryz.underlying86 hi _ m _ HSD.out
        have HNX0 : Hid (out ++ [(n1, n2)] ++ s.reverse.flatMap (fun c => c :: under bs M c) = U) := Lib.hid (by have := HNX.out; rw [hc0, List.append_nil] at this; exact this)
        have HEND : Hid (OwnsF elHand w5.drew w2.heap.size 34 (.slice (some ⟨g, 0, none⟩) m cap) s ∧ OwnsF elHand w5.drew w2.heap.size 34 (.slice (some ⟨g7, 0, none⟩) (ol + 1) cap7) (out ++ [(n1, n2)]) ∧ Below w2.heap.size w2 w5.drew) := Lib.hid ⟨HS5.out, HGO.out, HB5.out.drew⟩
        go_wp2
        go_roundw
        case rel => exact ⟨s, out ++ [(n1, n2)], Lib.hid HEND.out.1, Lib.hid HEND.out.2.1, Lib.hid (fun k e => by simp [Value.ownBlock] at e ⊢; omega), HNX0, Lib.hid HEND.out.2.2⟩
        case measure => simp [lenV]; omega
      · rcases HO2.out.owns.form with ⟨-, e0⟩ | ⟨g2, cap2, cur2, rfl, hh2, hg2, hn2, hcap2, hsz2⟩
        · exact absurd e0 hc0
        · have hcp : 0 < cs.length := List.length_pos_iff.2 hc0
          have HC2 : Hid (∀ j u, (cs.flatMap elHand.enc)[j]? = some u → w5.drew.cell? ((⟨g2, 0, none⟩ : Addr).add j) = some u) := Lib.hid (fun j u hu => by
            rw [addr_add', Nat.zero_add, HB5.out.drew.cell (p := ⟨g2, j, none⟩) hg2, World.ownsRow.cellAt HO2.out.owns j (by have := (List.getElem?_eq_some_iff.1 hu).1; rwa [length_enc] at this)]
            exact hu)
          clear hh2 hsz2
          go_wp2_with (first | (at_builtin; refine wpList_append_lies _ rfl _ _ 86 rfl w2.heap.size 34 i0 _ 2 16 Tryz.underlying86 hi hz0 hz1 hz2 rfl (by decide) _ m (s.flatMap elHand.enc) rfl HSD.out ⟨g2, 0, none⟩ cs.length cap2 (cs.flatMap elHand.enc) rfl (length_enc elHand cs) HC2.out (by intro u hu; obtain ⟨x, _, hx⟩ := List.mem_flatMap.1 hu; exact elHand.one x u hx) hcp ?d3 ?d4 ?d5 w5.heap.size rfl ?_))
          case d3 => unfold maxLen; omega
          case d4 => omega
          case d5 => exact HB5.out.size
          intro g6 cap6 w6 hown hgr hat hg6
          have hk6 : Kept (fun k => k = g) w5 w6 := (Kept.drew (fun k => k = g) w5).trans (Kept.grown hgr (fun k e => by simp [Value.ownBlock] at e; omega)) (fun _ e => .inl e)
          have hg67 : g6 ≠ g7 := by
            rcases hat with e | e
            · simp [Value.ownBlock] at e; omega
            · omega
          have HEND : Hid (OwnsF elHand w6 w2.heap.size 34 (.slice (some ⟨g6, 0, none⟩) (m + cs.length) cap6) (s ++ cs) ∧ OwnsF elHand w6 w2.heap.size 34 (.slice (some ⟨g7, 0, none⟩) (ol + 1) cap7) (out ++ [(n1, n2)]) ∧ Below w2.heap.size w2 w6) := Lib.hid ⟨by
            unfold OwnsF; rw [List.flatMap_append, List.length_append, HMS.out]; exact hown, HGO.out.kept hk6 (fun k e => by simp [Value.ownBlock] at e; omega), HB5.out.trans (hk6.below HB5.out.size (fun k e => by rw [e]; exact HG.out))⟩
          clear hown hgr hat hk6
          go_wp2
          go_roundw
          case rel => exact ⟨s ++ cs, out ++ [(n1, n2)], Lib.hid HEND.out.1, Lib.hid HEND.out.2.1, Lib.hid (fun k e => by simp [Value.ownBlock] at e ⊢; omega), HNX, Lib.hid HEND.out.2.2⟩
          case measure => simp [lenV]; omega
end Go.Proofs.YtcmpaohefihijabGreatDoor

/- Contracts of package family with what they return as letters. -/
namespace Go.Proofs.YtcmpaohefihijabGreatDoor
set_option maxRecDepth 8000
set_option maxRecDepth 8000
open Go.RowKit
variable {u : Value × Value × Value}

theorem famUnder_at (p : Nat) (F : Nat → Prop) (bs : List Bd) (a b : Int) (U : List Hd) (hU : ∃ d M, AcyBy bs d M ∧ under bs M (a, b) = U) (w : World) (h : FamIn u w p F bs) (ok : FOk bs) (hab : okH (a, b)) (hn : bs.length * 32 ≤ 140737488355328) :
    Calls Tryz.prog 59 #[.pointer (some ⟨p, 3, none⟩), .agg #[.int .i64 a, .int .i64 b]] w (HandsPost w U) := by
  obtain ⟨d, M, ha, rfl⟩ := hU
  exact famUnder_any p F bs d M a b w h ok ha hab hn
theorem FOk.undAt {bs : List Bd} (h : FOk bs) (x : Hd) : ∃ U : List Hd, (∃ d M, AcyBy bs d M ∧ under bs M x = U) ∧ ∀ y, y ∈ U ↔ Und bs y x := by
  obtain ⟨d, M, ha⟩ := h.acy
  exact ⟨_, ⟨d, M, ha, rfl⟩, fun y => ha.in_under⟩
end Go.Proofs.YtcmpaohefihijabGreatDoor

/- The program's family in memory: its map of parents; the contracts of New, Parent and Loosen. -/
import Derived.Test.YtlclceiebnnpgaaFamModel
import Derived.Test.YtlclceiebnnpgaaGroundA
import Derived.StillTailTactics
namespace Go.Proofs.Ytlclceiebnnpgaa
set_option maxRecDepth 8000
open Go.RowKit

theorem nbf_set {B : Nat} {a w : World} (h : Below B a w) (b j : Nat) (v : Value) (hb : B ≤ b) : Below B a (w.setCell ⟨b, j, none⟩ v) := h.setCell (p := ⟨b, j, none⟩) hb v

theorem zeroHand (w : World) : (zeroValue 38).run Try.prog w = .ok (.agg #[.int .i64 0, .int .i64 0]) w := by kernel_rfl
/-- The map's keys and values are just these bonds. -/
structure MapB (ks : List Hd) (f : Hd → Value) (bs : List Bd) : Prop where
  some_ : ∀ c ∈ ks, ∃ p, (c, p) ∈ bs
  val : ∀ c p, (c, p) ∈ bs → c ∈ ks ∧ f c = .agg #[.int .i64 p.1, .int .i64 p.2]
/-- At block p lies a family with these bonds, in the blocks F. -/
structure FamIs (w : World) (p : Nat) (F : Nat → Prop) (vm : Value) (bs : List Bd) : Prop where
  block : w.heap[p]? = some (.cells #[vm] 63 (0, 0))
  map : (vm = .map none ∧ bs = []) ∨ ∃ b ks f, vm = .map (some b) ∧ MapIs kHand w b ks.length ks f ∧ MapB ks f bs ∧ F b ∧ b ≠ p
  at_ : F p
  lt : ∀ b, F b → b < w.heap.size
def FamAt (w : World) (p : Nat) (F : Nat → Prop) (bs : List Bd) : Prop := ∃ vm, FamIs w p F vm bs

section
variable {w w' : World} {p : Nat} {F : Nat → Prop} {vm : Value} {bs : List Bd}
theorem FamIs.kept {G : Nat → Prop} (h : FamIs w p F vm bs) (hk : Kept G w w') (hf : ∀ b, F b → ¬ G b) : FamIs w' p F vm bs := by
  refine ⟨by rw [hk.block p (h.lt p h.at_) (hf p h.at_)]; exact h.block, ?_, h.at_, fun b hb => Nat.lt_of_lt_of_le (h.lt b hb) hk.size⟩
  rcases h.map with h1 | ⟨b, ks, f, e, hm, hb, hF, hne⟩
  · exact .inl h1
  · exact .inr ⟨b, ks, f, e, hm.kept hk (hf b hF), hb, hF, hne⟩
theorem FamIs.later (h : FamIs w p F vm bs) (hb : Below w.heap.size w w') : FamIs w' p F vm bs := h.kept (G := fun _ => False) (Kept.ofBelow hb) (fun _ _ => id)
theorem FamIs.cell (h : FamIs w p F vm bs) : w.cell? ⟨p, 0, none⟩ = some vm := by rw [cell_of_row _ _ _ _ _ _ h.block]; rfl
theorem FamIs.frozen (h : FamIs w p F vm bs) : w.frozen? ⟨p, 0, none⟩ = false := frozen_of_row _ _ _ _ _ h.block
theorem FamIs.plt (h : FamIs w p F vm bs) : p < w.heap.size := h.lt p h.at_
theorem FamAt.kept {G : Nat → Prop} (h : FamAt w p F bs) (hk : Kept G w w') (hf : ∀ b, F b → ¬ G b) : FamAt w' p F bs := by obtain ⟨vm, h⟩ := h; exact ⟨vm, h.kept hk hf⟩
theorem FamAt.later (h : FamAt w p F bs) (hb : Below w.heap.size w w') : FamAt w' p F bs := by obtain ⟨vm, h⟩ := h; exact ⟨vm, h.later hb⟩
theorem FamAt.lt (h : FamAt w p F bs) : ∀ b, F b → b < w.heap.size := by obtain ⟨vm, h⟩ := h; exact h.lt
theorem FamAt.at_ (h : FamAt w p F bs) : F p := by obtain ⟨vm, h⟩ := h; exact h.at_
theorem FamAt.new (w : World) : FamAt (w.alloc (.cells #[.map none] 63)) w.heap.size (fun b => b = w.heap.size) [] :=
  ⟨_, heap_alloc_new w _, .inl ⟨rfl, rfl⟩, rfl, fun b e => by simp [e]⟩
/-- 'p, ok := f.parents[c]' -/
theorem FamIs.look (h : FamIs w p F vm bs) (hs : SortedB bs) (a b : Int) (ha : I64r a) (hb : I64r b) :
    (Instr.lookup 61 vm (.agg #[.int .i64 a, .int .i64 b]) true).run Try.prog w = .ok (.tuple #[.agg #[.int .i64 (parB bs (a, b)).1, .int .i64 (parB bs (a, b)).2], .bool (hasP bs (a, b))]) w := by
  rcases h.map with ⟨rfl, rfl⟩ | ⟨bb, ks, f, rfl, hm, hB, _⟩
  · have := Maps.look_nil (w := w) true kHand.law Try.underlying61 (zeroHand w) (kHand.key (a, b) ⟨ha, hb⟩)
    simpa [kHand, hasP, parB] using this
  · have := hm.look2 Try.underlying61 (zeroHand w) (a, b) ⟨ha, hb⟩
    by_cases hc : (a, b) ∈ ks
    · obtain ⟨q, hq⟩ := hB.some_ _ hc
      obtain ⟨e1, e2⟩ := parB_of hs hq
      rw [e1, e2]
      rw [if_pos hc, (hB.val _ _ hq).2] at this
      simpa [hc, kHand] using this
    · have hn : hasP bs (a, b) = false := hasP_no (fun q hq => hc (hB.val _ _ hq).1)
      rw [hn, (hasP_none hn).1]
      rw [if_neg hc] at this
      simpa [hc, kHand] using this
end

set_option maxHeartbeats 400000 in
theorem famNew_any (w : World) : Calls Try.prog 8 #[] w fun e w' => e = .returned (.pointer (some ⟨w.heap.size, 0, none⟩)) ∧ w.alloc (.cells #[.map none] 63) = w' := by
  go_enter Try.func8, Try.ntmps8
  go_wp2
  go_ret
  exact ⟨rfl, rfl⟩

set_option maxHeartbeats 2000000 in
theorem famParent_any (p : Nat) (F : Nat → Prop) (bs : List Bd) (a b c d : Int) (g : Bool) (w : World) (h : FamAt w p F bs) (hs : SortedB bs) (ha : I64r a) (hb : I64r b) (hq : parB bs (a, b) = (c, d)) (hg : hasP bs (a, b) = g) :
    Calls Try.prog 12 #[.pointer (some ⟨p, 0, none⟩), .agg #[.int .i64 a, .int .i64 b]] w fun e w' => e = .returned (.tuple #[.agg #[.int .i64 c, .int .i64 d], .bool g]) ∧ Below w.heap.size w w' := by
  obtain ⟨vm, h⟩ := h
  have hlook := fun (Y : World) (hY : Below w.heap.size w Y) => (h.later hY).look hs a b ha hb
  rw [hq, hg] at hlook
  have hX : Below w.heap.size w ((w.alloc (.cells #[.int .i64 a, .int .i64 b] 38)).alloc (.cells #[.int .i64 0, .int .i64 0] 38)) := nb_alloc (nb_alloc (Below.refl _ _) _) _
  have hsz : ((w.alloc (.cells #[.int .i64 a, .int .i64 b] 38)).alloc (.cells #[.int .i64 0, .int .i64 0] 38)).heap.size = w.heap.size + 2 := by simp
  have hbb : ((w.alloc (.cells #[.int .i64 a, .int .i64 b] 38)).alloc (.cells #[.int .i64 0, .int .i64 0] 38)).heap[w.heap.size + 1]? = some (.cells #[.int .i64 0, .int .i64 0] 38) := heap_alloc2_new _ _ _
  have hhb : ((w.alloc (.cells #[.int .i64 a, .int .i64 b] 38)).alloc (.cells #[.int .i64 0, .int .i64 0] 38)).heap[w.heap.size]? = some (.cells #[.int .i64 a, .int .i64 b] 38) := heap_alloc2_old _ _ _
  have HX := Lib.hid hX
  have HL := Lib.hid hlook
  have HW := Lib.hid (h.later hX)
  clear h hX hlook hs hq hg
  go_enter Try.func12, Try.ntmps12
  go_wp2_with fail
  generalize ((w.alloc (.cells #[.int .i64 a, .int .i64 b] 38)).alloc (.cells #[.int .i64 0, .int .i64 0] 38)) = X at *
  have c2 := HW.out.cell
  have hpl := HW.out.plt
  have kh0 : X.cell? ⟨w.heap.size, 0, none⟩ = some (.int .i64 a) := by rw [cell_of_row _ _ _ _ _ _ hhb]; rfl
  have kh1 : X.cell? ⟨w.heap.size, 1, none⟩ = some (.int .i64 b) := by rw [cell_of_row _ _ _ _ _ _ hhb]; rfl
  have hlk := HL.out X.drew HX.out.drew
  have hlk1 := HL.out (X.alloc (.cells #[.int .i64 0, .int .i64 0] 38)).drew (nb_alloc HX.out _).drew
  have fz : ∀ j, X.frozen? ⟨w.heap.size + 1, j, none⟩ = false := fun j => frozen_of_row _ _ _ _ _ hbb
  have hbl : w.heap.size + 1 < X.heap.size := by omega
  have hhl : w.heap.size < X.heap.size := by omega
  have k0 : X.cell? ⟨w.heap.size + 1, 0, none⟩ = some (.int .i64 0) := by rw [cell_of_row _ _ _ _ _ _ hbb]; rfl
  have k1 : X.cell? ⟨w.heap.size + 1, 1, none⟩ = some (.int .i64 0) := by rw [cell_of_row _ _ _ _ _ _ hbb]; rfl
  clear hhb hsz hbb HW HL
  go_region
  all_goals
    clear hlk hlk1 kh0 kh1 c2
    go_wp2
    refine bodyPost_ret (v := .tuple #[.agg #[.int .i64 c, .int .i64 d], .bool g]) (by simp [results, Try.results12, go_sem, hbl, k0, k1]) rfl ⟨rfl, ?_⟩
    refine Below.drew ?_
    refine nb_alloc ?_ _
    iterate 2 (refine nbf_set ?_ _ _ _ (by omega))
    exact HX.out

/-- what Loosen returns -/
def looseE (bs : List Bd) (c : Hd) : Int := if hasP bs c then 0 else 5
theorem rmB_none {bs : List Bd} {c : Hd} (h : hasP bs c = false) : rmB bs c = bs := by
  unfold rmB
  rw [List.filter_eq_self]
  intro b hb
  rw [Bool.not_eq_true', decide_eq_false_iff_not]
  intro e
  exact (hasP_none h).2 b.2 (by rw [← e]; exact hb)
def LoosePost (w : World) (p : Nat) (F : Nat → Prop) (bs : List Bd) (c : Hd) (e : Ending) (w' : World) : Prop :=
  e = .returned (.int .i64 (looseE bs c)) ∧ FamAt w' p F (rmB bs c) ∧ Kept F w w'

set_option maxHeartbeats 2000000 in
theorem famLoosen_any (p : Nat) (F : Nat → Prop) (bs : List Bd) (a b : Int) (w : World) (h : FamAt w p F bs) (hs : SortedB bs) (ha : I64r a) (hb : I64r b) :
    Calls Try.prog 24 #[.pointer (some ⟨p, 0, none⟩), .agg #[.int .i64 a, .int .i64 b]] w (LoosePost w p F bs (a, b)) := by
  obtain ⟨vm, h⟩ := h
  have hlook := fun (Y : World) (hY : Below w.heap.size w Y) => (h.later hY).look hs a b ha hb
  obtain ⟨q, hq⟩ : ∃ q, parB bs (a, b) = q := ⟨_, rfl⟩
  obtain ⟨c, d⟩ := q
  have hX : Below w.heap.size w (w.alloc (.cells #[.int .i64 a, .int .i64 b] 38)) := nb_alloc (Below.refl _ _) _
  have hhb : (w.alloc (.cells #[.int .i64 a, .int .i64 b] 38)).heap[w.heap.size]? = some (.cells #[.int .i64 a, .int .i64 b] 38) := heap_alloc_new _ _
  have HX := Lib.hid hX
  have HW0 := Lib.hid h
  have HW := Lib.hid (h.later hX)
  have HS := Lib.hid hs
  have HAB : Hid (I64r a ∧ I64r b) := Lib.hid ⟨ha, hb⟩
  have hhl := (Array.getElem?_eq_some_iff.1 hhb).1
  cases hg : hasP bs (a, b)
  · rw [hq, hg] at hlook
    have HP : Hid (looseE bs (a, b) = 5 ∧ rmB bs (a, b) = bs) := Lib.hid ⟨by rw [looseE, hg]; rfl, rmB_none hg⟩
    have HL := Lib.hid hlook
    clear h hX hlook hs hq hg
    go_enter Try.func24, Try.ntmps24
    go_wp2_with fail
    generalize (w.alloc (.cells #[.int .i64 a, .int .i64 b] 38)) = X at *
    have c2 := HW.out.cell
    have hpl := HW.out.plt
    have kh0 : X.cell? ⟨w.heap.size, 0, none⟩ = some (.int .i64 a) := by rw [cell_of_row _ _ _ _ _ _ hhb]; rfl
    have kh1 : X.cell? ⟨w.heap.size, 1, none⟩ = some (.int .i64 b) := by rw [cell_of_row _ _ _ _ _ _ hhb]; rfl
    have hlk := HL.out X.drew HX.out.drew
    have hlk1 := HL.out (X.alloc (.cells #[.int .i64 0, .int .i64 0] 38)).drew (nb_alloc HX.out _).drew
    clear hhb HW HL
    go_region
    all_goals
      clear hlk hlk1 kh0 kh1 c2
      go_wp2
      go_ret
      exact ⟨by rw [HP.out.1]; rfl, by rw [HP.out.2]; exact ⟨vm, HW0.out.later (nb_alloc HX.out _).drew⟩, Kept.ofBelow (nb_alloc HX.out _).drew⟩
  · rw [hq, hg] at hlook
    have HP : Hid (looseE bs (a, b) = 0) := Lib.hid (by rw [looseE, hg]; rfl)
    obtain ⟨mb, ks, f, rfl, hm, hB, hF, hne⟩ : ∃ b ks f, vm = .map (some b) ∧ MapIs kHand w b ks.length ks f ∧ MapB ks f bs ∧ F b ∧ b ≠ p := by
      rcases h.map with ⟨_, rfl⟩ | hh
      · simp [hasP] at hg
      · exact hh
    have HL := Lib.hid hlook
    have HMI := Lib.hid hm
    have HB := Lib.hid hB
    have HF := Lib.hid hF
    have HNE := Lib.hid hne
    have HG := Lib.hid hg
    clear h hX hlook hs hq hg hm hB hF hne
    go_enter Try.func24, Try.ntmps24
    go_wp2_with fail
    generalize (w.alloc (.cells #[.int .i64 a, .int .i64 b] 38)) = X at *
    have c2 := HW.out.cell
    have hpl := HW.out.plt
    have kh0 : X.cell? ⟨w.heap.size, 0, none⟩ = some (.int .i64 a) := by rw [cell_of_row _ _ _ _ _ _ hhb]; rfl
    have kh1 : X.cell? ⟨w.heap.size, 1, none⟩ = some (.int .i64 b) := by rw [cell_of_row _ _ _ _ _ _ hhb]; rfl
    have hlk := HL.out X.drew HX.out.drew
    have hlk1 := HL.out (X.alloc (.cells #[.int .i64 0, .int .i64 0] 38)).drew (nb_alloc HX.out _).drew
    have HHB := Lib.hid hhb
    clear hhb HW HL
    go_region
    all_goals
      clear hlk hlk1 kh0 kh1 c2
      have HVX : Hid (Below w.heap.size w (X.alloc (.cells #[.int .i64 c, .int .i64 d] 38)).drew) := Lib.hid (nb_alloc HX.out _).drew
      have hb1 : (X.alloc (.cells #[.int .i64 c, .int .i64 d] 38)).drew.heap[w.heap.size]? = some (.cells #[.int .i64 a, .int .i64 b] 38) := (Below.heap_alloc X _ _ hhl).trans HHB.out
      generalize hV : (X.alloc (.cells #[.int .i64 c, .int .i64 d] 38)).drew = V at *
      clear hV hpl
      have cv := (HW0.out.later HVX.out).cell
      have hpl := (HW0.out.later HVX.out).plt
      have hvl : w.heap.size < V.heap.size := (Array.getElem?_eq_some_iff.1 hb1).1
      have lh0 : V.cell? ⟨w.heap.size, 0, none⟩ = some (.int .i64 a) := by rw [cell_of_row _ _ _ _ _ _ hb1]; rfl
      have lh1 : V.cell? ⟨w.heap.size, 1, none⟩ = some (.int .i64 b) := by rw [cell_of_row _ _ _ _ _ _ hb1]; rfl
      have HMP : Hid (MapIs kHand V.drew mb ks.length ks f) := Lib.hid ((HMI.out.later HVX.out).kept (Kept.drew (fun _ => False) _) id)
      clear hb1
      go_wp2_with fail
      go_still_tail 5, (by kernel_rfl)
      change wpList _ _ _ _ _ V.drew
      clear lh0 lh1 cv
      go_wp2_with (first | (at_delete; refine wpList_del_is (K := kHand) _ rfl _ _ 61 rfl 38 Try.underlying61 rfl HMP.out (a, b) HAB.out rfl ?_))
      intro w3 hmap3 hk3
      have hkw : Kept F w w3 := (Kept.ofBelow HVX.out.drew).trans hk3 (fun i e => .inl (by rw [e]; exact HF.out))
      have HEND : Hid (FamAt w3 p F (rmB bs (a, b)) ∧ Kept F w w3) := Lib.hid ⟨⟨.map (some mb), by
          rw [hk3.block p (HW0.out.later HVX.out.drew).plt (fun e => HNE.out e.symm)]; exact (HW0.out.later HVX.out.drew).block, .inr ⟨mb, _, f, rfl, hmap3.tight, ⟨fun x hx => ?_, fun x y hxy => ?_⟩, HF.out, HNE.out⟩, HW0.out.at_, fun i hi => Nat.lt_of_lt_of_le (HW0.out.lt i hi) hkw.size⟩, hkw⟩
      · clear hmap3 hk3 hkw
        go_wp2
        go_ret
        exact ⟨by rw [HP.out]; rfl, HEND.out.1, HEND.out.2⟩
      · obtain ⟨h1, h2⟩ := List.mem_filter.1 hx
        obtain ⟨y, hy⟩ := HB.out.some_ x h1
        exact ⟨y, mem_rmB.2 ⟨hy, by simpa using h2⟩⟩
      · obtain ⟨h1, h2⟩ := mem_rmB.1 hxy
        obtain ⟨e1, e2⟩ := HB.out.val x y h1
        exact ⟨List.mem_filter.2 ⟨e1, by simpa using h2⟩, e2⟩
end Go.Proofs.Ytlclceiebnnpgaa

/- The contract of selected of package family, with the literals of Bonds, Children and Gone; Bonds. -/
import Derived.Test.YtlclceiebnnpgaaFamSort
namespace Go.Proofs.Ytlclceiebnnpgaa
set_option maxRecDepth 8000
open Go.RowKit

theorem run_rangeB_nil (x : World) : (Instr.range 61 (.map none)).run Try.prog x = .ok (.pointer (some ⟨x.heap.size, 0, none⟩)) (x.alloc (.mapIter none 0 #[] 0)) := by
  simp only [Instr.range, Sem.run_bind, run_underlying Try.underlying61, Result.andThen]
  rfl
theorem run_nextB_nil {x : World} {r : Nat} (h : x.heap[r]? = some (.mapIter none 0 #[] 0)) (ty : TypeId) : (Instr.next (.pointer (some ⟨r, 0, none⟩)) false ty).run Try.prog x = .ok (.tuple #[.bool false]) x := by
  simp [Instr.next, getObj, Sem.run_bind, Sem.run, h, Result.andThen]

/-- What a loop over the bonds has picked: those that are wanted, of the children that have come. -/
structure PickB (bs : List Bd) (q : Bd → Bool) (todo : List Hd) (ys : List Bd) : Prop where
  sub : ∀ x ∈ ys, x ∈ bs ∧ x.1 ∉ todo ∧ q x = true
  all : ∀ x ∈ bs, x.1 ∉ todo → q x = true → x ∈ ys
  nd : (ys.map (·.1)).Nodup
theorem PickB.start {bs : List Bd} {q : Bd → Bool} {ks : List Hd} (h : ∀ c p, (c, p) ∈ bs → c ∈ ks) : PickB bs q ks [] :=
  ⟨by simp, fun x hx hn => absurd (h x.1 x.2 hx) hn, by simp⟩
theorem PickB.len {bs : List Bd} {q : Bd → Bool} {todo : List Hd} {ys : List Bd} (h : PickB bs q todo ys) : ys.length ≤ bs.length := by
  have := nodup_sub_len (ys := bs.map (·.1)) h.nd (fun x hx => by
    obtain ⟨y, hy, rfl⟩ := List.mem_map.1 hx
    exact List.mem_map.2 ⟨y, (h.sub y hy).1, rfl⟩)
  simpa using this
theorem PickB.skip {bs : List Bd} {q : Bd → Bool} {todo : List Hd} {ys : List Bd} (h : PickB bs q todo ys) (hs : SortedB bs) {c p : Hd} (hb : (c, p) ∈ bs) (hq : q (c, p) = false) : PickB bs q (todo.filter (fun y => !decide (y = c))) ys := by
  refine ⟨fun x hx => ⟨(h.sub x hx).1, fun hm => (h.sub x hx).2.1 (List.mem_filter.1 hm).1, (h.sub x hx).2.2⟩, fun x hx hn hqx => ?_, h.nd⟩
  by_cases e : x.1 = c
  · have e2 : x = (c, p) := Prod.ext e (hs.fn (c := c) (by rw [← e]; exact hx) hb)
    rw [e2, hq] at hqx; cases hqx
  · exact h.all x hx (fun hm => hn (List.mem_filter.2 ⟨hm, by simpa using e⟩)) hqx
theorem PickB.next {bs : List Bd} {q : Bd → Bool} {todo : List Hd} {ys : List Bd} (h : PickB bs q todo ys) (hs : SortedB bs) {c p : Hd} (hc : c ∈ todo) (hb : (c, p) ∈ bs) (hq : q (c, p) = true) : PickB bs q (todo.filter (fun y => !decide (y = c))) (ys ++ [(c, p)]) := by
  refine ⟨fun x hx => ?_, fun x hx hn hqx => ?_, ?_⟩
  · rcases List.mem_append.1 hx with hx | hx
    · exact ⟨(h.sub x hx).1, fun hm => (h.sub x hx).2.1 (List.mem_filter.1 hm).1, (h.sub x hx).2.2⟩
    · simp at hx; subst hx
      exact ⟨hb, fun hm => by have := (List.mem_filter.1 hm).2; simp at this, hq⟩
  · by_cases e : x.1 = c
    · have e2 : x = (c, p) := Prod.ext e (hs.fn (c := c) (by rw [← e]; exact hx) hb)
      rw [e2]; simp
    · exact List.mem_append_left _ (h.all x hx (fun hm => hn (List.mem_filter.2 ⟨hm, by simpa using e⟩)) hqx)
  · rw [List.map_append, List.nodup_append]
    refine ⟨h.nd, by simp, fun x hx y hy e => ?_⟩
    simp at hy
    obtain ⟨z, hz, rfl⟩ := List.mem_map.1 hx
    exact (h.sub z hz).2.1 (by rw [e, hy]; exact hc)
theorem PickB.done {bs : List Bd} {q : Bd → Bool} {ys zs : List Bd} (h : PickB bs q [] ys) (hs : SortedB bs) (hp : zs.Perm ys) (hz : zs.Pairwise (fun x y => ¬ hlt y.1 x.1)) : zs = bs.filter q := by
  refine SortedB.ext (SortedB.ofPerm ((hp.map (·.1)).nodup_iff.2 h.nd) hz) (hs.filter q) (fun b => ?_)
  rw [hp.mem_iff, List.mem_filter]
  exact ⟨fun hb => ⟨(h.sub b hb).1, (h.sub b hb).2.2⟩, fun hb => h.all b hb.1 (by simp) hb.2⟩
def SelPost (w : World) (xs : List Bd) (e : Ending) (w' : World) : Prop := ∃ v, e = .returned v ∧ OwnsF elBond w' w.heap.size 44 v xs ∧ Below w.heap.size w w'
theorem SelPost.sorted {w w4 w5 : World} {B : Nat} {v : Value} {xs zs : List Bd} (hz : zs = xs) (ho : OwnsF elBond w5 B 44 v zs) (hB : w.heap.size ≤ B) (hb : Below w.heap.size w w4) (hk : Kept (fun b => v.ownBlock = some b) w4 w5) : SelPost w xs (.returned v) w5 := by
  refine ⟨v, rfl, ?_, hb.trans (hk.below hb.size (fun k e => by have := ho.ge e; omega))⟩
  rw [← hz]
  exact ho.weaken hB

set_option maxHeartbeats 1000000 in
theorem bondsLit_any (x : Bd) (w : World) : Calls Try.prog 30 #[.agg #[.int .i64 x.1.1, .int .i64 x.1.2, .int .i64 x.2.1, .int .i64 x.2.2]] w fun e w' => e = .returned (.bool true) ∧ Below w.heap.size w w' := by
  have HX : Hid (∀ o, Below w.heap.size w (w.alloc o)) := Lib.hid (fun o => nb_alloc (Below.refl _ _) o)
  go_enter Try.func30, Try.ntmps30
  go_wp2
  go_ret
  exact ⟨rfl, HX.out _⟩
theorem eqHd {a b c d : Int} : decide (((a, b) : Hd) = (c, d)) = ((a == c) && (b == d)) := by
  by_cases h1 : a = c <;> by_cases h2 : b = d <;> simp [h1, h2]
set_option maxHeartbeats 2000000 in
theorem childrenLit_any (x : Bd) (bx : Nat) (a b : Int) (w : World) (hbx : w.heap[bx]? = some (.cells #[.int .i64 a, .int .i64 b] 38)) :
    Calls Try.prog 32 #[.agg #[.int .i64 x.1.1, .int .i64 x.1.2, .int .i64 x.2.1, .int .i64 x.2.2], .pointer (some ⟨bx, 0, none⟩)] w fun e w' => e = .returned (.bool (decide (x.2 = (a, b)))) ∧ Below w.heap.size w w' := by
  obtain ⟨⟨x1, x2⟩, x3, x4⟩ := x
  have hbl := (Array.getElem?_eq_some_iff.1 hbx).1
  have k0 : w.cell? ⟨bx, 0, none⟩ = some (.int .i64 a) := by rw [cell_of_row _ _ _ _ _ _ hbx]; rfl
  have k1 : w.cell? ⟨bx, 1, none⟩ = some (.int .i64 b) := by rw [cell_of_row _ _ _ _ _ _ hbx]; rfl
  have HX : Hid (∀ o, Below w.heap.size w (w.alloc o)) := Lib.hid (fun o => nb_alloc (Below.refl _ _) o)
  clear hbx
  rw [eqHd]
  cases h1 : (x3 == a) <;> cases h2 : (x4 == b)
  all_goals
    go_enter Try.func32, Try.ntmps32
    go_wp2
    go_ret
    exact ⟨rfl, HX.out _⟩
set_option maxHeartbeats 2000000 in
theorem goneLit_any (x : Bd) (bx : Nat) (a b : Int) (w : World) (hbx : w.heap[bx]? = some (.cells #[.int .i64 a, .int .i64 b] 38)) :
    Calls Try.prog 40 #[.agg #[.int .i64 x.1.1, .int .i64 x.1.2, .int .i64 x.2.1, .int .i64 x.2.2], .pointer (some ⟨bx, 0, none⟩)] w fun e w' => e = .returned (.bool (decide (x.1 = (a, b)) || decide (x.2 = (a, b)))) ∧ Below w.heap.size w w' := by
  obtain ⟨⟨x1, x2⟩, x3, x4⟩ := x
  have hbl := (Array.getElem?_eq_some_iff.1 hbx).1
  have k0 : w.cell? ⟨bx, 0, none⟩ = some (.int .i64 a) := by rw [cell_of_row _ _ _ _ _ _ hbx]; rfl
  have k1 : w.cell? ⟨bx, 1, none⟩ = some (.int .i64 b) := by rw [cell_of_row _ _ _ _ _ _ hbx]; rfl
  have HX : Hid (∀ o, Below w.heap.size w (w.alloc o)) := Lib.hid (fun o => nb_alloc (Below.refl _ _) o)
  clear hbx
  rw [eqHd, eqHd]
  cases h1 : (x1 == a) <;> cases h2 : (x2 == b) <;> cases h3 : (x3 == a) <;> cases h4 : (x4 == b)
  all_goals
    go_enter Try.func40, Try.ntmps40
    go_wp2
    go_ret
    exact ⟨rfl, HX.out _⟩

set_option maxHeartbeats 4000000 in
theorem selBonds_any (p : Nat) (F : Nat → Prop) (bs : List Bd) (w : World) (h : FamAt w p F bs) (hs : SortedB bs) (hn : bs.length * 32 ≤ 140737488355328) :
    Calls Try.prog 29 #[.pointer (some ⟨p, 0, none⟩), .func (.func 30) #[] #[]] w (SelPost w (bs.filter (fun _ => true))) := by
  obtain ⟨i0, hi, hz0, hz1, hz2⟩ := info_parts infoBond
  obtain ⟨Q, hQ⟩ : ∃ Q : Bd → Bool, (fun _ => true) = Q := ⟨_, rfl⟩
  have HQ := Lib.hid (fun x : Bd => congrFun hQ x)
  rw [hQ]
  obtain ⟨vm, h⟩ := h
  have HW := Lib.hid h
  have HS := Lib.hid hs
  have hpl := h.plt
  have c1 := h.cell
  clear hs hQ
  rcases h.map with ⟨rfl, rfl⟩ | ⟨mb, ks, f, rfl, hm, hB, hF, hne⟩
  · have HP0 : Hid (PickB [] Q [] []) := Lib.hid (PickB.start (by simp))
    have HSZ := Lib.hid (heap_alloc_new w (.mapIter none 0 #[] 0))
    have HBN : Hid (Below w.heap.size w (w.alloc (.mapIter none 0 #[] 0))) := Lib.hid (nb_alloc (Below.refl _ _) _)
    have hrn := run_rangeB_nil
    clear h
    go_enter Try.func29, Try.ntmps29
    go_wp2
    go_loopw [5] (fun v wr => v = .slice none 0 0 ∧ wr = w.alloc (.mapIter none 0 #[] 0)) (fun _ _ => 0)
    case atStart => exact ⟨rfl, rfl⟩
    case round =>
      obtain ⟨rfl, rfl⟩ := hrel
      have hnx := run_nextB_nil HSZ.out
      go_wp2_with fail
      refine (sortBonds_any w.heap.size _ [] _ (OwnsF.nil _ _ _ _) (by simp)).mono ?_
      rintro e w5 ⟨rfl, zs, hp, hs, ho, hk5⟩
      have HEND : Hid (SelPost w (([] : List Bd).filter Q) (.returned (.slice none 0 0)) w5) := Lib.hid (SelPost.sorted (HP0.out.done HS.out hp hs) ho (Nat.le_refl _) HBN.out hk5)
      clear hp hs ho hk5 hnx
      go_wp2
      go_ret
      exact HEND.out
  · have HMT := Lib.hid hm
    have HMB := Lib.hid hB
    have HP0 : Hid (PickB bs Q ks []) := Lib.hid (PickB.start (fun c p hb => (hB.val c p hb).1))
    have HMTL : Hid (mb < w.heap.size) := Lib.hid hm.lt
    clear h hm hB hF hne
    go_enter Try.func29, Try.ntmps29
    go_wp2_with (first | (at_range; refine wpList_range_is (K := kHand) _ rfl _ 61 rfl _ Try.underlying61 rfl HMT.out ?_))
    intro w2 hrg hb2 hsz2
    have HRG := Lib.hid hrg
    have HB2 := Lib.hid hb2
    have HSZ := Lib.hid hsz2
    clear hrg hb2 hsz2 c1
    go_wp2
    go_loopw [5] (fun v wr => ∃ todo cnt ys, Hid (RangeIs kHand wr mb w.heap.size ks.length ks f todo cnt) ∧ Hid (PickB bs Q todo ys) ∧ Hid (OwnsF elBond wr (w.heap.size + 1) 44 v ys) ∧ Hid (Below w.heap.size w wr) ∧ Hid (w.heap.size + 1 ≤ wr.heap.size)) (fun _ wr => wr.rangeLeft mb w.heap.size)
    case atStart => exact ⟨_, _, [], HRG, HP0, OwnsF.nil _ _ _ _, HB2, Lib.hid (by rw [HSZ.out]; exact Nat.le_refl _)⟩
    case round =>
      obtain ⟨todo, cnt, ys, hR, hP, hO, hBw, hsz⟩ := hrel
      have hyl : ys.length ≤ bs.length := hP.out.len
      go_wp2_with (first | (at_next; refine wpList_next_is (K := kHand) _ rfl _ rfl rfl hR.out ?_ ?_))
      case refine_1 =>
        rintro rfl
        clear HRG HP0 HB2 HSZ
        go_wp2_with fail
        refine (sortBonds_any _ _ ys _ hO.out (by omega)).mono ?_
        rintro e w5 ⟨rfl, zs, hp, hs, ho, hk5⟩
        have HEND := Lib.hid (SelPost.sorted (hP.out.done HS.out hp hs) ho (by omega) hBw.out hk5)
        clear hp hs ho hk5
        go_wp2
        go_ret
        exact HEND.out
      case refine_2 =>
        intro c1 c2 w4 cnt' hkt hkm hrg hlt hkp hsz4 hen
        obtain ⟨d, hcd⟩ := HMB.out.some_ (c1, c2) hkm
        have hfc := (HMB.out.val (c1, c2) d hcd).2
        have hB4 : Below w.heap.size w w4 := hBw.out.trans (hkp.below hBw.out.size (fun k e => by omega))
        have hO4 : OwnsF elBond w4 (w.heap.size + 1) 44 _ ys := hO.out.kept hkp (fun j e => by have := hO.out.ge e; omega)
        have HRG4 := Lib.hid (hrg.later (nb_alloc (nb_alloc (nb_alloc (Below.refl _ _) (.cells #[.int .i64 c1, .int .i64 c2] 38)) (.cells #[.int .i64 d.1, .int .i64 d.2] 38)) (.cells #[.int .i64 c1, .int .i64 c2, .int .i64 d.1, .int .i64 d.2] 44)))
        have HLT := Lib.hid hlt
        have HBA := Lib.hid (nb_alloc (nb_alloc (nb_alloc hB4 (.cells #[.int .i64 c1, .int .i64 c2] 38)) (.cells #[.int .i64 d.1, .int .i64 d.2] 38)) (.cells #[.int .i64 c1, .int .i64 c2, .int .i64 d.1, .int .i64 d.2] 44))
        have HOA := Lib.hid (hO4.later (nb_alloc (nb_alloc (nb_alloc (Below.refl _ _) (.cells #[.int .i64 c1, .int .i64 c2] 38)) (.cells #[.int .i64 d.1, .int .i64 d.2] 38)) (.cells #[.int .i64 c1, .int .i64 c2, .int .i64 d.1, .int .i64 d.2] 44)))
        have HKT := Lib.hid hkt
        have HCD := Lib.hid hcd
        have hs4 := hsz.out
        rw [← hsz4] at hs4
        have HS4 := Lib.hid hs4
        replace hen : (Instr.entry (.pointer (some ⟨w.heap.size, 0, none⟩))).run Try.prog w4 = .ok (.tuple #[.agg #[.int .i64 c1, .int .i64 c2], .agg #[.int .i64 d.1, .int .i64 d.2]]) w4 := by rw [← hfc]; exact hen
        rw [hfc]
        simp only [show kHand.val (c1, c2) = .agg #[.int .i64 c1, .int .i64 c2] from rfl]
        have HAR : Hid ((((w4.alloc (.cells #[.int .i64 c1, .int .i64 c2] 38)).alloc (.cells #[.int .i64 d.1, .int .i64 d.2] 38)).alloc (.cells #[.int .i64 c1, .int .i64 c2, .int .i64 d.1, .int .i64 d.2] 44)).heap[w4.heap.size + 1 + 1]? = some (.cells #[.int .i64 c1, .int .i64 c2, .int .i64 d.1, .int .i64 d.2] 44)) := Lib.hid (by
          have := heap_alloc_new ((w4.alloc (.cells #[.int .i64 c1, .int .i64 c2] 38)).alloc (.cells #[.int .i64 d.1, .int .i64 d.2] 38)) (.cells #[.int .i64 c1, .int .i64 c2, .int .i64 d.1, .int .i64 d.2] 44)
          rw [show ((w4.alloc (.cells #[.int .i64 c1, .int .i64 c2] 38)).alloc (.cells #[.int .i64 d.1, .int .i64 d.2] 38)).heap.size = w4.heap.size + 1 + 1 by simp] at this
          exact this)
        clear hrg hlt hB4 hO4 hkt hkm hkp hsz4 hs4 hfc hcd HRG HP0 HB2 HSZ
        go_wp2_with fail
        generalize (((w4.alloc (.cells #[.int .i64 c1, .int .i64 c2] 38)).alloc (.cells #[.int .i64 d.1, .int .i64 d.2] 38)).alloc (.cells #[.int .i64 c1, .int .i64 c2, .int .i64 d.1, .int .i64 d.2] 44)) = A at *
        clear hen
        refine (bondsLit_any ((c1, c2), d) _).mono ?_
        rintro e w6 ⟨rfl, hb6⟩
        have hAl := (Array.getElem?_eq_some_iff.1 HAR.out).1
        have hr6 : w6.heap[w4.heap.size + 1 + 1]? = some (.cells #[.int .i64 c1, .int .i64 c2, .int .i64 d.1, .int .i64 d.2] 44) := by rw [hb6.block _ hAl]; exact HAR.out
        have HO6 := Lib.hid (HOA.out.later hb6)
        have HRG6 := Lib.hid (HRG4.out.later hb6)
        have HB6 := Lib.hid (nb_trans HBA.out hb6)
        have hs6 := hb6.size
        have hs4' := HS4.out
        have hr6l := (Array.getElem?_eq_some_iff.1 hr6).1
        have k0 : w6.cell? ⟨w4.heap.size + 1 + 1, 0, none⟩ = some (.int .i64 c1) := by rw [cell_of_row _ _ _ _ _ _ hr6]; rfl
        have k1 : w6.cell? ⟨w4.heap.size + 1 + 1, 1, none⟩ = some (.int .i64 c2) := by rw [cell_of_row _ _ _ _ _ _ hr6]; rfl
        have k2 : w6.cell? ⟨w4.heap.size + 1 + 1, 2, none⟩ = some (.int .i64 d.1) := by rw [cell_of_row _ _ _ _ _ _ hr6]; rfl
        have k3 : w6.cell? ⟨w4.heap.size + 1 + 1, 3, none⟩ = some (.int .i64 d.2) := by rw [cell_of_row _ _ _ _ _ _ hr6]; rfl
        clear hb6 hr6
        have hqq := HQ.out ((c1, c2), d)
        try dsimp only at hqq
        cases hm : Q ((c1, c2), d)
        · rw [hm] at hqq; cases hqq
        · have hPN := hP.out.next HS.out HKT.out HCD.out hm
          have hyl2 := hPN.len
          rw [List.length_append] at hyl2
          simp only [List.length_cons, List.length_nil] at hyl2
          have HPN := Lib.hid hPN
          clear hPN hqq hm
          go_wp2_with (first | (at_builtin; refine wpList_append_own _ rfl _ _ 31 rfl (w.heap.size + 1) 44 i0 _ 4 32 Try.underlying31 hi hz0 hz1 hz2 rfl (by decide) _ ys.length (ys.flatMap elBond.enc) rfl (World.ownsRow.alloc HO6.out _) ⟨w6.heap.size, 0, none⟩ 1 1 [.int .i64 c1, .int .i64 c2, .int .i64 d.1, .int .i64 d.2] rfl rfl ?d1 ?d2 ?d3 ?d4 ?d5 ?_))
          case d1 => exact World.news_of_block (heap_alloc_new _ _)
          case d2 => exact elBond.one ((c1, c2), d)
          case d3 => unfold maxLen; omega
          case d4 => omega
          case d5 => simp; omega
          intro v' w7 hown hgr _
          have HO7 : Hid (OwnsF elBond w7 (w.heap.size + 1) 44 v' (ys ++ [((c1, c2), d)])) := Lib.hid (OwnsF.snoc (x := ((c1, c2), d)) hown)
          have hk7 : Kept (fun b => w.heap.size + 1 ≤ b) w6 w7 := (Kept.alloc _ w6 _).trans (Kept.grown (F := fun b => w.heap.size + 1 ≤ b) hgr (fun k e => HO6.out.ge e)) (fun _ h => .inl h)
          have HB7 : Hid (Below w.heap.size w w7) := Lib.hid (HB6.out.trans (hk7.below (by omega) (fun k e => by omega)))
          have HRG7 := Lib.hid (HRG6.out.kept hk7 (by have := HMTL.out; omega) (by omega))
          have hs7 := hk7.size
          clear hown hgr hk7 k0 k1 k2 k3
          go_wp2
          go_roundw
          case rel => exact ⟨_, _, ys ++ [((c1, c2), d)], HRG7, HPN, HO7, HB7, Lib.hid (by omega)⟩
          case measure => rw [HRG7.out.left_eq, hR.out.left_eq]; exact HLT.out

set_option maxHeartbeats 4000000 in
theorem selChildren_any (p : Nat) (F : Nat → Prop) (bs : List Bd) (bx : Nat) (a b : Int) (w : World) (h : FamAt w p F bs) (hs : SortedB bs) (hn : bs.length * 32 ≤ 140737488355328) (hbx : w.heap[bx]? = some (.cells #[.int .i64 a, .int .i64 b] 38)) :
    Calls Try.prog 29 #[.pointer (some ⟨p, 0, none⟩), .func (.func 32) #[] #[.pointer (some ⟨bx, 0, none⟩)]] w (SelPost w (bs.filter (fun x => decide (x.2 = (a, b))))) := by
  obtain ⟨i0, hi, hz0, hz1, hz2⟩ := info_parts infoBond
  obtain ⟨Q, hQ⟩ : ∃ Q : Bd → Bool, (fun x => decide (x.2 = (a, b))) = Q := ⟨_, rfl⟩
  have HQ := Lib.hid (fun x : Bd => congrFun hQ x)
  rw [hQ]
  have HBX := Lib.hid hbx
  clear hbx
  obtain ⟨vm, h⟩ := h
  have HW := Lib.hid h
  have HS := Lib.hid hs
  have hpl := h.plt
  have c1 := h.cell
  clear hs hQ
  rcases h.map with ⟨rfl, rfl⟩ | ⟨mb, ks, f, rfl, hm, hB, hF, hne⟩
  · have HP0 : Hid (PickB [] Q [] []) := Lib.hid (PickB.start (by simp))
    have HSZ := Lib.hid (heap_alloc_new w (.mapIter none 0 #[] 0))
    have HBN : Hid (Below w.heap.size w (w.alloc (.mapIter none 0 #[] 0))) := Lib.hid (nb_alloc (Below.refl _ _) _)
    have hrn := run_rangeB_nil
    clear h
    go_enter Try.func29, Try.ntmps29
    go_wp2
    go_loopw [5] (fun v wr => v = .slice none 0 0 ∧ wr = w.alloc (.mapIter none 0 #[] 0)) (fun _ _ => 0)
    case atStart => exact ⟨rfl, rfl⟩
    case round =>
      obtain ⟨rfl, rfl⟩ := hrel
      have hnx := run_nextB_nil HSZ.out
      go_wp2_with fail
      refine (sortBonds_any w.heap.size _ [] _ (OwnsF.nil _ _ _ _) (by simp)).mono ?_
      rintro e w5 ⟨rfl, zs, hp, hs, ho, hk5⟩
      have HEND : Hid (SelPost w (([] : List Bd).filter Q) (.returned (.slice none 0 0)) w5) := Lib.hid (SelPost.sorted (HP0.out.done HS.out hp hs) ho (Nat.le_refl _) HBN.out hk5)
      clear hp hs ho hk5 hnx
      go_wp2
      go_ret
      exact HEND.out
  · have HMT := Lib.hid hm
    have HMB := Lib.hid hB
    have HP0 : Hid (PickB bs Q ks []) := Lib.hid (PickB.start (fun c p hb => (hB.val c p hb).1))
    have HMTL : Hid (mb < w.heap.size) := Lib.hid hm.lt
    clear h hm hB hF hne
    go_enter Try.func29, Try.ntmps29
    go_wp2_with (first | (at_range; refine wpList_range_is (K := kHand) _ rfl _ 61 rfl _ Try.underlying61 rfl HMT.out ?_))
    intro w2 hrg hb2 hsz2
    have HRG := Lib.hid hrg
    have HB2 := Lib.hid hb2
    have HSZ := Lib.hid hsz2
    clear hrg hb2 hsz2 c1
    go_wp2
    go_loopw [5] (fun v wr => ∃ todo cnt ys, Hid (RangeIs kHand wr mb w.heap.size ks.length ks f todo cnt) ∧ Hid (PickB bs Q todo ys) ∧ Hid (OwnsF elBond wr (w.heap.size + 1) 44 v ys) ∧ Hid (Below w.heap.size w wr) ∧ Hid (w.heap.size + 1 ≤ wr.heap.size)) (fun _ wr => wr.rangeLeft mb w.heap.size)
    case atStart => exact ⟨_, _, [], HRG, HP0, OwnsF.nil _ _ _ _, HB2, Lib.hid (by rw [HSZ.out]; exact Nat.le_refl _)⟩
    case round =>
      obtain ⟨todo, cnt, ys, hR, hP, hO, hBw, hsz⟩ := hrel
      have hyl : ys.length ≤ bs.length := hP.out.len
      go_wp2_with (first | (at_next; refine wpList_next_is (K := kHand) _ rfl _ rfl rfl hR.out ?_ ?_))
      case refine_1 =>
        rintro rfl
        clear HRG HP0 HB2 HSZ
        go_wp2_with fail
        refine (sortBonds_any _ _ ys _ hO.out (by omega)).mono ?_
        rintro e w5 ⟨rfl, zs, hp, hs, ho, hk5⟩
        have HEND := Lib.hid (SelPost.sorted (hP.out.done HS.out hp hs) ho (by omega) hBw.out hk5)
        clear hp hs ho hk5
        go_wp2
        go_ret
        exact HEND.out
      case refine_2 =>
        intro c1 c2 w4 cnt' hkt hkm hrg hlt hkp hsz4 hen
        obtain ⟨d, hcd⟩ := HMB.out.some_ (c1, c2) hkm
        have hfc := (HMB.out.val (c1, c2) d hcd).2
        have hB4 : Below w.heap.size w w4 := hBw.out.trans (hkp.below hBw.out.size (fun k e => by omega))
        have hO4 : OwnsF elBond w4 (w.heap.size + 1) 44 _ ys := hO.out.kept hkp (fun j e => by have := hO.out.ge e; omega)
        have HRG4 := Lib.hid (hrg.later (nb_alloc (nb_alloc (nb_alloc (Below.refl _ _) (.cells #[.int .i64 c1, .int .i64 c2] 38)) (.cells #[.int .i64 d.1, .int .i64 d.2] 38)) (.cells #[.int .i64 c1, .int .i64 c2, .int .i64 d.1, .int .i64 d.2] 44)))
        have HLT := Lib.hid hlt
        have HBA := Lib.hid (nb_alloc (nb_alloc (nb_alloc hB4 (.cells #[.int .i64 c1, .int .i64 c2] 38)) (.cells #[.int .i64 d.1, .int .i64 d.2] 38)) (.cells #[.int .i64 c1, .int .i64 c2, .int .i64 d.1, .int .i64 d.2] 44))
        have HOA := Lib.hid (hO4.later (nb_alloc (nb_alloc (nb_alloc (Below.refl _ _) (.cells #[.int .i64 c1, .int .i64 c2] 38)) (.cells #[.int .i64 d.1, .int .i64 d.2] 38)) (.cells #[.int .i64 c1, .int .i64 c2, .int .i64 d.1, .int .i64 d.2] 44)))
        have HKT := Lib.hid hkt
        have HCD := Lib.hid hcd
        have hs4 := hsz.out
        rw [← hsz4] at hs4
        have HS4 := Lib.hid hs4
        replace hen : (Instr.entry (.pointer (some ⟨w.heap.size, 0, none⟩))).run Try.prog w4 = .ok (.tuple #[.agg #[.int .i64 c1, .int .i64 c2], .agg #[.int .i64 d.1, .int .i64 d.2]]) w4 := by rw [← hfc]; exact hen
        rw [hfc]
        simp only [show kHand.val (c1, c2) = .agg #[.int .i64 c1, .int .i64 c2] from rfl]
        have HAR : Hid ((((w4.alloc (.cells #[.int .i64 c1, .int .i64 c2] 38)).alloc (.cells #[.int .i64 d.1, .int .i64 d.2] 38)).alloc (.cells #[.int .i64 c1, .int .i64 c2, .int .i64 d.1, .int .i64 d.2] 44)).heap[w4.heap.size + 1 + 1]? = some (.cells #[.int .i64 c1, .int .i64 c2, .int .i64 d.1, .int .i64 d.2] 44)) := Lib.hid (by
          have := heap_alloc_new ((w4.alloc (.cells #[.int .i64 c1, .int .i64 c2] 38)).alloc (.cells #[.int .i64 d.1, .int .i64 d.2] 38)) (.cells #[.int .i64 c1, .int .i64 c2, .int .i64 d.1, .int .i64 d.2] 44)
          rw [show ((w4.alloc (.cells #[.int .i64 c1, .int .i64 c2] 38)).alloc (.cells #[.int .i64 d.1, .int .i64 d.2] 38)).heap.size = w4.heap.size + 1 + 1 by simp] at this
          exact this)
        clear hrg hlt hB4 hO4 hkt hkm hkp hsz4 hs4 hfc hcd HRG HP0 HB2 HSZ
        go_wp2_with fail
        generalize (((w4.alloc (.cells #[.int .i64 c1, .int .i64 c2] 38)).alloc (.cells #[.int .i64 d.1, .int .i64 d.2] 38)).alloc (.cells #[.int .i64 c1, .int .i64 c2, .int .i64 d.1, .int .i64 d.2] 44)) = A at *
        clear hen
        refine (childrenLit_any ((c1, c2), d) bx a b _ (by rw [HBA.out.block _ (Array.getElem?_eq_some_iff.1 HBX.out).1]; exact HBX.out)).mono ?_
        rintro e w6 ⟨rfl, hb6⟩
        have hAl := (Array.getElem?_eq_some_iff.1 HAR.out).1
        have hr6 : w6.heap[w4.heap.size + 1 + 1]? = some (.cells #[.int .i64 c1, .int .i64 c2, .int .i64 d.1, .int .i64 d.2] 44) := by rw [hb6.block _ hAl]; exact HAR.out
        have HO6 := Lib.hid (HOA.out.later hb6)
        have HRG6 := Lib.hid (HRG4.out.later hb6)
        have HB6 := Lib.hid (nb_trans HBA.out hb6)
        have hs6 := hb6.size
        have hs4' := HS4.out
        have hr6l := (Array.getElem?_eq_some_iff.1 hr6).1
        have k0 : w6.cell? ⟨w4.heap.size + 1 + 1, 0, none⟩ = some (.int .i64 c1) := by rw [cell_of_row _ _ _ _ _ _ hr6]; rfl
        have k1 : w6.cell? ⟨w4.heap.size + 1 + 1, 1, none⟩ = some (.int .i64 c2) := by rw [cell_of_row _ _ _ _ _ _ hr6]; rfl
        have k2 : w6.cell? ⟨w4.heap.size + 1 + 1, 2, none⟩ = some (.int .i64 d.1) := by rw [cell_of_row _ _ _ _ _ _ hr6]; rfl
        have k3 : w6.cell? ⟨w4.heap.size + 1 + 1, 3, none⟩ = some (.int .i64 d.2) := by rw [cell_of_row _ _ _ _ _ _ hr6]; rfl
        clear hb6 hr6
        have hqq := HQ.out ((c1, c2), d)
        try dsimp only at hqq
        rw [hqq]
        cases hm : Q ((c1, c2), d)
        · 
          have HPN := Lib.hid (hP.out.skip HS.out HCD.out hm)
          clear hqq hm k0 k1 k2 k3
          go_wp2
          go_roundw
          case rel => exact ⟨_, _, ys, HRG6, HPN, HO6, HB6, Lib.hid (by omega)⟩
          case measure => rw [HRG6.out.left_eq, hR.out.left_eq]; exact HLT.out
        · have hPN := hP.out.next HS.out HKT.out HCD.out hm
          have hyl2 := hPN.len
          rw [List.length_append] at hyl2
          simp only [List.length_cons, List.length_nil] at hyl2
          have HPN := Lib.hid hPN
          clear hPN hqq hm
          go_wp2_with (first | (at_builtin; refine wpList_append_own _ rfl _ _ 31 rfl (w.heap.size + 1) 44 i0 _ 4 32 Try.underlying31 hi hz0 hz1 hz2 rfl (by decide) _ ys.length (ys.flatMap elBond.enc) rfl (World.ownsRow.alloc HO6.out _) ⟨w6.heap.size, 0, none⟩ 1 1 [.int .i64 c1, .int .i64 c2, .int .i64 d.1, .int .i64 d.2] rfl rfl ?d1 ?d2 ?d3 ?d4 ?d5 ?_))
          case d1 => exact World.news_of_block (heap_alloc_new _ _)
          case d2 => exact elBond.one ((c1, c2), d)
          case d3 => unfold maxLen; omega
          case d4 => omega
          case d5 => simp; omega
          intro v' w7 hown hgr _
          have HO7 : Hid (OwnsF elBond w7 (w.heap.size + 1) 44 v' (ys ++ [((c1, c2), d)])) := Lib.hid (OwnsF.snoc (x := ((c1, c2), d)) hown)
          have hk7 : Kept (fun b => w.heap.size + 1 ≤ b) w6 w7 := (Kept.alloc _ w6 _).trans (Kept.grown (F := fun b => w.heap.size + 1 ≤ b) hgr (fun k e => HO6.out.ge e)) (fun _ h => .inl h)
          have HB7 : Hid (Below w.heap.size w w7) := Lib.hid (HB6.out.trans (hk7.below (by omega) (fun k e => by omega)))
          have HRG7 := Lib.hid (HRG6.out.kept hk7 (by have := HMTL.out; omega) (by omega))
          have hs7 := hk7.size
          clear hown hgr hk7 k0 k1 k2 k3
          go_wp2
          go_roundw
          case rel => exact ⟨_, _, ys ++ [((c1, c2), d)], HRG7, HPN, HO7, HB7, Lib.hid (by omega)⟩
          case measure => rw [HRG7.out.left_eq, hR.out.left_eq]; exact HLT.out

set_option maxHeartbeats 4000000 in
theorem selGone_any (p : Nat) (F : Nat → Prop) (bs : List Bd) (bx : Nat) (a b : Int) (w : World) (h : FamAt w p F bs) (hs : SortedB bs) (hn : bs.length * 32 ≤ 140737488355328) (hbx : w.heap[bx]? = some (.cells #[.int .i64 a, .int .i64 b] 38)) :
    Calls Try.prog 29 #[.pointer (some ⟨p, 0, none⟩), .func (.func 40) #[] #[.pointer (some ⟨bx, 0, none⟩)]] w (SelPost w (bs.filter (fun x => decide (x.1 = (a, b)) || decide (x.2 = (a, b))))) := by
  obtain ⟨i0, hi, hz0, hz1, hz2⟩ := info_parts infoBond
  obtain ⟨Q, hQ⟩ : ∃ Q : Bd → Bool, (fun x => decide (x.1 = (a, b)) || decide (x.2 = (a, b))) = Q := ⟨_, rfl⟩
  have HQ := Lib.hid (fun x : Bd => congrFun hQ x)
  rw [hQ]
  have HBX := Lib.hid hbx
  clear hbx
  obtain ⟨vm, h⟩ := h
  have HW := Lib.hid h
  have HS := Lib.hid hs
  have hpl := h.plt
  have c1 := h.cell
  clear hs hQ
  rcases h.map with ⟨rfl, rfl⟩ | ⟨mb, ks, f, rfl, hm, hB, hF, hne⟩
  · have HP0 : Hid (PickB [] Q [] []) := Lib.hid (PickB.start (by simp))
    have HSZ := Lib.hid (heap_alloc_new w (.mapIter none 0 #[] 0))
    have HBN : Hid (Below w.heap.size w (w.alloc (.mapIter none 0 #[] 0))) := Lib.hid (nb_alloc (Below.refl _ _) _)
    have hrn := run_rangeB_nil
    clear h
    go_enter Try.func29, Try.ntmps29
    go_wp2
    go_loopw [5] (fun v wr => v = .slice none 0 0 ∧ wr = w.alloc (.mapIter none 0 #[] 0)) (fun _ _ => 0)
    case atStart => exact ⟨rfl, rfl⟩
    case round =>
      obtain ⟨rfl, rfl⟩ := hrel
      have hnx := run_nextB_nil HSZ.out
      go_wp2_with fail
      refine (sortBonds_any w.heap.size _ [] _ (OwnsF.nil _ _ _ _) (by simp)).mono ?_
      rintro e w5 ⟨rfl, zs, hp, hs, ho, hk5⟩
      have HEND : Hid (SelPost w (([] : List Bd).filter Q) (.returned (.slice none 0 0)) w5) := Lib.hid (SelPost.sorted (HP0.out.done HS.out hp hs) ho (Nat.le_refl _) HBN.out hk5)
      clear hp hs ho hk5 hnx
      go_wp2
      go_ret
      exact HEND.out
  · have HMT := Lib.hid hm
    have HMB := Lib.hid hB
    have HP0 : Hid (PickB bs Q ks []) := Lib.hid (PickB.start (fun c p hb => (hB.val c p hb).1))
    have HMTL : Hid (mb < w.heap.size) := Lib.hid hm.lt
    clear h hm hB hF hne
    go_enter Try.func29, Try.ntmps29
    go_wp2_with (first | (at_range; refine wpList_range_is (K := kHand) _ rfl _ 61 rfl _ Try.underlying61 rfl HMT.out ?_))
    intro w2 hrg hb2 hsz2
    have HRG := Lib.hid hrg
    have HB2 := Lib.hid hb2
    have HSZ := Lib.hid hsz2
    clear hrg hb2 hsz2 c1
    go_wp2
    go_loopw [5] (fun v wr => ∃ todo cnt ys, Hid (RangeIs kHand wr mb w.heap.size ks.length ks f todo cnt) ∧ Hid (PickB bs Q todo ys) ∧ Hid (OwnsF elBond wr (w.heap.size + 1) 44 v ys) ∧ Hid (Below w.heap.size w wr) ∧ Hid (w.heap.size + 1 ≤ wr.heap.size)) (fun _ wr => wr.rangeLeft mb w.heap.size)
    case atStart => exact ⟨_, _, [], HRG, HP0, OwnsF.nil _ _ _ _, HB2, Lib.hid (by rw [HSZ.out]; exact Nat.le_refl _)⟩
    case round =>
      obtain ⟨todo, cnt, ys, hR, hP, hO, hBw, hsz⟩ := hrel
      have hyl : ys.length ≤ bs.length := hP.out.len
      go_wp2_with (first | (at_next; refine wpList_next_is (K := kHand) _ rfl _ rfl rfl hR.out ?_ ?_))
      case refine_1 =>
        rintro rfl
        clear HRG HP0 HB2 HSZ
        go_wp2_with fail
        refine (sortBonds_any _ _ ys _ hO.out (by omega)).mono ?_
        rintro e w5 ⟨rfl, zs, hp, hs, ho, hk5⟩
        have HEND := Lib.hid (SelPost.sorted (hP.out.done HS.out hp hs) ho (by omega) hBw.out hk5)
        clear hp hs ho hk5
        go_wp2
        go_ret
        exact HEND.out
      case refine_2 =>
        intro c1 c2 w4 cnt' hkt hkm hrg hlt hkp hsz4 hen
        obtain ⟨d, hcd⟩ := HMB.out.some_ (c1, c2) hkm
        have hfc := (HMB.out.val (c1, c2) d hcd).2
        have hB4 : Below w.heap.size w w4 := hBw.out.trans (hkp.below hBw.out.size (fun k e => by omega))
        have hO4 : OwnsF elBond w4 (w.heap.size + 1) 44 _ ys := hO.out.kept hkp (fun j e => by have := hO.out.ge e; omega)
        have HRG4 := Lib.hid (hrg.later (nb_alloc (nb_alloc (nb_alloc (Below.refl _ _) (.cells #[.int .i64 c1, .int .i64 c2] 38)) (.cells #[.int .i64 d.1, .int .i64 d.2] 38)) (.cells #[.int .i64 c1, .int .i64 c2, .int .i64 d.1, .int .i64 d.2] 44)))
        have HLT := Lib.hid hlt
        have HBA := Lib.hid (nb_alloc (nb_alloc (nb_alloc hB4 (.cells #[.int .i64 c1, .int .i64 c2] 38)) (.cells #[.int .i64 d.1, .int .i64 d.2] 38)) (.cells #[.int .i64 c1, .int .i64 c2, .int .i64 d.1, .int .i64 d.2] 44))
        have HOA := Lib.hid (hO4.later (nb_alloc (nb_alloc (nb_alloc (Below.refl _ _) (.cells #[.int .i64 c1, .int .i64 c2] 38)) (.cells #[.int .i64 d.1, .int .i64 d.2] 38)) (.cells #[.int .i64 c1, .int .i64 c2, .int .i64 d.1, .int .i64 d.2] 44)))
        have HKT := Lib.hid hkt
        have HCD := Lib.hid hcd
        have hs4 := hsz.out
        rw [← hsz4] at hs4
        have HS4 := Lib.hid hs4
        replace hen : (Instr.entry (.pointer (some ⟨w.heap.size, 0, none⟩))).run Try.prog w4 = .ok (.tuple #[.agg #[.int .i64 c1, .int .i64 c2], .agg #[.int .i64 d.1, .int .i64 d.2]]) w4 := by rw [← hfc]; exact hen
        rw [hfc]
        simp only [show kHand.val (c1, c2) = .agg #[.int .i64 c1, .int .i64 c2] from rfl]
        have HAR : Hid ((((w4.alloc (.cells #[.int .i64 c1, .int .i64 c2] 38)).alloc (.cells #[.int .i64 d.1, .int .i64 d.2] 38)).alloc (.cells #[.int .i64 c1, .int .i64 c2, .int .i64 d.1, .int .i64 d.2] 44)).heap[w4.heap.size + 1 + 1]? = some (.cells #[.int .i64 c1, .int .i64 c2, .int .i64 d.1, .int .i64 d.2] 44)) := Lib.hid (by
          have := heap_alloc_new ((w4.alloc (.cells #[.int .i64 c1, .int .i64 c2] 38)).alloc (.cells #[.int .i64 d.1, .int .i64 d.2] 38)) (.cells #[.int .i64 c1, .int .i64 c2, .int .i64 d.1, .int .i64 d.2] 44)
          rw [show ((w4.alloc (.cells #[.int .i64 c1, .int .i64 c2] 38)).alloc (.cells #[.int .i64 d.1, .int .i64 d.2] 38)).heap.size = w4.heap.size + 1 + 1 by simp] at this
          exact this)
        clear hrg hlt hB4 hO4 hkt hkm hkp hsz4 hs4 hfc hcd HRG HP0 HB2 HSZ
        go_wp2_with fail
        generalize (((w4.alloc (.cells #[.int .i64 c1, .int .i64 c2] 38)).alloc (.cells #[.int .i64 d.1, .int .i64 d.2] 38)).alloc (.cells #[.int .i64 c1, .int .i64 c2, .int .i64 d.1, .int .i64 d.2] 44)) = A at *
        clear hen
        refine (goneLit_any ((c1, c2), d) bx a b _ (by rw [HBA.out.block _ (Array.getElem?_eq_some_iff.1 HBX.out).1]; exact HBX.out)).mono ?_
        rintro e w6 ⟨rfl, hb6⟩
        have hAl := (Array.getElem?_eq_some_iff.1 HAR.out).1
        have hr6 : w6.heap[w4.heap.size + 1 + 1]? = some (.cells #[.int .i64 c1, .int .i64 c2, .int .i64 d.1, .int .i64 d.2] 44) := by rw [hb6.block _ hAl]; exact HAR.out
        have HO6 := Lib.hid (HOA.out.later hb6)
        have HRG6 := Lib.hid (HRG4.out.later hb6)
        have HB6 := Lib.hid (nb_trans HBA.out hb6)
        have hs6 := hb6.size
        have hs4' := HS4.out
        have hr6l := (Array.getElem?_eq_some_iff.1 hr6).1
        have k0 : w6.cell? ⟨w4.heap.size + 1 + 1, 0, none⟩ = some (.int .i64 c1) := by rw [cell_of_row _ _ _ _ _ _ hr6]; rfl
        have k1 : w6.cell? ⟨w4.heap.size + 1 + 1, 1, none⟩ = some (.int .i64 c2) := by rw [cell_of_row _ _ _ _ _ _ hr6]; rfl
        have k2 : w6.cell? ⟨w4.heap.size + 1 + 1, 2, none⟩ = some (.int .i64 d.1) := by rw [cell_of_row _ _ _ _ _ _ hr6]; rfl
        have k3 : w6.cell? ⟨w4.heap.size + 1 + 1, 3, none⟩ = some (.int .i64 d.2) := by rw [cell_of_row _ _ _ _ _ _ hr6]; rfl
        clear hb6 hr6
        have hqq := HQ.out ((c1, c2), d)
        try dsimp only at hqq
        rw [hqq]
        cases hm : Q ((c1, c2), d)
        · 
          have HPN := Lib.hid (hP.out.skip HS.out HCD.out hm)
          clear hqq hm k0 k1 k2 k3
          go_wp2
          go_roundw
          case rel => exact ⟨_, _, ys, HRG6, HPN, HO6, HB6, Lib.hid (by omega)⟩
          case measure => rw [HRG6.out.left_eq, hR.out.left_eq]; exact HLT.out
        · have hPN := hP.out.next HS.out HKT.out HCD.out hm
          have hyl2 := hPN.len
          rw [List.length_append] at hyl2
          simp only [List.length_cons, List.length_nil] at hyl2
          have HPN := Lib.hid hPN
          clear hPN hqq hm
          go_wp2_with (first | (at_builtin; refine wpList_append_own _ rfl _ _ 31 rfl (w.heap.size + 1) 44 i0 _ 4 32 Try.underlying31 hi hz0 hz1 hz2 rfl (by decide) _ ys.length (ys.flatMap elBond.enc) rfl (World.ownsRow.alloc HO6.out _) ⟨w6.heap.size, 0, none⟩ 1 1 [.int .i64 c1, .int .i64 c2, .int .i64 d.1, .int .i64 d.2] rfl rfl ?d1 ?d2 ?d3 ?d4 ?d5 ?_))
          case d1 => exact World.news_of_block (heap_alloc_new _ _)
          case d2 => exact elBond.one ((c1, c2), d)
          case d3 => unfold maxLen; omega
          case d4 => omega
          case d5 => simp; omega
          intro v' w7 hown hgr _
          have HO7 : Hid (OwnsF elBond w7 (w.heap.size + 1) 44 v' (ys ++ [((c1, c2), d)])) := Lib.hid (OwnsF.snoc (x := ((c1, c2), d)) hown)
          have hk7 : Kept (fun b => w.heap.size + 1 ≤ b) w6 w7 := (Kept.alloc _ w6 _).trans (Kept.grown (F := fun b => w.heap.size + 1 ≤ b) hgr (fun k e => HO6.out.ge e)) (fun _ h => .inl h)
          have HB7 : Hid (Below w.heap.size w w7) := Lib.hid (HB6.out.trans (hk7.below (by omega) (fun k e => by omega)))
          have HRG7 := Lib.hid (HRG6.out.kept hk7 (by have := HMTL.out; omega) (by omega))
          have hs7 := hk7.size
          clear hown hgr hk7 k0 k1 k2 k3
          go_wp2
          go_roundw
          case rel => exact ⟨_, _, ys ++ [((c1, c2), d)], HRG7, HPN, HO7, HB7, Lib.hid (by omega)⟩
          case measure => rw [HRG7.out.left_eq, hR.out.left_eq]; exact HLT.out

set_option maxHeartbeats 1000000 in
theorem famBonds_any (p : Nat) (F : Nat → Prop) (bs : List Bd) (w : World) (h : FamAt w p F bs) (hs : SortedB bs) (hn : bs.length * 32 ≤ 140737488355328) :
    Calls Try.prog 11 #[.pointer (some ⟨p, 0, none⟩)] w (SelPost w bs) := by
  have HW := Lib.hid h
  have HS := Lib.hid hs
  have HN := Lib.hid hn
  clear h hs hn
  go_enter Try.func11, Try.ntmps11
  go_wp2_with fail
  refine (selBonds_any p F bs _ HW.out HS.out HN.out).mono ?_
  rintro e w' ⟨v, rfl, ho, hb⟩
  rw [List.filter_eq_self.2 (fun _ _ => rfl)] at ho
  have HO := Lib.hid ho
  have HB := Lib.hid hb
  clear ho hb
  go_wp2
  go_ret
  exact ⟨_, rfl, HO.out, HB.out⟩
end Go.Proofs.Ytlclceiebnnpgaa

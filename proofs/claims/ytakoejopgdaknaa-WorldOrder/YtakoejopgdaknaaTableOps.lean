/- The contracts of package table: New, hasRow, column, Add, Row, Remove, Set, Column, Handles. -/
import Derived.Test.YtakoejopgdaknaaTableAt
import Derived.Test.YtakoejopgdaknaaHands
import Derived.BigQuiet
import Derived.Maps.RangeWalk
namespace Go.Proofs.Ytakoejopgdaknaa
set_option maxRecDepth 8000
open Go.RowKit

/-- At block p lies a table of the set m with these rows, in the blocks F. -/
def TableAt (w : World) (p : Nat) (F : Nat → Prop) (m : Int) (rows : List Rw) : Prop :=
  ∃ v mb n cb c, TabIs w p F m (hsOf rows) (fun k => colOf rows k.toNat) v mb n cb c
theorem TableAt.kept {w w' : World} {p : Nat} {F H : Nat → Prop} {m : Int} {rows : List Rw} (h : TableAt w p F m rows) (hk : Kept H w w') (hf : ∀ k, F k → ¬ H k) : TableAt w' p F m rows := by
  obtain ⟨v, mb, n, cb, c, h⟩ := h
  exact ⟨v, mb, n, cb, c, h.kept hk hf⟩
theorem TableAt.later {w w' : World} {p : Nat} {F : Nat → Prop} {m : Int} {rows : List Rw} (h : TableAt w p F m rows) (hb : Below w.heap.size w w') : TableAt w' p F m rows :=
  h.kept (H := fun _ => False) (Kept.ofBelow hb) (fun _ _ => id)
theorem TableAt.lt {w : World} {p : Nat} {F : Nat → Prop} {m : Int} {rows : List Rw} (h : TableAt w p F m rows) : ∀ b, F b → b < w.heap.size := by
  obtain ⟨v, mb, n, cb, c, h⟩ := h; exact h.lt

set_option maxHeartbeats 400000 in
theorem hasRow_any (p : Nat) (F : Nat → Prop) (m : Int) (rows : List Rw) (i : Int) (w : World) (h : TableAt w p F m rows) :
    Calls Try.prog 66 #[.pointer (some ⟨p, 0, none⟩), .int .i64 i] w fun e w' => e = .returned (.bool (inB i 0 (rows.length - 1))) ∧ w = w' := by
  obtain ⟨v, mb, n, cb, c, h⟩ := h
  have c1 := h.cell1
  obtain ⟨a, cap, rfl, _, _, _⟩ := h.own.reads
  rw [hsOf_len] at c1
  clear h
  go_enter Try.func66, Try.ntmps66
  go_wp2
  all_goals (go_ret; refine ⟨ret_bool (Bool.eq_iff_iff.2 ?_), rfl⟩; simp [inB]; try omega)

theorem zeroCol (w : World) : (zeroValue 119).run Try.prog w = .ok (.pointer none) w := by kernel_rfl
theorem look2_run {w : World} {b n : Nat} {ks : List Int} {f : Int → Value} (h : MapIs kInt w b n ks f) (a : Int) (ha : I64r a) :
    (Instr.lookup 116 (.map (some b)) (.int .i64 a) true).run Try.prog w = .ok (.tuple #[if a ∈ ks then f a else .pointer none, .bool (decide (a ∈ ks))]) w :=
  h.look2 Try.underlying116 (zeroCol w) a ha

def ColumnPost (w : World) (m k : Int) (cb : Int → Nat) (e : Ending) (w' : World) : Prop :=
  e = .returned (.tuple #[if colE m k = 0 then ptrOf cb k else .pointer none, .int .i64 (colE m k)]) ∧ w = w'

set_option maxHeartbeats 400000 in
theorem column_any {p mb n : Nat} {F : Nat → Prop} {m : Int} {hs : List (Int × Int)} {xs : Int → List Int} {v : Value} {cb : Int → Nat} {c : Nat → Int} (k : Int) (w : World) (h : TabIs w p F m hs xs v mb n cb c) :
    Calls Try.prog 75 #[.pointer (some ⟨p, 0, none⟩), .int .i64 k] w (ColumnPost w m k cb) := by
  have c2 := h.cell2
  cases hk : inB k 0 7
  · have HP : Hid (∀ x, ColumnPost x m k cb (.returned (.tuple #[.pointer none, .int .i64 1])) x) := Lib.hid (fun x => by
      have : colE m k = 1 := by rw [colE, hk]; rfl
      exact ⟨by rw [this]; rfl, rfl⟩)
    rcases inB_f hk with b1 | b1
    all_goals
      go_enter Try.func75, Try.ntmps75
      go_wp2
      go_ret2
      exact HP.out _
  · obtain ⟨b1, b2⟩ := inB_t hk
    obtain ⟨j, rfl⟩ := Int.eq_ofNat_of_zero_le b1
    have hlk := look2_run h.map (j : Int) ⟨by omega, by omega⟩
    have hmem := kinds_iff (m := m) (j := j) (by omega)
    cases ht : tb m j
    · have hn : ¬ (j : Int) ∈ kinds m := fun e => by have := hmem.1 e; rw [ht] at this; cases this
      rw [if_neg hn, decide_eq_false hn] at hlk
      have HP : Hid (∀ x, ColumnPost x m j cb (.returned (.tuple #[.pointer none, .int .i64 5])) x) := Lib.hid (fun x => by
        have : colE m j = 5 := by rw [colE, hk, Int.toNat_natCast, ht]; rfl
        exact ⟨by rw [this]; rfl, rfl⟩)
      clear h hk hmem hn ht
      go_enter Try.func75, Try.ntmps75
      go_wp2
      go_ret2
      exact HP.out _
    · have hn : (j : Int) ∈ kinds m := hmem.2 ht
      rw [if_pos hn, decide_eq_true hn] at hlk
      have HP : Hid (∀ x, ColumnPost x m j cb (.returned (.tuple #[ptrOf cb j, .int .i64 0])) x) := Lib.hid (fun x => by
        have : colE m j = 0 := by rw [colE, hk, Int.toNat_natCast, ht]; rfl
        exact ⟨by rw [this]; rfl, rfl⟩)
      clear h hk hmem hn ht
      go_enter Try.func75, Try.ntmps75
      go_wp2
      go_ret2
      exact HP.out _

theorem box2_block (w : World) (A C : Obj) (cs : Array Value) (T : TypeId) : (((w.alloc A).alloc (.cells cs T)).alloc C).heap[w.heap.size + 1]? = some (.cells cs T) := by
  rw [Below.heap_alloc _ _ _ (by simp)]; exact heap_alloc2_new w A _
theorem box2_cell (w : World) (A C : Obj) (cs : Array Value) (T : TypeId) (j : Nat) : (((w.alloc A).alloc (.cells cs T)).alloc C).cell? ⟨w.heap.size + 1, j, none⟩ = cs[j]? :=
  cell_of_row _ _ _ _ _ _ (box2_block w A C cs T)
theorem box1_block (w : World) (A B C : Obj) : (((w.alloc A).alloc B).alloc C).heap[w.heap.size]? = some A := by
  rw [Below.heap_alloc _ _ _ (by simp; omega)]; exact heap_alloc2_old w A _

theorem vals_at (x : Int) (f : Nat → Int) (j : Nat) (h : j < 8) : (#[.int .i64 x, .int .i64 (f 0), .int .i64 (f 1), .int .i64 (f 2), .int .i64 (f 3), .int .i64 (f 4), .int .i64 (f 5), .int .i64 (f 6), .int .i64 (f 7)] : Array Value)[1 + j]? = some (.int .i64 (f j)) := by
  obtain rfl | rfl | rfl | rfl | rfl | rfl | rfl | rfl : j = 0 ∨ j = 1 ∨ j = 2 ∨ j = 3 ∨ j = 4 ∨ j = 5 ∨ j = 6 ∨ j = 7 := by omega
  all_goals rfl

def AddPost (w : World) (p : Nat) (F : Nat → Prop) (m : Int) (rows : List Rw) (r : Rw) (e : Ending) (w' : World) : Prop :=
  e = .returned (.tuple #[.int .i64 (addN m rows r), .int .i64 (addE m r)]) ∧ ∃ F', TableAt w' p F' m (addL m rows r) ∧ Kept F w w' ∧ Moves w F F'
theorem AddPost.no {w w' : World} {p : Nat} {F : Nat → Prop} {m : Int} {rows : List Rw} {r : Rw} {x : Int} (h : TableAt w p F m rows) (hx : addE m r = x) (h0 : x ≠ 0) (hb : Below w.heap.size w w') : AddPost w p F m rows r (.returned (.tuple #[.int .i64 0, .int .i64 x])) w' := by
  subst hx
  refine ⟨by rw [addN, if_neg h0], F, ?_, Kept.ofBelow hb, Moves.refl _ _⟩
  rw [addL, if_neg h0]; exact h.later hb

set_option maxHeartbeats 2000000 in
theorem tabAdd_any (p : Nat) (F : Nat → Prop) (m : Int) (rows : List Rw) (r : Rw) (w : World) (h : TableAt w p F m rows) (hl : (rows.length + 1) * 16 ≤ 140737488355328) :
    Calls Try.prog 80 #[.pointer (some ⟨p, 0, none⟩), .agg #[.int .i64 r.s, .int .i64 r.g], .agg #[.int .i64 r.m, .int .i64 (r.f 0), .int .i64 (r.f 1), .int .i64 (r.f 2), .int .i64 (r.f 3), .int .i64 (r.f 4), .int .i64 (r.f 5), .int .i64 (r.f 6), .int .i64 (r.f 7)]] w (AddPost w p F m rows r) := by
  have HT := Lib.hid h
  by_cases he : bErr r.m [r.f 0, r.f 1, r.f 2, r.f 3, r.f 4, r.f 5, r.f 6, r.f 7] = 0
  · by_cases hm : r.m = m
    · subst hm
      have HL := Lib.hid hl
      obtain ⟨v, mb, n, cb, c, h⟩ := h
      have HB : Hid (Below w.heap.size w ((w.alloc (.cells #[.int .i64 r.s, .int .i64 r.g] 38)).alloc (.cells #[.int .i64 r.m, .int .i64 (r.f 0), .int .i64 (r.f 1), .int .i64 (r.f 2), .int .i64 (r.f 3), .int .i64 (r.f 4), .int .i64 (r.f 5), .int .i64 (r.f 6), .int .i64 (r.f 7)] 36))) := Lib.hid (nb_alloc (nb_alloc (Below.refl _ _) _) _)
      have HE := Lib.hid he
      have hne : (r.m != r.m) = false := by simp
      clear he
      go_enter Try.func80, Try.ntmps80
      go_wp2_with fail
      refine (checkBeast_any _ _ _ _ _ _ _ _ _ _).mono ?_
      rintro e w' ⟨rfl, hw'⟩
      rw [HE.out]
      have hb' : Below w.heap.size w w' := by rw [← hw']; exact nb_alloc HB.out _
      have c0 := (h.later hb').cell0
      have cb0 : w'.cell? ⟨w.heap.size + 1, 0, none⟩ = some (.int .i64 r.m) := by rw [← hw', box2_cell]; rfl
      have hbb : w'.heap[w.heap.size + 1]? = some (.cells #[.int .i64 r.m, .int .i64 (r.f 0), .int .i64 (r.f 1), .int .i64 (r.f 2), .int .i64 (r.f 3), .int .i64 (r.f 4), .int .i64 (r.f 5), .int .i64 (r.f 6), .int .i64 (r.f 7)] 36) := by rw [← hw']; exact box2_block _ _ _ _ _
      have hbh : w'.heap[w.heap.size]? = some (.cells #[.int .i64 r.s, .int .i64 r.g] 38) := by rw [← hw']; exact box1_block _ _ _ _
      have HB' := Lib.hid hb'
      have HTI := Lib.hid (h.later hb')
      have HBB := Lib.hid hbb
      have HBH := Lib.hid hbh
      clear hw' hb' h hbb hbh
      go_wp2_with fail
      go_quiet (fail)
      go_wp2_with fail
      clear cb0 c0
      have HBW : Hid (Below w.heap.size w (w'.drewN nq).drew) := Lib.hid (nb_drewN HB'.out).drew
      have HTW : Hid (TabIs (w'.drewN nq).drew p F r.m (hsOf rows) (fun k => colOf rows k.toNat) v mb n cb c) := Lib.hid (HTI.out.later (nb_drewN (Below.refl _ _)).drew)
      have HBBW : Hid ((w'.drewN nq).drew.heap[w.heap.size + 1]? = some (.cells #[.int .i64 r.m, .int .i64 (r.f 0), .int .i64 (r.f 1), .int .i64 (r.f 2), .int .i64 (r.f 3), .int .i64 (r.f 4), .int .i64 (r.f 5), .int .i64 (r.f 6), .int .i64 (r.f 7)] 36)) := HBB
      have kh0 : (w'.drewN nq).cell? ⟨w.heap.size, 0, none⟩ = some (.int .i64 r.s) := cell_of_row _ _ _ _ _ _ HBH.out
      have kh1 : (w'.drewN nq).cell? ⟨w.heap.size, 1, none⟩ = some (.int .i64 r.g) := cell_of_row _ _ _ _ _ _ HBH.out
      clear HB' HTI HBB HBH
      generalize w'.drewN nq = W at *
      go_still_tail 4, (by kernel_rfl)
      change wpList _ _ _ _ _ W.drew
      clear kh0 kh1
      generalize W.drew = X at *
      go_wp2_with fail
      refine (hcolAdd_any 1 r.s r.g _ HTW.out.hcol (by rw [hsOf_len]; exact HL.out)).mono ?_
      rintro e w2 ⟨rfl, hp⟩
      obtain ⟨v2, ht2, hk2⟩ := HTW.out.hstep hp
      have hx := HBW.out.size
      have hbbX := (Array.getElem?_eq_some_iff.1 HBBW.out).1
      have hnbb : ¬ growF F X w2 (w.heap.size + 1) := fun e => by
        rcases e with e | e
        · have := HT.out.lt _ e; omega
        · omega
      have hbb2 : w2.heap[w.heap.size + 1]? = some (.cells #[.int .i64 r.m, .int .i64 (r.f 0), .int .i64 (r.f 1), .int .i64 (r.f 2), .int .i64 (r.f 3), .int .i64 (r.f 4), .int .i64 (r.f 5), .int .i64 (r.f 6), .int .i64 (r.f 7)] 36) := by rw [hk2.block _ hbbX (fun e => by have := HT.out.lt _ e; omega)]; exact HBBW.out
      have HK2 : Hid (Kept F w w2) := Lib.hid ((Kept.ofBelow HBW.out).trans hk2 (fun _ h => .inl h))
      have HM2 : Hid (Moves w F (growF F X w2)) := Lib.hid (fun b e => e.imp id (fun h => by omega))
      have HSZ : Hid (w.heap.size ≤ w2.heap.size) := Lib.hid (by have := hk2.size; omega)
      have c2 := ht2.cell2
      have HT2 := Lib.hid ht2
      have HNB := Lib.hid hnbb
      have HBB2 := Lib.hid hbb2
      clear hp ht2 hk2 hx hbbX hnbb hbb2 HTW HBW HBBW
      go_wp2_with (first | (at_range; refine wpList_range_is (K := kInt) _ rfl _ 116 rfl _ Try.underlying116 rfl HT2.out.map ?_))
      intro w3 hrg hb3 hsz3
      have HCL := Lib.hid (ColLoop.start (ys := fun k => colOf (rows ++ [r]) k.toNat) HT2.out hrg hb3)
      clear hrg hb3 hsz3
      go_wp2
      go_loopw [9] (fun _ wr => ∃ todo cnt, Hid (ColLoop w2 wr p (growF F X w2) r.m (hsOf rows ++ [(r.s, r.g)]) (fun k => colOf rows k.toNat) (fun k => colOf (rows ++ [r]) k.toNat) v2 mb n cb w2.heap.size todo cnt)) (fun _ wr => wr.rangeLeft mb w2.heap.size)
      case atStart => exact ⟨_, _, HCL⟩
      case round =>
        obtain ⟨todo, cnt, hcl⟩ := hrel
        clear HCL
        go_wp2_with (first | (at_next; refine wpList_next_is (K := kInt) _ rfl _ rfl rfl hcl.out.range ?_ ?_))
        case refine_1 =>
          rintro rfl
          obtain ⟨F3, c3, ht3, hk3, hm3⟩ := hcl.out.done
          have c1 := ht3.cell1
          obtain ⟨a, cap, hv, -⟩ := ht3.own.reads
          rw [hv, List.length_append, hsOf_len] at c1
          have HEND : Hid (AddPost w p F r.m rows r (.returned (.tuple #[.int .i64 rows.length, .int .i64 0])) wr) := Lib.hid (by
            have h0 : addE r.m r = 0 := by rw [addE, if_pos HE.out, if_pos rfl]
            refine ⟨by rw [addN, if_pos h0, h0], F3, ⟨v2, mb, n, cb, c3, ?_⟩, HK2.out.trans hk3 HM2.out, HM2.out.trans hm3 HSZ.out⟩
            rw [addL, if_pos h0, hsOf_snoc]; exact ht3)
          clear ht3 hk3 hm3 hv hcl
          have hlb := HL.out
          go_wp2
          go_ret2
          exact HEND.out
        case refine_2 =>
          intro k w4 cnt' hk hkm hrg hlt hkp hsz hen
          obtain ⟨u, hc, hnext⟩ := hcl.out.next hk (Nat.le_refl _) hrg hkp hsz
          have hbb4 : w4.heap[w.heap.size + 1]? = some (.cells #[.int .i64 r.m, .int .i64 (r.f 0), .int .i64 (r.f 1), .int .i64 (r.f 2), .int .i64 (r.f 3), .int .i64 (r.f 4), .int .i64 (r.f 5), .int .i64 (r.f 6), .int .i64 (r.f 7)] 36) := by
            obtain ⟨_, _, _, _, hkc, _⟩ := hcl.out
            have hlt2 := (Array.getElem?_eq_some_iff.1 HBB2.out).1
            rw [hkp.block _ (Nat.lt_of_lt_of_le hlt2 hkc.size) (by omega), hkc.block _ hlt2 HNB.out]; exact HBB2.out
          obtain ⟨j, hj, rfl, -⟩ := mem_kindsTo.1 hkm
          have hcv : w4.cell? ⟨w.heap.size + 1, 1 + j, none⟩ = some (.int .i64 (r.f j)) := by rw [cell_of_row _ _ _ _ _ _ hbb4]; exact vals_at r.m r.f j hj
          have HC := Lib.hid hc
          have HNX := Lib.hid hnext
          have HLT := Lib.hid hlt
          have hcb := hc.lt
          have hbl := (Array.getElem?_eq_some_iff.1 hbb4).1
          replace hen : (Instr.entry (.pointer (some ⟨w2.heap.size, 0, none⟩))).run Try.prog w4 = .ok (.tuple #[.int .i64 j, .pointer (some ⟨cb j, 0, none⟩)]) w4 := hen
          simp only [ptrOf, show kInt.val (j : Int) = .int .i64 j from rfl]
          clear hc hnext hbb4 hkp hrg hlt hsz hk hkm
          go_wp2_with fail
          refine (colAdd_any 0 (r.f j) _ HC.out (by rw [colOf_len]; have := HL.out; omega)).mono ?_
          rintro e w5 ⟨rfl, hp⟩
          have HN := Lib.hid (HNX.out w5 (by rw [Int.toNat_natCast] at hp; rw [colOf_snoc, Int.toNat_natCast]; exact hp))
          clear hp
          go_wp2
          go_roundw
          case rel => exact ⟨_, _, HN⟩
          case measure => rw [HN.out.range.left_eq, hcl.out.range.left_eq]; exact HLT.out
    · have HP : Hid (∀ w', Below w.heap.size w w' → AddPost w p F m rows r (.returned (.tuple #[.int .i64 0, .int .i64 4])) w') := Lib.hid (fun w' hb => AddPost.no HT.out (by rw [addE, if_pos he, if_neg hm]) (by decide) hb)
      have hne : (r.m != m) = true := by simpa using hm
      obtain ⟨v, mb, n, cb, c, h⟩ := h
      have HB : Hid (Below w.heap.size w ((w.alloc (.cells #[.int .i64 r.s, .int .i64 r.g] 38)).alloc (.cells #[.int .i64 r.m, .int .i64 (r.f 0), .int .i64 (r.f 1), .int .i64 (r.f 2), .int .i64 (r.f 3), .int .i64 (r.f 4), .int .i64 (r.f 5), .int .i64 (r.f 6), .int .i64 (r.f 7)] 36))) := Lib.hid (nb_alloc (nb_alloc (Below.refl _ _) _) _)
      have HE := Lib.hid he
      clear he hm
      go_enter Try.func80, Try.ntmps80
      go_wp2_with fail
      refine (checkBeast_any _ _ _ _ _ _ _ _ _ _).mono ?_
      rintro e w' ⟨rfl, hw'⟩
      rw [HE.out]
      have hb' : Below w.heap.size w w' := by rw [← hw']; exact nb_alloc HB.out _
      have c0 := (h.later hb').cell0
      have cb0 : w'.cell? ⟨w.heap.size + 1, 0, none⟩ = some (.int .i64 r.m) := by rw [← hw', box2_cell]; rfl
      have HB' := Lib.hid hb'
      clear hw' hb' h
      go_wp2_with fail
      go_quiet (fail)
      go_wp2
      go_ret2
      exact HP.out _ (nb_drewN HB'.out)
  · have HP : Hid (∀ w', Below w.heap.size w w' → AddPost w p F m rows r (.returned (.tuple #[.int .i64 0, .int .i64 (bErr r.m [r.f 0, r.f 1, r.f 2, r.f 3, r.f 4, r.f 5, r.f 6, r.f 7])])) w') := Lib.hid (fun w' hb => AddPost.no HT.out (by rw [addE, if_neg he]) he hb)
    generalize hE : bErr r.m [r.f 0, r.f 1, r.f 2, r.f 3, r.f 4, r.f 5, r.f 6, r.f 7] = E at *
    have HE := Lib.hid hE
    clear hE
    have hne : (E != 0) = true := by simpa using he
    have HB : Hid (Below w.heap.size w ((w.alloc (.cells #[.int .i64 r.s, .int .i64 r.g] 38)).alloc (.cells #[.int .i64 r.m, .int .i64 (r.f 0), .int .i64 (r.f 1), .int .i64 (r.f 2), .int .i64 (r.f 3), .int .i64 (r.f 4), .int .i64 (r.f 5), .int .i64 (r.f 6), .int .i64 (r.f 7)] 36))) := Lib.hid (nb_alloc (nb_alloc (Below.refl _ _) _) _)
    clear he
    go_enter Try.func80, Try.ntmps80
    go_wp2_with fail
    refine (checkBeast_any _ _ _ _ _ _ _ _ _ _).mono ?_
    rintro e w' ⟨rfl, hw'⟩
    rw [HE.out]
    have HB' : Hid (Below w.heap.size w w') := Lib.hid (by rw [← hw']; exact nb_alloc HB.out _)
    clear hw'
    go_wp2
    go_ret2
    exact HP.out _ HB'.out
end Go.Proofs.Ytakoejopgdaknaa

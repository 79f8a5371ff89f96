
/- The contract of the reference's Adopt. -/
import Derived.Test.YtndhomjfjhohoaaGreatDoorGroundI
import Derived.Test.YtndhomjfjhohoaaGreatDoorGroundH
import Derived.Deep.RegionHeld3
import Derived.Laws.OwnMore
namespace Go.Proofs.YtndhomjfjhohoaaGreatDoor
set_option maxRecDepth 8000
set_option maxRecDepth 8000
open Go.RowKit

/-- An append of any number of elements, as one step of a region that draws. -/
theorem stepB_append {P : Program} {w : World} {ops : Array Oper} {o : Oper} {a : Act} {K : Act → World → Prop} {Q : Exit → Act → World → Prop} {E : Prop} (hw : Region.wanted o (yielded ops a.tmps) = true) (s x : Operand) (t : TypeId)
    (ho : o.op = .call { callee := .builtin .append, args := #[s, x], argTypes := #[t, t] })
    (base : Nat) (e : TypeId) (i : TypeInfo) (z : Value) (size bytes : Nat) (ht : P.underlying t = some (.slice e)) (hi : P.info? e = some i) (hz : i.zero = some z)
    (hsize : i.size = size) (hby : i.bytes = bytes) (hzs : z.cells.size = size) (hsz : 0 < size)
    (v : Value) (n : Nat) (xs : List Value) (hs : a.eval s = v) (hown : w.ownsRow base e size v n xs)
    (ad : Addr) (m c : Nat) (news : List Value) (hx : a.eval x = .slice (some ad) m c) (hl : news.length = m * size) (hnews : ∀ j u, news[j]? = some u → w.cell? (ad.add j) = some u) (h1 : ∀ u ∈ news, u.oneCell' = true)
    (h63 : n + m ≤ maxLen) (hbytes : (n + m) * bytes ≤ 140737488355328) (hbase : base ≤ w.heap.size)
    (h : ∀ v' w', w'.ownsRow base e size v' (n + m) (xs ++ news) → w.grownBy w' v.ownBlock → (v' = .slice none 0 0 ↔ v = .slice none 0 0 ∧ m = 0) → K (a.put o.dst v') w') :
    if Region.wanted o (yielded ops a.tmps) = true then Oper.wp P o a w K Q else E := by
  rw [if_pos hw]
  exact wp_append_own w s x t ho base e i z size bytes ht hi hz hsize hby hzs hsz v n xs hs hown ad m c news hx hl hnews h1 h63 hbytes hbase h
theorem stepB_append_none {P : Program} {w : World} {ops : Array Oper} {o : Oper} {a : Act} {K : Act → World → Prop} {Q : Exit → Act → World → Prop} {E : Prop} (hw : Region.wanted o (yielded ops a.tmps) = true) (s x : Operand) (t : TypeId)
    (ho : o.op = .call { callee := .builtin .append, args := #[s, x], argTypes := #[t, t] })
    (base : Nat) (e : TypeId) (i : TypeInfo) (size : Nat) (ht : P.underlying t = some (.slice e)) (hi : P.info? e = some i)
    (v : Value) (n : Nat) (xs : List Value) (hs : a.eval s = v) (hown : w.ownsRow base e size v n xs) (hx : a.eval x = .slice none 0 0)
    (h : K (a.put o.dst v) w) : if Region.wanted o (yielded ops a.tmps) = true then Oper.wp P o a w K Q else E := by
  rw [if_pos hw]
  have hrun := run_append_owned_none (P := P) (w := w) base t o.type e i size ht hi v n xs hown
  unfold Oper.wp
  simp [execOp, ho, resolve, invoke, builtin, hs, hx, hrun, Result.andThen]
  exact h

set_option maxHeartbeats 2000000 in
theorem less_any (a b c d : Int) (g : Bool) (w : World) (hg : decide (hlt (a, b) (c, d)) = g) :
    Calls Tryz.prog 104 #[.agg #[.int .i64 a, .int .i64 b], .agg #[.int .i64 c, .int .i64 d]] w fun e w' => e = .returned (.bool g) ∧ Below w.heap.size w w' := by
  have HB : Hid (∀ o o', Below w.heap.size w ((w.alloc o).alloc o')) := Lib.hid (fun o o' => nb_alloc (nb_alloc (Below.refl _ _) o) o')
  have HG : Hid (∀ x : Bool, (x = true ↔ hlt (a, b) (c, d)) → x = g) := Lib.hid (fun x hx => by
    rw [← hg]
    cases x
    · exact (decide_eq_false (fun h => by have := hx.2 h; cases this)).symm
    · exact (decide_eq_true (hx.1 rfl)).symm)
  clear hg
  by_cases h1 : a < c
  · go_enter Tryz.func104, Tryz.ntmps104
    go_wp2
    go_ret
    exact ⟨ret_bool (HG.out true ⟨fun _ => .inl h1, fun _ => rfl⟩), HB.out _ _⟩
  · cases h2 : (a == c)
    · have HNE : Hid (a ≠ c) := Lib.hid (by simpa using h2)
      go_enter Tryz.func104, Tryz.ntmps104
      go_wp2
      go_ret
      exact ⟨ret_bool (HG.out false ⟨fun h => (by cases h), fun h => (by have := HNE.out; unfold hlt at h; simp only at h; omega)⟩), HB.out _ _⟩
    · have HEQ : Hid (a = c) := Lib.hid (eq_of_beq h2)
      by_cases h3 : b < d
      · go_enter Tryz.func104, Tryz.ntmps104
        go_wp2
        go_ret
        exact ⟨ret_bool (HG.out true ⟨fun _ => .inr ⟨HEQ.out, h3⟩, fun _ => rfl⟩), HB.out _ _⟩
      · go_enter Tryz.func104, Tryz.ntmps104
        go_wp2
        go_ret
        exact ⟨ret_bool (HG.out false ⟨fun h => (by cases h), fun h => (by unfold hlt at h; simp only at h; omega)⟩), HB.out _ _⟩

theorem nilOwns (w : World) (B : Nat) : w.ownsRow B 58 4 (.slice none 0 0) 0 [] := World.ownsRow_nil _ _ _ _
set_option maxHeartbeats 2000000 in
theorem copyBond_any (ad : Option Addr) (k cap : Nat) (xs : List Bd) (w : World) (h : Reads elBond w (.slice ad k cap) xs) (hn : xs.length * 32 ≤ 140737488355328) (hs : (∃ g off, ad = some ⟨g, off, none⟩) ∨ (ad = none ∧ k = 0 ∧ cap = 0)) :
    Calls Tryz.prog 105 #[.slice ad k cap] w (SelPost w xs) := by
  obtain ⟨i0, hi, hz0, hz1, hz2⟩ := info_parts infoBond
  rcases hs with ⟨g, off, rfl⟩ | ⟨rfl, rfl, rfl⟩
  · obtain ⟨a', cap', e, hl, hm, hc⟩ := h
    simp only [Value.slice.injEq] at e
    obtain ⟨rfl, rfl, rfl⟩ := e
    have HC : Hid (∀ j u, (xs.flatMap elBond.enc)[j]? = some u → w.cell? ((⟨g, off, none⟩ : Addr).add j) = some u) := Lib.hid (fun j u hu => by
      have hjl := (List.getElem?_eq_some_iff.1 hu).1
      rw [length_enc] at hjl
      have hjl' : j < xs.length * 4 := hjl
      obtain ⟨b0, off0, e0, hb0, hcc⟩ := hc (j / 4) (by omega)
      simp only [Option.some.injEq, Addr.mk.injEq, and_true] at e0
      obtain ⟨rfl, rfl⟩ := e0
      have h9 := hcc (j % 4) (Nat.mod_lt _ (by decide))
      have h8 := enc_at elBond xs (j / 4) (j % 4) (by omega) (Nat.mod_lt _ (by decide))
      rw [show elBond.size = 4 from rfl] at h8 h9
      rw [show j / 4 * 4 + j % 4 = j by omega] at h8
      rw [show off + j / 4 * 4 + j % 4 = off + j by omega] at h9
      rw [addr_add', h9, ← h8]; exact hu)
    have HL : Hid (xs.length ≤ maxLen) := Lib.hid (Nat.le_trans hl hm)
    clear hc
    go_enter Tryz.func105, Tryz.ntmps105
    go_wp2_with (first | (at_builtin; refine wpList_append_own _ rfl _ _ 24 rfl w.heap.size 58 i0 _ 4 32 Tryz.underlying24 hi hz0 hz1 hz2 rfl (by decide) _ 0 [] rfl (nilOwns w _) ⟨g, off, none⟩ xs.length cap (xs.flatMap elBond.enc) rfl (length_enc elBond xs) HC.out (by intro u hu; obtain ⟨x, _, hx⟩ := List.mem_flatMap.1 hu; exact elBond.one x u hx) (by rw [Nat.zero_add]; exact HL.out) ?d4 (Nat.le_refl _) ?_))
    case d4 => omega
    intro v' w2 hown hgr hnil
    have HB2 : Hid (Below w.heap.size w w2) := Lib.hid ((Below.refl _ _).grown hgr (Nat.le_refl _) (fun j hj => by simp [Value.ownBlock] at hj))
    have HO2 : Hid (OwnsF elBond w2 w.heap.size 58 v' xs) := Lib.hid hown
    clear hown hgr hnil
    go_wp2
    go_ret
    exact ⟨_, rfl, HO2.out, HB2.out⟩
  · obtain ⟨a', cap', e, _⟩ := h
    simp only [Value.slice.injEq] at e
    have hx0 : xs = [] := List.length_eq_zero_iff.1 e.2.1.symm
    subst hx0
    clear e hn
    go_enter Tryz.func105, Tryz.ntmps105
    go_wp2
    go_ret
    exact ⟨_, rfl, OwnsF.nil _ _ _ _, Below.refl _ _⟩

theorem setS {x : World} {q k : Nat} {a b c d v : Value} (h : x.cell? ⟨k, 0, none⟩ = some a ∧ x.cell? ⟨k, 1, none⟩ = some b ∧ x.cell? ⟨k + 1, 0, none⟩ = some c ∧ x.cell? ⟨k + 1, 1, none⟩ = some d) (h1 : k ≠ q) (h2 : k + 1 ≠ q) :
    (x.setCell ⟨q, 3, none⟩ v).cell? ⟨k, 0, none⟩ = some a ∧ (x.setCell ⟨q, 3, none⟩ v).cell? ⟨k, 1, none⟩ = some b ∧ (x.setCell ⟨q, 3, none⟩ v).cell? ⟨k + 1, 0, none⟩ = some c ∧ (x.setCell ⟨q, 3, none⟩ v).cell? ⟨k + 1, 1, none⟩ = some d := by
  have e1 := heap_setCell_other x ⟨q, 3, none⟩ k v h1
  have e2 := heap_setCell_other x ⟨q, 3, none⟩ (k + 1) v h2
  exact ⟨by rw [World.cell?_of_block (a := ⟨k, 0, none⟩) e1]; exact h.1, by rw [World.cell?_of_block (a := ⟨k, 1, none⟩) e1]; exact h.2.1, by rw [World.cell?_of_block (a := ⟨k + 1, 0, none⟩) e2]; exact h.2.2.1, by rw [World.cell?_of_block (a := ⟨k + 1, 1, none⟩) e2]; exact h.2.2.2⟩
theorem dropCells {w3 Y : World} {g n t : Nat} {ls : List Bd} (hc : ∀ t, t < n → ∀ j, j < 4 → w3.cell? ⟨g, t * 4 + j, none⟩ = (elBond.enc (ls.getD t bdZ))[j]?) (hl : ls.length = n) (hY : Below w3.heap.size w3 Y) (hg : g < w3.heap.size) {j : Nat} {u : Value} (hu : ((ls.drop t).flatMap elBond.enc)[j]? = some u) : Y.cell? ((⟨g, t * 4, none⟩ : Addr).add j) = some u := by
  have hjl := (List.getElem?_eq_some_iff.1 hu).1
  rw [length_enc, List.length_drop, hl] at hjl
  have hjl' : j < (n - t) * 4 := hjl
  have h8 := enc_at elBond (ls.drop t) (j / 4) (j % 4) (by rw [List.length_drop, hl]; omega) (Nat.mod_lt _ (by decide))
  rw [show elBond.size = 4 from rfl, show j / 4 * 4 + j % 4 = j by omega] at h8
  have h9 := hc (t + j / 4) (by omega) (j % 4) (Nat.mod_lt _ (by decide))
  rw [addr_add', hY.cell (p := ⟨g, _, none⟩) hg, show t * 4 + j = (t + j / 4) * 4 + j % 4 by omega, h9, ← hu, h8, List.getD_eq_getElem?_getD, List.getD_eq_getElem?_getD, List.getElem?_drop]
  rfl
theorem ownsIns {w : World} {B n t : Nat} {v : Value} {ls : List Bd} {x : Bd} (h : w.ownsRow B 58 4 v ((ls.take t).length + 1 + (n - t)) (((ls.take t).flatMap elBond.enc ++ elBond.enc x) ++ (ls.drop t).flatMap elBond.enc)) (hl : (ls.drop t).length = n - t) : OwnsF elBond w B 58 v (ls.take t ++ x :: ls.drop t) := by
  unfold OwnsF
  rw [List.flatMap_append, List.length_append, List.flatMap_cons, List.length_cons, hl, ← List.append_assoc, show (ls.take t).length + (n - t + 1) = (ls.take t).length + 1 + (n - t) by omega]
  exact h
theorem eqH_run (a b c d : Int) (x : Bool) (h : ((a == c) && (b == d)) = x) (w : World) : (Op.equalIn 10000 49 (.agg #[.int .i64 a, .int .i64 b]) (.agg #[.int .i64 c, .int .i64 d])).run Tryz.prog w = .ok x w := by
  subst h
  cases h1 : (a == c) <;> cases h2 : (b == d) <;> simp [h1, h2, go_sem]
set_option maxHeartbeats 8000000 in
theorem refAdopt_any (q : Nat) (G : Nat → Prop) (bs : List Bd) (a b c d : Int) (w : World) (h : BonAt w q G bs) (ok : FOk bs) (hn : bs.length * 32 ≤ 140737488300000) :
    Calls Tryz.prog 67 #[.pointer (some ⟨q, 0, none⟩), .agg #[.int .i64 a, .int .i64 b], .agg #[.int .i64 c, .int .i64 d]] w (BonPost w q G (.int .i64 (adoptE bs (a, b) (c, d))) (adoptB bs (a, b) (c, d))) := by
  obtain ⟨i0, hi, hz0, hz1, hz2⟩ := info_parts infoBond
  have H0 := Lib.hid h
  obtain ⟨dd, M, hac⟩ := ok.acy
  have HAC := Lib.hid hac
  have HOK := Lib.hid ok
  have HN := Lib.hid hn
  obtain ⟨U, hU⟩ : ∃ U, under bs M (a, b) = U := ⟨_, rfl⟩
  have HUM : Hid (∀ y, y ∈ U ↔ Und bs y (a, b)) := Lib.hid (fun y => by rw [← hU]; exact hac.in_under)
  have HUND : Hid (∀ W, BonAt W q G bs → Calls Tryz.prog 101 #[.pointer (some ⟨q, 0, none⟩), .agg #[.int .i64 a, .int .i64 b]] W (HandsPost W U)) := Lib.hid (fun W hW => by rw [← hU]; exact refUnder_any q G bs dd M ok.sorted hac (by omega) _ a b W (Nat.le_refl _) hW)
  have HX : Hid (Below w.heap.size w ((w.alloc (.cells #[.int .i64 a, .int .i64 b] 49)).alloc (.cells #[.int .i64 c, .int .i64 d] 49))) := Lib.hid (nb_alloc (nb_alloc (Below.refl _ _) _) _)
  have HXA : Hid (((w.alloc (.cells #[.int .i64 a, .int .i64 b] 49)).alloc (.cells #[.int .i64 c, .int .i64 d] 49)).heap[w.heap.size]? = some (.cells #[.int .i64 a, .int .i64 b] 49)) := Lib.hid (heap_alloc2_old _ _ _)
  have HXB : Hid (((w.alloc (.cells #[.int .i64 a, .int .i64 b] 49)).alloc (.cells #[.int .i64 c, .int .i64 d] 49)).heap[w.heap.size + 1]? = some (.cells #[.int .i64 c, .int .i64 d] 49)) := Lib.hid (heap_alloc2_new _ _ _)
  clear h hac ok hU
  go_enter Tryz.func67, Tryz.ntmps67
  go_wp2_with fail
  generalize (w.alloc (.cells #[.int .i64 a, .int .i64 b] 49)).alloc (.cells #[.int .i64 c, .int .i64 d] 49) = X at *
  have hxl := (Array.getElem?_eq_some_iff.1 HXB.out).1
  have HCE : Hid (∀ Y, Below X.heap.size X Y → (Y.cell? ⟨w.heap.size, 0, none⟩ = some (.int .i64 a) ∧ Y.cell? ⟨w.heap.size, 1, none⟩ = some (.int .i64 b) ∧ Y.cell? ⟨w.heap.size + 1, 0, none⟩ = some (.int .i64 c) ∧ Y.cell? ⟨w.heap.size + 1, 1, none⟩ = some (.int .i64 d))) := Lib.hid (fun Y hY => by
    have h1 : Y.heap[w.heap.size]? = _ := (hY.block _ (by omega)).trans HXA.out
    have h2 : Y.heap[w.heap.size + 1]? = _ := (hY.block _ hxl).trans HXB.out
    refine ⟨?_, ?_, ?_, ?_⟩
    · rw [cell_of_row _ _ _ _ _ _ h1]; rfl
    · rw [cell_of_row _ _ _ _ _ _ h1]; rfl
    · rw [cell_of_row _ _ _ _ _ _ h2]; rfl
    · rw [cell_of_row _ _ _ _ _ _ h2]; rfl)
  obtain ⟨c0, c1, c2, c3⟩ := HCE.out X (Below.refl _ _)
  have hl0 : w.heap.size < X.heap.size := by omega
  have HL1 : Hid (w.heap.size + 1 < X.heap.size) := Lib.hid hxl
  by_cases heq : (a, b) = (c, d)
  · have HP := Lib.hid (adoptB_yes (bs := bs) (c := (a, b)) (p := (c, d)) (.inl heq))
    simp only [Prod.mk.injEq] at heq
    have e1 : (a == c) = true := by simpa using heq.1
    have e2 : (b == d) = true := by simpa using heq.2
    clear heq
    go_quiet (fail)
    have HEND : Hid (BonPost w q G (.int .i64 (adoptE bs (a, b) (c, d))) (adoptB bs (a, b) (c, d)) (.returned (.int .i64 8)) (X.drewN nq)) := Lib.hid (by rw [HP.out.1, HP.out.2]; exact BonPost.same H0.out (nb_trans HX.out (nb_drewN (n := nq) (Below.refl _ _))))
    go_wp2
    go_ret
    exact HEND.out
  · have HNE := Lib.hid heq
    have hcmp : ((a == c) && (b == d)) = false := by
      cases h1 : (a == c) <;> cases h2 : (b == d)
      case true.true => exact absurd (Prod.ext (eq_of_beq h1) (eq_of_beq h2)) heq
      all_goals rfl
    have hrun := eqH_run a b c d false hcmp
    clear hcmp
    clear heq
    by_cases hlo : (c, d) ∈ U
    · as_aux_lemma =>
      have HP := Lib.hid (adoptB_yes (bs := bs) (c := (a, b)) (p := (c, d)) (.inr ((HUM.out _).1 hlo)))
      have HLO := Lib.hid hlo
      clear hlo
      go_region_held3 (fun x => (x.cell? ⟨w.heap.size, 0, none⟩ = some (.int .i64 a) ∧ x.cell? ⟨w.heap.size, 1, none⟩ = some (.int .i64 b) ∧ x.cell? ⟨w.heap.size + 1, 0, none⟩ = some (.int .i64 c) ∧ x.cell? ⟨w.heap.size + 1, 1, none⟩ = some (.int .i64 d))) (first | go_keep | exact HCE.out _ Ba.out | exact HCE.out _ Bb.out) (first
        | ((go_at_call 101; refine (HUND.out _ (H0.out.later (nb_trans HX.out (Below.refl _ _).drew))).mono ?_; rintro e xa ⟨va, rfl, ho, hb⟩; have Ra := Lib.hid ho.reads; have Ba : Hid (Below X.heap.size X xa) := Lib.hid (nb_trans (Below.refl _ _).drew hb); clear ho hb))
        | ((go_at_call 100; refine (hasHand_any _ U c d _ Ra.out).mono ?_; rintro e xb ⟨rfl, hb⟩; rw [decide_eq_true HLO.out]; have Bb := Lib.hid (nb_trans Ba.out hb); clear hb)))
      have HEND : Hid (BonPost w q G (.int .i64 (adoptE bs (a, b) (c, d))) (adoptB bs (a, b) (c, d)) (.returned (.int .i64 8)) xb) := Lib.hid (by rw [HP.out.1, HP.out.2]; exact BonPost.same H0.out (nb_trans HX.out Bb.out))
      go_wp2
      go_ret
      exact HEND.out
    · as_aux_lemma =>
      have HNL : Hid (¬ Loops bs (a, b) (c, d)) := Lib.hid (fun h => h.elim HNE.out (fun u => hlo ((HUM.out _).2 u)))
      have HP := Lib.hid (adoptB_no HNL.out)
      have HLO := Lib.hid hlo
      clear hlo
      go_region_held3 (fun x => (x.cell? ⟨w.heap.size, 0, none⟩ = some (.int .i64 a) ∧ x.cell? ⟨w.heap.size, 1, none⟩ = some (.int .i64 b) ∧ x.cell? ⟨w.heap.size + 1, 0, none⟩ = some (.int .i64 c) ∧ x.cell? ⟨w.heap.size + 1, 1, none⟩ = some (.int .i64 d))) (first | go_keep | exact HCE.out _ Ba.out | exact HCE.out _ Bb.out) (first
        | ((go_at_call 101; refine (HUND.out _ (H0.out.later (nb_trans HX.out (Below.refl _ _).drew))).mono ?_; rintro e xa ⟨va, rfl, ho, hb⟩; have Ra := Lib.hid ho.reads; have Ba : Hid (Below X.heap.size X xa) := Lib.hid (nb_trans (Below.refl _ _).drew hb); clear ho hb))
        | ((go_at_call 100; refine (hasHand_any _ U c d _ Ra.out).mono ?_; rintro e xb ⟨rfl, hb⟩; rw [decide_eq_false HLO.out]; have Bb := Lib.hid (nb_trans Ba.out hb); clear hb)))
      obtain ⟨v0, v1, v2, vB, hbi⟩ := H0.out
      have HBI := Lib.hid hbi
      obtain ⟨cq, fq, hql⟩ := (hbi.later (nb_trans HX.out Bb.out)).cell
      clear c0 c1 c2 c3 hl0 hxl hbi
      go_wp2_with fail
      refine (withoutAdopt_any _ bs w.heap.size a b _ (HBI.out.later (nb_trans HX.out Bb.out)).own.reads (by have := HN.out; omega) (by rw [Bb.out.block _ (by have := HL1.out; omega)]; exact HXA.out)).mono ?_
      rintro e w3 ⟨vl, rfl, ho3, hb3⟩
      change OwnsF elBond w3 xb.heap.size 58 vl (rmB bs (a, b)) at ho3
      have HLN : Hid ((rmB bs (a, b)).length ≤ bs.length) := Lib.hid (rmB_len _ _)
      obtain ⟨ls, hls⟩ : ∃ ls, rmB bs (a, b) = ls := ⟨_, rfl⟩
      rw [hls] at ho3 HP HLN
      have HO3 := Lib.hid ho3
      have HB3 : Hid (Below X.heap.size X w3) := Lib.hid (nb_trans Bb.out hb3)
      have HRD := Lib.hid ho3.reads
      clear hb3 hls cq fq hql
      obtain ⟨n, hln⟩ : ∃ n, ls.length = n := ⟨_, rfl⟩
      have HLS := Lib.hid hln
      have hnn : n * 32 ≤ 140737488300000 := by have := HLN.out; have := HN.out; omega
      have hsz3 : X.heap.size ≤ w3.heap.size := HB3.out.size
      rcases ho3.owns.form with ⟨rfl, hl0⟩ | ⟨g, cap, cur, rfl, hh3, hg3, hnc, hcm, hsz⟩
      · have hn0 : n = 0 := by rw [← HLS.out, hl0]; rfl
        obtain ⟨t, ht0⟩ : ∃ t : Nat, t = 0 := ⟨0, rfl⟩
        have HRT : Hid (∀ Y, Below w3.heap.size w3 Y → Reads elBond Y (.slice none 0 0) (ls.take t)) := Lib.hid (fun Y _ => by rw [hl0, List.take_nil]; exact (Owns.nil elBond Y 58).reads)
        have HINS : Hid (insB ls ((a, b), (c, d)) = ls.take t ++ ((a, b), (c, d)) :: ls.drop t) := Lib.hid (by rw [hl0, List.take_nil, List.drop_nil]; rfl)
        have HDR : Hid (ls.take t ++ ((a, b), (c, d)) :: ls.drop t = ls.take t ++ [((a, b), (c, d))]) := Lib.hid (by rw [hl0, List.take_nil, List.drop_nil])
        clear ho3 hln hl0
        go_wp2
        go_loopw [8] (fun v8 wr => v8 = .int .i64 0 ∧ wr = w3) (fun _ _ => 0)
        case atStart => exact ⟨rfl, rfl⟩
        case round =>
          obtain ⟨rfl, rfl⟩ := hrel
          go_wp2_with fail
          go_quiet (fail)
          go_wp2_with fail
          obtain ⟨Z, hZ⟩ : ∃ Z, wr.drewN nq = Z := ⟨_, rfl⟩
          have HZ3 : Hid (Below wr.heap.size wr Z) := Lib.hid (by rw [← hZ]; exact nb_drewN (Below.refl _ _))
          rw [hZ]
          clear hZ
          have HTL : Hid ((ls.take t).length = t) := Lib.hid (by rw [List.length_take, HLS.out]; omega)
          have HDL : Hid ((ls.drop t).length = n - t) := Lib.hid (by rw [List.length_drop, HLS.out])
          have HBX9 : Hid (Below X.heap.size X Z) := Lib.hid (nb_trans HB3.out HZ3.out)
          have HTN : Hid ((ls.take t).length * 32 ≤ 140737488355328) := Lib.hid (by rw [HTL.out]; omega)
          obtain ⟨c0, c1, c2, c3⟩ := HCE.out Z HBX9.out
          have hl0 : w.heap.size < Z.heap.size := by have := HL1.out; have := HBX9.out.size; omega
          have hl1 : w.heap.size + 1 < Z.heap.size := by have := HL1.out; have := HBX9.out.size; omega
          have HBI9 := Lib.hid (HBI.out.later (nb_trans HX.out HBX9.out))
          have HQN : Hid (w.heap.size ≠ q ∧ w.heap.size + 1 ≠ q) := Lib.hid (by have := HBI.out.lt q HBI.out.at_; omega)
          have HCP : Hid (∀ Y, Below Z.heap.size Z Y → Calls Tryz.prog 105 #[.slice none 0 0] Y (SelPost Y (ls.take t))) := Lib.hid (fun Y hY => copyBond_any none 0 0 (ls.take t) Y (HRT.out _ (nb_trans HZ3.out hY)) HTN.out (.inr ⟨rfl, rfl, rfl⟩))
          go_region_held3 (fun x => (x.cell? ⟨w.heap.size, 0, none⟩ = some (.int .i64 a) ∧ x.cell? ⟨w.heap.size, 1, none⟩ = some (.int .i64 b) ∧ x.cell? ⟨w.heap.size + 1, 0, none⟩ = some (.int .i64 c) ∧ x.cell? ⟨w.heap.size + 1, 1, none⟩ = some (.int .i64 d))) (first | go_keep | exact HCE.out _ (nb_trans HBX9.out Bn1.out) | exact HCE.out _ (nb_trans HBX9.out HB2c.out) | exact HCE.out _ (nb_trans HBX9.out HBF.out) | exact setS (HCE.out _ (nb_trans HBX9.out HBF.out)) HQN.out.1 HQN.out.2) (first
            | ((go_at_call 105; (first | with_reducible refine (HCP.out Z.drew (Below.refl _ Z).drew).mono ?_ | with_reducible refine (HCP.out (Z.alloc (.cells #[.int .i64 a, .int .i64 b, .int .i64 c, .int .i64 d] 58)).drew (nb_alloc (Below.refl _ Z) _).drew).mono ?_); rintro e x1 ⟨v1c, rfl, ho, hb⟩; have Bn1 : Hid (Below Z.heap.size Z x1) := Lib.hid (by first | exact nb_trans (Below.refl _ Z).drew hb | exact nb_trans (nb_alloc (Below.refl _ Z) (.cells #[.int .i64 a, .int .i64 b, .int .i64 c, .int .i64 d] 58)).drew hb); have HO1b := Lib.hid (ho.weaken (B := Z.heap.size) (by simp)); have HO1a := Lib.hid (HO1b.out.later (nb_alloc (Below.refl _ _) (.cells #[.int .i64 a, .int .i64 b, .int .i64 c, .int .i64 d] 58))); have HB1a : Hid (Below Z.heap.size Z (x1.alloc (.cells #[.int .i64 a, .int .i64 b, .int .i64 c, .int .i64 d] 58))) := Lib.hid (nb_alloc Bn1.out _); (first | have HNb : Hid (x1.heap[Z.heap.size]? = some (.cells #[.int .i64 a, .int .i64 b, .int .i64 c, .int .i64 d] 58)) := Lib.hid (by rw [hb.block _ (by simp)]; exact heap_alloc_new Z _) | skip); clear ho hb))
            | ((refine stepB_append (by rfl) _ _ 24 (by rfl) Z.heap.size 58 i0 _ 4 32 Tryz.underlying24 hi hz0 hz1 hz2 rfl (by decide) v1c (ls.take t).length ((ls.take t).flatMap elBond.enc) (by rfl) HO1a.out ⟨x1.heap.size, 0, none⟩ 1 1 [.int .i64 a, .int .i64 b, .int .i64 c, .int .i64 d] (by rfl) rfl (World.news_of_block (heap_alloc_new _ _)) (elBond.one ((a, b), (c, d))) (by rw [HTL.out]; unfold maxLen; omega) (by rw [HTL.out]; omega) HB1a.out.size ?_; intro v2c w2c hown hgr hnil; have HO2 := Lib.hid hown; have HB2c : Hid (Below Z.heap.size Z w2c) := Lib.hid (HB1a.out.grown hgr HB1a.out.size (fun j hj => HO1a.out.ge hj)); clear HO1a HO1b hown hgr hnil))
            | ((refine stepB_append (by rfl) _ _ 24 (by rfl) Z.heap.size 58 i0 _ 4 32 Tryz.underlying24 hi hz0 hz1 hz2 rfl (by decide) v1c (ls.take t).length ((ls.take t).flatMap elBond.enc) (by rfl) HO1b.out ⟨Z.heap.size, 0, none⟩ 1 1 [.int .i64 a, .int .i64 b, .int .i64 c, .int .i64 d] (by rfl) rfl (World.news_of_block HNb.out) (elBond.one ((a, b), (c, d))) (by rw [HTL.out]; unfold maxLen; omega) (by rw [HTL.out]; omega) Bn1.out.size ?_; intro v2c w2c hown hgr hnil; have HO2 := Lib.hid hown; have HB2c : Hid (Below Z.heap.size Z w2c) := Lib.hid (Bn1.out.grown hgr Bn1.out.size (fun j hj => HO1b.out.ge hj)); clear HO1a HO1b hown hgr hnil))
            | ((refine stepB_append_none (by rfl) _ _ 24 (by rfl) Z.heap.size 58 i0 4 Tryz.underlying24 hi v2c ((ls.take t).length + 1) _ (by rfl) HO2.out (by rfl) ?_; have HOF : Hid (OwnsF elBond w2c Z.heap.size 58 v2c (insB ls ((a, b), (c, d)))) := Lib.hid (by rw [HINS.out, HDR.out]; exact OwnsF.snoc (x := ((a, b), (c, d))) HO2.out); have HBF := HB2c; clear HO2; obtain ⟨cq9, fq9, hql9⟩ := (HBI9.out.later HBF.out).cell; obtain ⟨va9, vc9, rfl, -⟩ := HOF.out.reads)) | fail "none")
          all_goals
            obtain ⟨G9, g1, g2, g3⟩ := HBI.out.set (nb_trans HX.out (nb_trans HBX9.out HBF.out)) (HOF.out.weaken (by have := HX.out.size; have := HBX9.out.size; omega))
            have HEND : Hid (BonPost w q G (.int .i64 (adoptE bs (a, b) (c, d))) (adoptB bs (a, b) (c, d)) (.returned (.int .i64 0)) _) := Lib.hid (by rw [HP.out.1, HP.out.2]; exact ⟨rfl, G9, g1, g2, g3⟩)
            clear g1 g2 g3 cq9 fq9
            go_wp2
            go_ret
            exact HEND.out
      · rw [hln] at hnc ⊢
        have HC3 : Hid (∀ t, t < n → ∀ j, j < 4 → w3.cell? ⟨g, t * 4 + j, none⟩ = (elBond.enc (ls.getD t bdZ))[j]?) := Lib.hid (fun t ht j hj => by
          obtain ⟨_, _, e9, _, _, h9⟩ := HRD.out
          obtain ⟨b9, o9, e8, _, h8⟩ := h9 t (by rw [HLS.out]; exact ht)
          simp only [Value.slice.injEq] at e9
          rw [← e9.1] at e8
          simp only [Option.some.injEq, Addr.mk.injEq, and_true] at e8
          obtain ⟨rfl, rfl⟩ := e8
          have := h8 j hj
          rw [Nat.zero_add] at this
          exact this)
        clear ho3 hln hh3 hsz
        go_wp2
        go_loopw [8] (fun v8 wr => ∃ t : Nat, t ≤ n ∧ v8 = .int .i64 t ∧ Hid (∀ j, j < t → hlt (ls.getD j bdZ).1 (a, b)) ∧ Hid (Below w3.heap.size w3 wr)) (fun v8 _ => n - (intOf v8).toNat)
        case atStart => exact ⟨0, by omega, rfl, Lib.hid (fun j hj => by omega), Below.refl _ _⟩
        case round =>
          obtain ⟨t, ht, rfl, hlo, hB⟩ := hrel
          have HBX : Hid (Below X.heap.size X wr) := Lib.hid (nb_trans HB3.out hB.out)
          obtain ⟨c0, c1, c2, c3⟩ := HCE.out wr HBX.out
          have hl0 : w.heap.size < wr.heap.size := by have := HL1.out; have := HBX.out.size; omega
          have hl1 : w.heap.size + 1 < wr.heap.size := by have := HL1.out; have := HBX.out.size; omega
          have hgw : g < wr.heap.size := Nat.lt_of_lt_of_le hg3 hB.out.size
          by_cases hlt9 : t < n
          · have d0 : wr.cell? ⟨g, t * 4, none⟩ = some (.int .i64 (ls.getD t bdZ).1.1) := by rw [hB.out.cell (p := ⟨g, _, none⟩) hg3]; exact HC3.out t hlt9 0 (by decide)
            have d1 : wr.cell? ⟨g, t * 4 + 1, none⟩ = some (.int .i64 (ls.getD t bdZ).1.2) := by rw [hB.out.cell (p := ⟨g, _, none⟩) hg3]; exact HC3.out t hlt9 1 (by decide)
            obtain ⟨y, hy⟩ : ∃ y, ls.getD t bdZ = y := ⟨_, rfl⟩
            rw [hy] at d0 d1
            have HY := Lib.hid hy
            obtain ⟨⟨y1, y2⟩, y3, y4⟩ := y
            have HSW : Hid (∀ Y, Below wr.heap.size wr Y → (Y.cell? ⟨w.heap.size, 0, none⟩ = some (.int .i64 a) ∧ Y.cell? ⟨w.heap.size, 1, none⟩ = some (.int .i64 b) ∧ Y.cell? ⟨g, t * 4, none⟩ = some (.int .i64 y1) ∧ Y.cell? ⟨g, t * 4 + 1, none⟩ = some (.int .i64 y2))) := Lib.hid (fun Y hY => by
              obtain ⟨h0, h1, _⟩ := HCE.out Y (nb_trans HBX.out hY)
              exact ⟨h0, h1, by rw [hY.cell (p := ⟨g, _, none⟩) hgw]; exact d0, by rw [hY.cell (p := ⟨g, _, none⟩) hgw]; exact d1⟩)
            have hlt9' : (t : Int) < (n : Int) := by omega
            clear hy
            by_cases hh : hlt (y1, y2) (a, b)
            · have HHL := Lib.hid hh
              clear hh
              go_wp2_with fail
              go_region_held3 (fun x => (x.cell? ⟨w.heap.size, 0, none⟩ = some (.int .i64 a) ∧ x.cell? ⟨w.heap.size, 1, none⟩ = some (.int .i64 b) ∧ x.cell? ⟨g, t * 4, none⟩ = some (.int .i64 y1) ∧ x.cell? ⟨g, t * 4 + 1, none⟩ = some (.int .i64 y2))) (first | go_keep | exact HSW.out _ Bl.out) (first
                | ((go_at_call 104; refine (less_any y1 y2 a b true _ (decide_eq_true HHL.out)).mono ?_; rintro e xl ⟨rfl, hb⟩; have Bl : Hid (Below wr.heap.size wr xl) := Lib.hid (nb_trans (Below.refl _ _).drew hb); clear hb)))
              have HBL : Hid (Below w3.heap.size w3 xl) := Lib.hid (nb_trans hB.out Bl.out)
              go_wp2
              go_roundw
              case rel => exact ⟨t + 1, by omega, by go_num, Lib.hid (fun j hj => if e : j = t then by rw [e, HY.out]; exact HHL.out else hlo.out j (by omega)), HBL⟩
              case measure => simp [intOf]; omega
            · have HHL := Lib.hid hh
              clear hh
              go_wp2_with fail
              go_region_held3 (fun x => (x.cell? ⟨w.heap.size, 0, none⟩ = some (.int .i64 a) ∧ x.cell? ⟨w.heap.size, 1, none⟩ = some (.int .i64 b) ∧ x.cell? ⟨g, t * 4, none⟩ = some (.int .i64 y1) ∧ x.cell? ⟨g, t * 4 + 1, none⟩ = some (.int .i64 y2))) (first | go_keep | exact HSW.out _ Bl.out) (first
                | ((go_at_call 104; refine (less_any y1 y2 a b false _ (decide_eq_false HHL.out)).mono ?_; rintro e Z ⟨rfl, hb⟩; have Bl : Hid (Below wr.heap.size wr Z) := Lib.hid (nb_trans (Below.refl _ _).drew hb); clear hb)))
              have HZ3 : Hid (Below w3.heap.size w3 Z) := Lib.hid (nb_trans hB.out Bl.out)
              have HINS : Hid (insB ls ((a, b), (c, d)) = ls.take t ++ ((a, b), (c, d)) :: ls.drop t) := Lib.hid (insB_at (by rw [HLS.out]; exact ht) hlo.out (fun _ => by rw [show ls.getD t ((0, 0), (0, 0)) = ((y1, y2), (y3, y4)) from HY.out]; exact HHL.out))
              clear d0 d1 c0 c1 c2 c3 hl0 hl1 hgw
              go_wp2_with fail
              have htc : t ≤ cap := by omega
              have HRT : Hid (∀ Y, Below w3.heap.size w3 Y → Reads elBond Y (.slice (some ⟨g, 0, none⟩) t cap) (ls.take t)) := Lib.hid (fun Y hY => by
                have h9 := HO3.out.cutTo' (t := t) (by rw [HLS.out]; exact ht)
                exact h9.reads.later hY)
              have hcq : cap ≠ t := by omega
              have HNW : Hid (∀ Y, Below w3.heap.size w3 Y → ∀ j u, ((ls.drop t).flatMap elBond.enc)[j]? = some u → Y.cell? ((⟨g, t * 4, none⟩ : Addr).add j) = some u) := Lib.hid (fun Y hY j u hu => dropCells HC3.out HLS.out hY hg3 hu)
              have HTL : Hid ((ls.take t).length = t) := Lib.hid (by rw [List.length_take, HLS.out]; omega)
              have HDL : Hid ((ls.drop t).length = n - t) := Lib.hid (by rw [List.length_drop, HLS.out])
              have HBX9 : Hid (Below X.heap.size X Z) := Lib.hid (nb_trans HB3.out HZ3.out)
              have HTN : Hid ((ls.take t).length * 32 ≤ 140737488355328) := Lib.hid (by rw [HTL.out]; omega)
              obtain ⟨c0, c1, c2, c3⟩ := HCE.out Z HBX9.out
              have hl0 : w.heap.size < Z.heap.size := by have := HL1.out; have := HBX9.out.size; omega
              have hl1 : w.heap.size + 1 < Z.heap.size := by have := HL1.out; have := HBX9.out.size; omega
              have HBI9 := Lib.hid (HBI.out.later (nb_trans HX.out HBX9.out))
              have HQN : Hid (w.heap.size ≠ q ∧ w.heap.size + 1 ≠ q) := Lib.hid (by have := HBI.out.lt q HBI.out.at_; omega)
              have HCP : Hid (∀ Y, Below Z.heap.size Z Y → Calls Tryz.prog 105 #[.slice (some ⟨g, 0, none⟩) t cap] Y (SelPost Y (ls.take t))) := Lib.hid (fun Y hY => copyBond_any (some ⟨g, 0, none⟩) t cap (ls.take t) Y (HRT.out _ (nb_trans HZ3.out hY)) HTN.out (.inl ⟨g, 0, rfl⟩))
              go_region_held3 (fun x => (x.cell? ⟨w.heap.size, 0, none⟩ = some (.int .i64 a) ∧ x.cell? ⟨w.heap.size, 1, none⟩ = some (.int .i64 b) ∧ x.cell? ⟨w.heap.size + 1, 0, none⟩ = some (.int .i64 c) ∧ x.cell? ⟨w.heap.size + 1, 1, none⟩ = some (.int .i64 d))) (first | go_keep | exact HCE.out _ (nb_trans HBX9.out Bn1.out) | exact HCE.out _ (nb_trans HBX9.out HB2c.out) | exact HCE.out _ (nb_trans HBX9.out HBF.out) | exact setS (HCE.out _ (nb_trans HBX9.out HBF.out)) HQN.out.1 HQN.out.2) (first
                | ((go_at_call 105; (first | with_reducible refine (HCP.out Z.drew (Below.refl _ Z).drew).mono ?_ | with_reducible refine (HCP.out (Z.alloc (.cells #[.int .i64 a, .int .i64 b, .int .i64 c, .int .i64 d] 58)).drew (nb_alloc (Below.refl _ Z) _).drew).mono ?_); rintro e x1 ⟨v1c, rfl, ho, hb⟩; have Bn1 : Hid (Below Z.heap.size Z x1) := Lib.hid (by first | exact nb_trans (Below.refl _ Z).drew hb | exact nb_trans (nb_alloc (Below.refl _ Z) (.cells #[.int .i64 a, .int .i64 b, .int .i64 c, .int .i64 d] 58)).drew hb); have HO1b := Lib.hid (ho.weaken (B := Z.heap.size) (by simp)); have HO1a := Lib.hid (HO1b.out.later (nb_alloc (Below.refl _ _) (.cells #[.int .i64 a, .int .i64 b, .int .i64 c, .int .i64 d] 58))); have HB1a : Hid (Below Z.heap.size Z (x1.alloc (.cells #[.int .i64 a, .int .i64 b, .int .i64 c, .int .i64 d] 58))) := Lib.hid (nb_alloc Bn1.out _); (first | have HNb : Hid (x1.heap[Z.heap.size]? = some (.cells #[.int .i64 a, .int .i64 b, .int .i64 c, .int .i64 d] 58)) := Lib.hid (by rw [hb.block _ (by simp)]; exact heap_alloc_new Z _) | skip); clear ho hb))
                | ((refine stepB_append (by rfl) _ _ 24 (by rfl) Z.heap.size 58 i0 _ 4 32 Tryz.underlying24 hi hz0 hz1 hz2 rfl (by decide) v1c (ls.take t).length ((ls.take t).flatMap elBond.enc) (by rfl) HO1a.out ⟨x1.heap.size, 0, none⟩ 1 1 [.int .i64 a, .int .i64 b, .int .i64 c, .int .i64 d] (by rfl) rfl (World.news_of_block (heap_alloc_new _ _)) (elBond.one ((a, b), (c, d))) (by rw [HTL.out]; unfold maxLen; omega) (by rw [HTL.out]; omega) HB1a.out.size ?_; intro v2c w2c hown hgr hnil; have HO2 := Lib.hid hown; have HB2c : Hid (Below Z.heap.size Z w2c) := Lib.hid (HB1a.out.grown hgr HB1a.out.size (fun j hj => HO1a.out.ge hj)); clear HO1a HO1b hown hgr hnil))
                | ((refine stepB_append (by rfl) _ _ 24 (by rfl) Z.heap.size 58 i0 _ 4 32 Tryz.underlying24 hi hz0 hz1 hz2 rfl (by decide) v1c (ls.take t).length ((ls.take t).flatMap elBond.enc) (by rfl) HO1b.out ⟨Z.heap.size, 0, none⟩ 1 1 [.int .i64 a, .int .i64 b, .int .i64 c, .int .i64 d] (by rfl) rfl (World.news_of_block HNb.out) (elBond.one ((a, b), (c, d))) (by rw [HTL.out]; unfold maxLen; omega) (by rw [HTL.out]; omega) Bn1.out.size ?_; intro v2c w2c hown hgr hnil; have HO2 := Lib.hid hown; have HB2c : Hid (Below Z.heap.size Z w2c) := Lib.hid (Bn1.out.grown hgr Bn1.out.size (fun j hj => HO1b.out.ge hj)); clear HO1a HO1b hown hgr hnil))
                | ((refine stepB_append (by rfl) _ _ 24 (by rfl) Z.heap.size 58 i0 _ 4 32 Tryz.underlying24 hi hz0 hz1 hz2 rfl (by decide) v2c ((ls.take t).length + 1) _ (by rfl) HO2.out ⟨g, t * 4, none⟩ (n - t) _ ((ls.drop t).flatMap elBond.enc) (by rfl) (by rw [length_enc, HDL.out]; rfl) (HNW.out _ (nb_trans HZ3.out HB2c.out)) (by intro u hu; obtain ⟨x, _, hx⟩ := List.mem_flatMap.1 hu; exact elBond.one x u hx) (by rw [HTL.out]; unfold maxLen; omega) (by rw [HTL.out]; omega) HB2c.out.size ?_; intro v3c w3c hown hgr hnil; have HOF : Hid (OwnsF elBond w3c Z.heap.size 58 v3c (insB ls ((a, b), (c, d)))) := Lib.hid (by rw [HINS.out]; exact ownsIns hown HDL.out); have HBF : Hid (Below Z.heap.size Z w3c) := Lib.hid (HB2c.out.grown hgr HB2c.out.size (fun j hj => (World.ownsRow.lt HO2.out j hj).1)); clear HO2 hown hgr hnil; obtain ⟨cq9, fq9, hql9⟩ := (HBI9.out.later HBF.out).cell; obtain ⟨va9, vc9, rfl, -⟩ := HOF.out.reads)) | fail "none")
              all_goals
                obtain ⟨G9, g1, g2, g3⟩ := HBI.out.set (nb_trans HX.out (nb_trans HBX9.out HBF.out)) (HOF.out.weaken (by have := HX.out.size; have := HBX9.out.size; omega))
                have HEND : Hid (BonPost w q G (.int .i64 (adoptE bs (a, b) (c, d))) (adoptB bs (a, b) (c, d)) (.returned (.int .i64 0)) _) := Lib.hid (by rw [HP.out.1, HP.out.2]; exact ⟨rfl, G9, g1, g2, g3⟩)
                clear g1 g2 g3 cq9 fq9
                go_wp2
                go_ret
                exact HEND.out
          · obtain rfl : t = n := by omega
            have hnl : ¬ ((t : Int) < (t : Int)) := by omega
            have HINS : Hid (insB ls ((a, b), (c, d)) = ls.take t ++ ((a, b), (c, d)) :: ls.drop t) := Lib.hid (insB_at (by rw [HLS.out]; exact Nat.le_refl _) hlo.out (fun h => by rw [HLS.out] at h; omega))
            have HRT : Hid (∀ Y, Below w3.heap.size w3 Y → Reads elBond Y (.slice (some ⟨g, 0, none⟩) t cap) (ls.take t)) := Lib.hid (fun Y hY => by
              have h9 := HO3.out.cutTo' (t := t) (by rw [HLS.out]; exact Nat.le_refl _)
              exact h9.reads.later hY)
            have HND : Hid (ls.drop t = []) := Lib.hid (List.drop_of_length_le (by rw [HLS.out]; exact Nat.le_refl _))
            go_wp2_with fail
            go_quiet (fail)
            go_wp2_with fail
            obtain ⟨Z, hZ⟩ : ∃ Z, wr.drewN nq = Z := ⟨_, rfl⟩
            have HZ3 : Hid (Below w3.heap.size w3 Z) := Lib.hid (by rw [← hZ]; exact nb_drewN hB.out)
            rw [hZ]
            have htc : t ≤ cap := by omega
            clear hZ c0 c1 c2 c3 hl0 hl1 hgw
            by_cases hcq : cap = t
            · obtain rfl : t = cap := hcq.symm
              have HTL : Hid ((ls.take t).length = t) := Lib.hid (by rw [List.length_take, HLS.out]; omega)

              have HBX9 : Hid (Below X.heap.size X Z) := Lib.hid (nb_trans HB3.out HZ3.out)
              have HTN : Hid ((ls.take t).length * 32 ≤ 140737488355328) := Lib.hid (by rw [HTL.out]; omega)
              obtain ⟨c0, c1, c2, c3⟩ := HCE.out Z HBX9.out
              have hl0 : w.heap.size < Z.heap.size := by have := HL1.out; have := HBX9.out.size; omega
              have hl1 : w.heap.size + 1 < Z.heap.size := by have := HL1.out; have := HBX9.out.size; omega
              have HBI9 := Lib.hid (HBI.out.later (nb_trans HX.out HBX9.out))
              have HQN : Hid (w.heap.size ≠ q ∧ w.heap.size + 1 ≠ q) := Lib.hid (by have := HBI.out.lt q HBI.out.at_; omega)
              have HCP : Hid (∀ Y, Below Z.heap.size Z Y → Calls Tryz.prog 105 #[.slice (some ⟨g, 0, none⟩) t t] Y (SelPost Y (ls.take t))) := Lib.hid (fun Y hY => copyBond_any (some ⟨g, 0, none⟩) t t (ls.take t) Y (HRT.out _ (nb_trans HZ3.out hY)) HTN.out (.inl ⟨g, 0, rfl⟩))
              go_region_held3 (fun x => (x.cell? ⟨w.heap.size, 0, none⟩ = some (.int .i64 a) ∧ x.cell? ⟨w.heap.size, 1, none⟩ = some (.int .i64 b) ∧ x.cell? ⟨w.heap.size + 1, 0, none⟩ = some (.int .i64 c) ∧ x.cell? ⟨w.heap.size + 1, 1, none⟩ = some (.int .i64 d))) (first | go_keep | exact HCE.out _ (nb_trans HBX9.out Bn1.out) | exact HCE.out _ (nb_trans HBX9.out HB2c.out) | exact HCE.out _ (nb_trans HBX9.out HBF.out) | exact setS (HCE.out _ (nb_trans HBX9.out HBF.out)) HQN.out.1 HQN.out.2) (first
                | ((go_at_call 105; (first | with_reducible refine (HCP.out Z.drew (Below.refl _ Z).drew).mono ?_ | with_reducible refine (HCP.out (Z.alloc (.cells #[.int .i64 a, .int .i64 b, .int .i64 c, .int .i64 d] 58)).drew (nb_alloc (Below.refl _ Z) _).drew).mono ?_); rintro e x1 ⟨v1c, rfl, ho, hb⟩; have Bn1 : Hid (Below Z.heap.size Z x1) := Lib.hid (by first | exact nb_trans (Below.refl _ Z).drew hb | exact nb_trans (nb_alloc (Below.refl _ Z) (.cells #[.int .i64 a, .int .i64 b, .int .i64 c, .int .i64 d] 58)).drew hb); have HO1b := Lib.hid (ho.weaken (B := Z.heap.size) (by simp)); have HO1a := Lib.hid (HO1b.out.later (nb_alloc (Below.refl _ _) (.cells #[.int .i64 a, .int .i64 b, .int .i64 c, .int .i64 d] 58))); have HB1a : Hid (Below Z.heap.size Z (x1.alloc (.cells #[.int .i64 a, .int .i64 b, .int .i64 c, .int .i64 d] 58))) := Lib.hid (nb_alloc Bn1.out _); (first | have HNb : Hid (x1.heap[Z.heap.size]? = some (.cells #[.int .i64 a, .int .i64 b, .int .i64 c, .int .i64 d] 58)) := Lib.hid (by rw [hb.block _ (by simp)]; exact heap_alloc_new Z _) | skip); clear ho hb))
                | ((refine stepB_append (by rfl) _ _ 24 (by rfl) Z.heap.size 58 i0 _ 4 32 Tryz.underlying24 hi hz0 hz1 hz2 rfl (by decide) v1c (ls.take t).length ((ls.take t).flatMap elBond.enc) (by rfl) HO1a.out ⟨x1.heap.size, 0, none⟩ 1 1 [.int .i64 a, .int .i64 b, .int .i64 c, .int .i64 d] (by rfl) rfl (World.news_of_block (heap_alloc_new _ _)) (elBond.one ((a, b), (c, d))) (by rw [HTL.out]; unfold maxLen; omega) (by rw [HTL.out]; omega) HB1a.out.size ?_; intro v2c w2c hown hgr hnil; have HO2 := Lib.hid hown; have HB2c : Hid (Below Z.heap.size Z w2c) := Lib.hid (HB1a.out.grown hgr HB1a.out.size (fun j hj => HO1a.out.ge hj)); clear HO1a HO1b hown hgr hnil))
                | ((refine stepB_append (by rfl) _ _ 24 (by rfl) Z.heap.size 58 i0 _ 4 32 Tryz.underlying24 hi hz0 hz1 hz2 rfl (by decide) v1c (ls.take t).length ((ls.take t).flatMap elBond.enc) (by rfl) HO1b.out ⟨Z.heap.size, 0, none⟩ 1 1 [.int .i64 a, .int .i64 b, .int .i64 c, .int .i64 d] (by rfl) rfl (World.news_of_block HNb.out) (elBond.one ((a, b), (c, d))) (by rw [HTL.out]; unfold maxLen; omega) (by rw [HTL.out]; omega) Bn1.out.size ?_; intro v2c w2c hown hgr hnil; have HO2 := Lib.hid hown; have HB2c : Hid (Below Z.heap.size Z w2c) := Lib.hid (Bn1.out.grown hgr Bn1.out.size (fun j hj => HO1b.out.ge hj)); clear HO1a HO1b hown hgr hnil))
                | ((refine stepB_append (by rfl) _ _ 24 (by rfl) Z.heap.size 58 i0 _ 4 32 Tryz.underlying24 hi hz0 hz1 hz2 rfl (by decide) v2c ((ls.take t).length + 1) _ (by rfl) HO2.out ⟨g, 0, none⟩ 0 _ [] (by rfl) rfl (fun j u hu => by simp at hu) (fun u hu => by simp at hu) (by rw [HTL.out]; unfold maxLen; omega) (by rw [HTL.out]; omega) HB2c.out.size ?_; intro v3c w3c hown hgr hnil; have HOF : Hid (OwnsF elBond w3c Z.heap.size 58 v3c (insB ls ((a, b), (c, d)))) := Lib.hid (by rw [HINS.out, HND.out]; have h9 := hown; rw [List.append_nil, Nat.add_zero] at h9; exact OwnsF.snoc (x := ((a, b), (c, d))) h9); have HBF : Hid (Below Z.heap.size Z w3c) := Lib.hid (HB2c.out.grown hgr HB2c.out.size (fun j hj => (World.ownsRow.lt HO2.out j hj).1)); clear HO2 hown hgr hnil; obtain ⟨cq9, fq9, hql9⟩ := (HBI9.out.later HBF.out).cell; obtain ⟨va9, vc9, rfl, -⟩ := HOF.out.reads)) | fail "none")
              all_goals
                obtain ⟨G9, g1, g2, g3⟩ := HBI.out.set (nb_trans HX.out (nb_trans HBX9.out HBF.out)) (HOF.out.weaken (by have := HX.out.size; have := HBX9.out.size; omega))
                have HEND : Hid (BonPost w q G (.int .i64 (adoptE bs (a, b) (c, d))) (adoptB bs (a, b) (c, d)) (.returned (.int .i64 0)) _) := Lib.hid (by rw [HP.out.1, HP.out.2]; exact ⟨rfl, G9, g1, g2, g3⟩)
                clear g1 g2 g3 cq9 fq9
                go_wp2
                go_ret
                exact HEND.out
            · have hcq' : ¬ t = cap := fun e => hcq e.symm
              have HTL : Hid ((ls.take t).length = t) := Lib.hid (by rw [List.length_take, HLS.out]; omega)

              have HBX9 : Hid (Below X.heap.size X Z) := Lib.hid (nb_trans HB3.out HZ3.out)
              have HTN : Hid ((ls.take t).length * 32 ≤ 140737488355328) := Lib.hid (by rw [HTL.out]; omega)
              obtain ⟨c0, c1, c2, c3⟩ := HCE.out Z HBX9.out
              have hl0 : w.heap.size < Z.heap.size := by have := HL1.out; have := HBX9.out.size; omega
              have hl1 : w.heap.size + 1 < Z.heap.size := by have := HL1.out; have := HBX9.out.size; omega
              have HBI9 := Lib.hid (HBI.out.later (nb_trans HX.out HBX9.out))
              have HQN : Hid (w.heap.size ≠ q ∧ w.heap.size + 1 ≠ q) := Lib.hid (by have := HBI.out.lt q HBI.out.at_; omega)
              have HCP : Hid (∀ Y, Below Z.heap.size Z Y → Calls Tryz.prog 105 #[.slice (some ⟨g, 0, none⟩) t cap] Y (SelPost Y (ls.take t))) := Lib.hid (fun Y hY => copyBond_any (some ⟨g, 0, none⟩) t cap (ls.take t) Y (HRT.out _ (nb_trans HZ3.out hY)) HTN.out (.inl ⟨g, 0, rfl⟩))
              go_region_held3 (fun x => (x.cell? ⟨w.heap.size, 0, none⟩ = some (.int .i64 a) ∧ x.cell? ⟨w.heap.size, 1, none⟩ = some (.int .i64 b) ∧ x.cell? ⟨w.heap.size + 1, 0, none⟩ = some (.int .i64 c) ∧ x.cell? ⟨w.heap.size + 1, 1, none⟩ = some (.int .i64 d))) (first | go_keep | exact HCE.out _ (nb_trans HBX9.out Bn1.out) | exact HCE.out _ (nb_trans HBX9.out HB2c.out) | exact HCE.out _ (nb_trans HBX9.out HBF.out) | exact setS (HCE.out _ (nb_trans HBX9.out HBF.out)) HQN.out.1 HQN.out.2) (first
                | ((go_at_call 105; (first | with_reducible refine (HCP.out Z.drew (Below.refl _ Z).drew).mono ?_ | with_reducible refine (HCP.out (Z.alloc (.cells #[.int .i64 a, .int .i64 b, .int .i64 c, .int .i64 d] 58)).drew (nb_alloc (Below.refl _ Z) _).drew).mono ?_); rintro e x1 ⟨v1c, rfl, ho, hb⟩; have Bn1 : Hid (Below Z.heap.size Z x1) := Lib.hid (by first | exact nb_trans (Below.refl _ Z).drew hb | exact nb_trans (nb_alloc (Below.refl _ Z) (.cells #[.int .i64 a, .int .i64 b, .int .i64 c, .int .i64 d] 58)).drew hb); have HO1b := Lib.hid (ho.weaken (B := Z.heap.size) (by simp)); have HO1a := Lib.hid (HO1b.out.later (nb_alloc (Below.refl _ _) (.cells #[.int .i64 a, .int .i64 b, .int .i64 c, .int .i64 d] 58))); have HB1a : Hid (Below Z.heap.size Z (x1.alloc (.cells #[.int .i64 a, .int .i64 b, .int .i64 c, .int .i64 d] 58))) := Lib.hid (nb_alloc Bn1.out _); (first | have HNb : Hid (x1.heap[Z.heap.size]? = some (.cells #[.int .i64 a, .int .i64 b, .int .i64 c, .int .i64 d] 58)) := Lib.hid (by rw [hb.block _ (by simp)]; exact heap_alloc_new Z _) | skip); clear ho hb))
                | ((refine stepB_append (by rfl) _ _ 24 (by rfl) Z.heap.size 58 i0 _ 4 32 Tryz.underlying24 hi hz0 hz1 hz2 rfl (by decide) v1c (ls.take t).length ((ls.take t).flatMap elBond.enc) (by rfl) HO1a.out ⟨x1.heap.size, 0, none⟩ 1 1 [.int .i64 a, .int .i64 b, .int .i64 c, .int .i64 d] (by rfl) rfl (World.news_of_block (heap_alloc_new _ _)) (elBond.one ((a, b), (c, d))) (by rw [HTL.out]; unfold maxLen; omega) (by rw [HTL.out]; omega) HB1a.out.size ?_; intro v2c w2c hown hgr hnil; have HO2 := Lib.hid hown; have HB2c : Hid (Below Z.heap.size Z w2c) := Lib.hid (HB1a.out.grown hgr HB1a.out.size (fun j hj => HO1a.out.ge hj)); clear HO1a HO1b hown hgr hnil))
                | ((refine stepB_append (by rfl) _ _ 24 (by rfl) Z.heap.size 58 i0 _ 4 32 Tryz.underlying24 hi hz0 hz1 hz2 rfl (by decide) v1c (ls.take t).length ((ls.take t).flatMap elBond.enc) (by rfl) HO1b.out ⟨Z.heap.size, 0, none⟩ 1 1 [.int .i64 a, .int .i64 b, .int .i64 c, .int .i64 d] (by rfl) rfl (World.news_of_block HNb.out) (elBond.one ((a, b), (c, d))) (by rw [HTL.out]; unfold maxLen; omega) (by rw [HTL.out]; omega) Bn1.out.size ?_; intro v2c w2c hown hgr hnil; have HO2 := Lib.hid hown; have HB2c : Hid (Below Z.heap.size Z w2c) := Lib.hid (Bn1.out.grown hgr Bn1.out.size (fun j hj => HO1b.out.ge hj)); clear HO1a HO1b hown hgr hnil))
                | ((refine stepB_append (by rfl) _ _ 24 (by rfl) Z.heap.size 58 i0 _ 4 32 Tryz.underlying24 hi hz0 hz1 hz2 rfl (by decide) v2c ((ls.take t).length + 1) _ (by rfl) HO2.out ⟨g, t * 4, none⟩ 0 _ [] (by rfl) rfl (fun j u hu => by simp at hu) (fun u hu => by simp at hu) (by rw [HTL.out]; unfold maxLen; omega) (by rw [HTL.out]; omega) HB2c.out.size ?_; intro v3c w3c hown hgr hnil; have HOF : Hid (OwnsF elBond w3c Z.heap.size 58 v3c (insB ls ((a, b), (c, d)))) := Lib.hid (by rw [HINS.out, HND.out]; have h9 := hown; rw [List.append_nil, Nat.add_zero] at h9; exact OwnsF.snoc (x := ((a, b), (c, d))) h9); have HBF : Hid (Below Z.heap.size Z w3c) := Lib.hid (HB2c.out.grown hgr HB2c.out.size (fun j hj => (World.ownsRow.lt HO2.out j hj).1)); clear HO2 hown hgr hnil; obtain ⟨cq9, fq9, hql9⟩ := (HBI9.out.later HBF.out).cell; obtain ⟨va9, vc9, rfl, -⟩ := HOF.out.reads)) | fail "none")
              all_goals
                obtain ⟨G9, g1, g2, g3⟩ := HBI.out.set (nb_trans HX.out (nb_trans HBX9.out HBF.out)) (HOF.out.weaken (by have := HX.out.size; have := HBX9.out.size; omega))
                have HEND : Hid (BonPost w q G (.int .i64 (adoptE bs (a, b) (c, d))) (adoptB bs (a, b) (c, d)) (.returned (.int .i64 0)) _) := Lib.hid (by rw [HP.out.1, HP.out.2]; exact ⟨rfl, G9, g1, g2, g3⟩)
                clear g1 g2 g3 cq9 fq9
                go_wp2
                go_ret
                exact HEND.out
end Go.Proofs.YtndhomjfjhohoaaGreatDoor

/- A killed entity is gone, others are unchanged, and its handle stays dead: the statement WorldKills. No condition. -/
import Derived.Test.YtakoejopgdaknaaGroundA
import Derived.Test.YtakoejopgdaknaaKeepWorld
import Derived.Test.YtakoejopgdaknaaKeepLived
import Derived.Test.YtakoejopgdaknaaKillFacts
import Derived.Test.YtakoejopgdaknaaRowEq
import Derived.Test.YtakoejopgdaknaaGroundC
namespace Go.Proofs.Ytakoejopgdaknaa
set_option maxRecDepth 8000
open Go.ChangeShapes Go.WideShapes Go.ChangeAt Go.RowKit
set_option linter.unusedVariables false

theorem Moves.neK {w : World} {F F' : Nat → Prop} (m : Moves w F F') {b : Nat} (hb : b < w.heap.size) (h : ¬ F b) : ¬ F' b := fun f => (m b f).elim h (fun e => by omega)
theorem flatMap_take {α : Type} (E : El α) : ∀ (xs : List α) (t : Nat), (xs.take t).flatMap E.enc = (xs.flatMap E.enc).take (t * E.size)
  | [], t => by simp
  | x :: xs, 0 => by simp
  | x :: xs, t + 1 => by
    rw [List.take_succ_cons, List.flatMap_cons, List.flatMap_cons, flatMap_take E xs t, List.take_append, E.len, show (t + 1) * E.size - E.size = t * E.size by rw [Nat.add_mul]; omega, List.take_of_length_le (l := E.enc x) (by rw [E.len, Nat.add_mul]; omega)]
theorem flatMap_drop {α : Type} (E : El α) : ∀ (xs : List α) (t : Nat), (xs.drop t).flatMap E.enc = (xs.flatMap E.enc).drop (t * E.size)
  | [], t => by simp
  | x :: xs, 0 => by simp
  | x :: xs, t + 1 => by
    rw [List.drop_succ_cons, List.flatMap_cons, flatMap_drop E xs t, List.drop_append, E.len, show (t + 1) * E.size - E.size = t * E.size by rw [Nat.add_mul]; omega, List.drop_of_length_le (l := E.enc x) (by rw [E.len, Nat.add_mul]; omega), List.nil_append]
theorem getElem?_of_take {α : Type} {xs : List α} {k j : Nat} {u : α} (h : (xs.take k)[j]? = some u) : xs[j]? = some u := by
  rw [List.getElem?_take] at h
  split at h
  · exact h
  · cases h
theorem one_rows (xs : List Rw) : ∀ u ∈ xs.flatMap elRow.enc, u.oneCell' = true := by
  intro u hu
  obtain ⟨x, _, hx⟩ := List.mem_flatMap.1 hu
  exact elRow.one x u hx
/-- An append of any number of elements, as one step of a region that draws, guarded or not. -/
theorem step_append_ownG {P : Program} {w : World} {ops : Array Oper} {o : Oper} {a : Act} {K : Act → World → Prop} {Q : Exit → Act → World → Prop} {E : Prop} (hw : Region.wanted o (yielded ops a.tmps) = true) (s x : Operand) (t : TypeId)
    (ho : o.op = .call { callee := .builtin .append, args := #[s, x], argTypes := #[t, t] })
    (base : Nat) (e : TypeId) (i : TypeInfo) (z : Value) (size bytes : Nat) (ht : P.underlying t = some (.slice e)) (hi : P.info? e = some i) (hz : i.zero = some z)
    (hsize : i.size = size) (hby : i.bytes = bytes) (hzs : z.cells.size = size) (hsz : 0 < size)
    (v : Value) (n : Nat) (xs : List Value) (hs : a.eval s = v) (hown : w.ownsRow base e size v n xs)
    (ad : Addr) (m c : Nat) (news : List Value) (hx : a.eval x = .slice (some ad) m c) (hl : news.length = m * size) (hnews : ∀ j u, news[j]? = some u → w.cell? (ad.add j) = some u) (h1 : ∀ u ∈ news, u.oneCell' = true)
    (h63 : n + m ≤ maxLen) (hbytes : (n + m) * bytes ≤ 140737488355328) (hbase : base ≤ w.heap.size)
    (h : ∀ v' w', w'.ownsRow base e size v' (n + m) (xs ++ news) → w.grownBy w' v.ownBlock → (v' = .slice none 0 0 ↔ v = .slice none 0 0 ∧ m = 0) → K (a.put o.dst v') w') :
    if Region.wanted o (yielded ops a.tmps) = true then Oper.wp P o a w K Q else E := by
  rw [if_pos hw]
  exact wp_append_own w s x t ho base e i z size bytes ht hi hz hsize hby hzs hsz v n xs hs hown ad m c news hx hl hnews h1 h63 hbytes hbase h

set_option maxRecDepth 100000 in
set_option maxHeartbeats 8000000 in
theorem worldKills_walk (u0 : Value) (z0 : List Opm) (j0 : ∀ x ∈ z0, OpOk x) (a1 : Int) (i1 : I64 a1) (m2 v2_0 v2_1 v2_2 v2_3 v2_4 v2_5 v2_6 v2_7 : Int) (w : World) (i0 : Reads elOp w u0 z0) :
    Calls Try.prog 9 #[u0, .int .i64 a1, .agg #[.int .i64 m2, .int .i64 v2_0, .int .i64 v2_1, .int .i64 v2_2, .int .i64 v2_3, .int .i64 v2_4, .int .i64 v2_5, .int .i64 v2_6, .int .i64 v2_7]] w fun e w' => e = .returned (.bool true) ∧ Below w.heap.size w w' := by
  obtain ⟨i0r, hir, hz0, hz1, hz2⟩ := info_parts infoRow
  have HI := Lib.hid i0
  have HJ := Lib.hid j0
  clear i0 j0 i1
  have hX : Below w.heap.size w (w.alloc (.cells #[.int .i64 m2, .int .i64 v2_0, .int .i64 v2_1, .int .i64 v2_2, .int .i64 v2_3, .int .i64 v2_4, .int .i64 v2_5, .int .i64 v2_6, .int .i64 v2_7] 36)) := nb_alloc (Below.refl _ _) _
  have hxb : (w.alloc (.cells #[.int .i64 m2, .int .i64 v2_0, .int .i64 v2_1, .int .i64 v2_2, .int .i64 v2_3, .int .i64 v2_4, .int .i64 v2_5, .int .i64 v2_6, .int .i64 v2_7] 36)).heap[w.heap.size]? = some (.cells #[.int .i64 m2, .int .i64 v2_0, .int .i64 v2_1, .int .i64 v2_2, .int .i64 v2_3, .int .i64 v2_4, .int .i64 v2_5, .int .i64 v2_6, .int .i64 v2_7] 36) := heap_alloc_new _ _
  have HX := Lib.hid hX
  have HXB := Lib.hid hxb
  clear hX hxb
  go_enter Try.func9, Try.ntmps9
  go_wp2_with fail
  generalize w.alloc (.cells #[.int .i64 m2, .int .i64 v2_0, .int .i64 v2_1, .int .i64 v2_2, .int .i64 v2_3, .int .i64 v2_4, .int .i64 v2_5, .int .i64 v2_6, .int .i64 v2_7] 36) = X at *
  refine (lived_any _).mono ?_
  rintro e w1 ⟨rfl, hb1⟩
  have HB1 := Lib.hid hb1
  clear hb1
  go_wp2_with fail
  refine (made_any u0 z0 _ (HI.out.later (nb_trans HX.out HB1.out)) HJ.out).mono ?_
  rintro e w2 ⟨p, F, rfl, h2, hF, hb2⟩
  have hok := WOk.made z0
  generalize (madeW z0).1 = l at *
  generalize (madeW z0).2 = rows at *
  have HW := Lib.hid h2
  have HOK := Lib.hid hok
  have HF : Hid (∀ b, F b → X.heap.size ≤ b) := Lib.hid (fun b hb => Nat.le_trans HB1.out.size (hF b hb))
  have HB2 : Hid (Below X.heap.size X w2) := Lib.hid (nb_trans HB1.out hb2)
  clear h2 hok hF hb2
  go_wp2_with fail
  refine (keepAll_any p F l rows _ HW.out HOK.out).mono ?_
  rintro e w3 ⟨v3, rfl, ho3, hb3⟩
  have HB3 := Lib.hid hb3
  have hr60 := HOK.out.len60
  by_cases hn0 : rows.length = 0
  · obtain ⟨a3, c3, rfl, -⟩ := ho3.reads
    rw [hn0]
    have HBN := Lib.hid (nb_trans HX.out (nb_trans HB2.out HB3.out))
    clear ho3 hb3
    go_wp2
    go_ret
    exact ⟨rfl, HBN.out⟩
  obtain ⟨g, cap, rfl, hBg, hg3, hlc, hcm, hfz, hcell⟩ := ho3.at11 (by omega)
  have HO3 := Lib.hid ho3
  obtain ⟨n, hn⟩ : ∃ n, rows.length = n := ⟨_, rfl⟩
  rw [hn] at hlc hcell hr60 hn0
  rw [hn]
  have HN := Lib.hid hn
  obtain ⟨t, hta⟩ : ∃ t : Nat, a1 % (n : Int) = (t : Int) := ⟨(a1 % (n : Int)).toNat, by have := Int.emod_nonneg a1 (b := (n : Int)) (by omega); omega⟩
  have htn : t < n := by have := Int.emod_lt_of_pos a1 (b := (n : Int)) (by omega); omega
  have HTA := Lib.hid hta
  have HCE := Lib.hid hcell
  unfold maxLen at hcm
  have hne0 : ((n : Int) == 0) = false := by simp; omega
  clear hta hn ho3 hb3 hfz
  go_wp2_with fail
  refine (rest_any _ _ _ (by omega) (by omega)).mono ?_
  rintro e w' ⟨rfl, rfl⟩
  rw [HTA.out]
  have hcr := hcell t htn
  have HRI : Hid (RowIs l rows t (rows.getD t rowZ)) := Lib.hid (HOK.out.rowIs (by rw [HN.out]; exact htn) rfl)
  obtain ⟨r, hr⟩ : ∃ r, rows.getD t rowZ = r := ⟨_, rfl⟩
  rw [hr] at hcr HRI
  have HKR : Hid (killR rows r.s r.g = rows.take t ++ rows.drop (t + 1)) := Lib.hid (killR_at HOK.out (by rw [HN.out]; exact htn) hr)
  have HR := Lib.hid hr
  have c0 : w3.cell? ⟨g, t * 11, none⟩ = some (.int .i64 r.s) := hcr 0 (by decide)
  have c1 : w3.cell? ⟨g, t * 11 + 1, none⟩ = some (.int .i64 r.g) := hcr 1 (by decide)
  have ht0 : (0 : Int) ≤ (t : Int) := by omega
  have ht1 : (t : Int) < (n : Int) := by omega
  have hA : Below w3.heap.size w3 (w3.alloc (.cells #[.int .i64 r.s, .int .i64 r.g] 38)) := nb_alloc (Below.refl _ _) _
  have HA := Lib.hid hA
  have HAH : Hid ((w3.alloc (.cells #[.int .i64 r.s, .int .i64 r.g] 38)).heap[w3.heap.size]? = some (.cells #[.int .i64 r.s, .int .i64 r.g] 38)) := Lib.hid (heap_alloc_new _ _)
  clear hcr hcell hr hA hne0
  go_wp2_with fail
  generalize w3.alloc (.cells #[.int .i64 r.s, .int .i64 r.g] 38) = A at *
  clear c0 c1
  have kx0 : A.cell? ⟨w3.heap.size, 0, none⟩ = some (.int .i64 r.s) := by rw [cell_of_row _ _ _ _ _ _ HAH.out]; rfl
  have kx1 : A.cell? ⟨w3.heap.size, 1, none⟩ = some (.int .i64 r.g) := by rw [cell_of_row _ _ _ _ _ _ HAH.out]; rfl
  have hal := (Array.getElem?_eq_some_iff.1 HAH.out).1
  have HC0 : Hid (A.cell? ⟨w3.heap.size, 0, none⟩ = some (.int .i64 r.s) ∧ A.cell? ⟨w3.heap.size, 1, none⟩ = some (.int .i64 r.g)) := Lib.hid ⟨kx0, kx1⟩
  have HWA : Hid (WldAt A p F l (· ∈ rows)) := Lib.hid (HW.out.later (nb_trans HB3.out HA.out))
  have HNF : Hid (¬ F w3.heap.size ∧ ¬ F g) := Lib.hid ⟨fun f => by have := HW.out.lt _ f; have := HB3.out.size; omega, fun f => by have := HW.out.lt _ f; omega⟩
  have HE : Hid (killE rows r.s r.g = 0) := Lib.hid (by rw [killE, HRI.out.has]; rfl)
  have htc : (t : Int) ≤ (cap : Int) := by omega
  have hnc : (n : Int) ≤ (cap : Int) := by omega
  obtain ⟨q, hq⟩ : ∃ q : Nat, q = t + 1 := ⟨_, rfl⟩
  have hwt : IntKind.i64.wrap ((t : Int) + 1) = (q : Int) := (IntWalk.i64_in _ (by omega)).trans (by omega)
  have hq0 : (0 : Int) ≤ (q : Int) := by omega
  have hq1 : (q : Int) ≤ (n : Int) := by omega
  have hqn : q ≤ n := by omega
  have HQ := Lib.hid hq
  have HLT : Hid ((rows.take t).length = t ∧ (rows.drop q).length = n - q ∧ t + (n - q) ≤ 60) := Lib.hid ⟨by rw [List.length_take, HN.out]; omega, by rw [List.length_drop, HN.out], by omega⟩
  have HNB : Hid (g < A.heap.size) := Lib.hid (by have := HA.out.size; omega)
  have HMX : Hid (t ≤ maxLen ∧ t * 88 ≤ 140737488355328 ∧ t + (n - q) ≤ maxLen ∧ (t + (n - q)) * 88 ≤ 140737488355328) := Lib.hid (by unfold maxLen; omega)
  have HOK1 := Lib.hid (HOK.out.kill r.s r.g)
  have HKR1 : Hid (killR rows r.s r.g = rows.take t ++ rows.drop q) := Lib.hid (by rw [hq]; exact HKR.out)
  clear hq
  by_cases hcq : cap = q
  · replace hcq := hcq.symm
    subst hcq
    have HNQ : Hid (n = q) := Lib.hid (by omega)
    go_region_held3 (fun x => (x.cell? ⟨w3.heap.size, 0, none⟩ = some (.int .i64 r.s) ∧ x.cell? ⟨w3.heap.size, 1, none⟩ = some (.int .i64 r.g))) (first | go_keep | exact HS.out) (first
      | ((go_at_call 17; refine (worldKill_any p F l rows r.s r.g _ (HWA.out.later (Below.refl _ _).drew) HOK.out HRI.out.is HRI.out.ig).mono ?_; rintro e x1 ⟨rfl, F1, h1, hk1, hm1⟩; rw [HE.out]; have HW1 := Lib.hid h1; have HK1 := Lib.hid hk1; have HM1 := Lib.hid hm1; have HS : Hid (x1.cell? ⟨w3.heap.size, 0, none⟩ = some (.int .i64 r.s) ∧ x1.cell? ⟨w3.heap.size, 1, none⟩ = some (.int .i64 r.g)) := Lib.hid ⟨hk1.cellS (p := ⟨w3.heap.size, 0, none⟩) HC0.out.1 HNF.out.1, hk1.cellS (p := ⟨w3.heap.size, 1, none⟩) HC0.out.2 HNF.out.1⟩; have HCUR : Hid (Below x1.heap.size x1 x1) := Lib.hid (Below.refl _ _); have HNB2 : Hid (w3.heap.size < x1.heap.size) := Lib.hid (Nat.lt_of_lt_of_le hal hk1.size); have HWC : Hid (∀ y, Below x1.heap.size x1 y → ∀ j u, (rows.flatMap elRow.enc)[j]? = some u → y.cell? ⟨g, j, none⟩ = some u) := Lib.hid (fun y hy j u hu => by
          have h0 := ((HO3.out.owns.later HA.out).later (Below.refl _ _).drew).kept hk1 (fun k e => by simp [Value.ownBlock] at e; subst e; exact HNF.out.2)
          have h2 := World.ownsRow.cellAt h0 j (by have := (List.getElem?_eq_some_iff.1 hu).1; rwa [length_enc] at this)
          rw [hy.cell (p := ⟨g, j, none⟩) (Nat.lt_of_lt_of_le HNB.out hk1.size), h2]; exact hu); clear h1 hk1 hm1))
      | ((go_at_call 23; refine (keepAll_any p F1 _ _ _ (HW1.out.later HCUR.out) HOK1.out).mono ?_; rintro e xa ⟨va, rfl, hoa, hba⟩; have HSn : Hid (xa.cell? ⟨w3.heap.size, 0, none⟩ = some (.int .i64 r.s) ∧ xa.cell? ⟨w3.heap.size, 1, none⟩ = some (.int .i64 r.g)) := Lib.hid ⟨(Kept.ofBelow (F := fun _ => False) hba).cellS (p := ⟨w3.heap.size, 0, none⟩) HS.out.1 id, (Kept.ofBelow (F := fun _ => False) hba).cellS (p := ⟨w3.heap.size, 1, none⟩) HS.out.2 id⟩; have HCN := Lib.hid (nb_trans HCUR.out hba); have HVA := Lib.hid hoa; clear HCUR HS hoa hba; have HCUR := HCN; have HS := HSn; clear HCN HSn; dsimp only))
      | ((go_at_call 20; refine (eqRow_same va v2 (killR rows r.s r.g) _ HRA.out (by rw [HKR1.out]; exact HRB.out)).mono ?_; rintro e xd ⟨rfl, hbd⟩; have HSn : Hid (xd.cell? ⟨w3.heap.size, 0, none⟩ = some (.int .i64 r.s) ∧ xd.cell? ⟨w3.heap.size, 1, none⟩ = some (.int .i64 r.g)) := Lib.hid ⟨(Kept.ofBelow (F := fun _ => False) hbd).cellS (p := ⟨w3.heap.size, 0, none⟩) HS.out.1 id, (Kept.ofBelow (F := fun _ => False) hbd).cellS (p := ⟨w3.heap.size, 1, none⟩) HS.out.2 id⟩; have HCN := Lib.hid (nb_trans HCUR.out hbd); clear HCUR HS hbd; have HCUR := HCN; have HS := HSn; clear HCN HSn; dsimp only))
      | ((refine step_append_ownG (by rfl) _ _ 30 (by rfl) xa.heap.size 55 i0r _ 11 88 Try.underlying30 hir hz0 hz1 hz2 rfl (by decide) (.slice none 0 0) 0 [] (by rfl) (World.ownsRow_nil _ _ _ _) ⟨g, 0, none⟩ t q ((rows.take t).flatMap elRow.enc) (by rfl) (by rw [length_enc, HLT.out.1]; rfl) (fun j u hu => by rw [addr_add', Nat.zero_add]; refine HWC.out _ HCUR.out j u ?_; rw [flatMap_take] at hu; exact getElem?_of_take hu) (by first | exact one_rows _ | simp) (by rw [Nat.zero_add]; exact HMX.out.1) (by rw [Nat.zero_add]; exact HMX.out.2.1) (Nat.le_refl _) ?_; intro v1 xb hown hgr _; have hbb : Below xa.heap.size xa xb := (Below.refl _ _).grown hgr (Nat.le_refl _) (fun j hj => by cases hj); have HSn : Hid (xb.cell? ⟨w3.heap.size, 0, none⟩ = some (.int .i64 r.s) ∧ xb.cell? ⟨w3.heap.size, 1, none⟩ = some (.int .i64 r.g)) := Lib.hid ⟨(Kept.ofBelow (F := fun _ => False) hbb).cellS (p := ⟨w3.heap.size, 0, none⟩) HS.out.1 id, (Kept.ofBelow (F := fun _ => False) hbb).cellS (p := ⟨w3.heap.size, 1, none⟩) HS.out.2 id⟩; have HCN := Lib.hid (nb_trans HCUR.out hbb); have HXB2 : Hid (xa.heap.size ≤ xb.heap.size) := Lib.hid hbb.size; have HO1 : Hid (OwnsF elRow xb xa.heap.size 55 v1 (rows.take t)) := Lib.hid (by unfold OwnsF; rw [HLT.out.1]; have hh := hown; rw [Nat.zero_add, List.nil_append] at hh; exact hh); have HXA : Hid (x1.heap.size ≤ xa.heap.size) := Lib.hid HCUR.out.size; have HD : Hid (∀ k, va.ownBlock = some k → v1.ownBlock ≠ some k) := Lib.hid (fun k e e2 => by have := HVA.out.lt e; have := HO1.out.ge e2; omega); have HVn := Lib.hid (HVA.out.later hbb); clear HVA HCUR HS hown hgr hbb; have HCUR := HCN; have HS := HSn; have HVA := HVn; clear HCN HSn HVn))
      | ((refine step_append_ownG (by rfl) _ _ 30 (by rfl) xa.heap.size 55 i0r _ 11 88 Try.underlying30 hir hz0 hz1 hz2 rfl (by decide) v1 t ((rows.take t).flatMap elRow.enc) (by rfl) (by have := HO1.out; unfold OwnsF at this; rw [HLT.out.1] at this; exact this) ⟨g, 0, none⟩ 0 0 [] (by rfl) (by rfl) (fun j u hu => by simp at hu) (by first | exact one_rows _ | simp) (HMX.out.1) (HMX.out.2.1) (HXB2.out) ?_; intro v2 xc hown hgr _; have hkk : Kept (fun b => v1.ownBlock = some b) xb xc := Kept.grown hgr (fun _ h => h); have HSn : Hid (xc.cell? ⟨w3.heap.size, 0, none⟩ = some (.int .i64 r.s) ∧ xc.cell? ⟨w3.heap.size, 1, none⟩ = some (.int .i64 r.g)) := Lib.hid ⟨hkk.cellS (p := ⟨w3.heap.size, 0, none⟩) HS.out.1 (fun e => by have h9 : xa.heap.size ≤ w3.heap.size := HO1.out.ge e; have := HXA.out; have := HNB2.out; omega), hkk.cellS (p := ⟨w3.heap.size, 1, none⟩) HS.out.2 (fun e => by have h9 : xa.heap.size ≤ w3.heap.size := HO1.out.ge e; have := HXA.out; have := HNB2.out; omega)⟩; have HCN : Hid (Below x1.heap.size x1 xc) := Lib.hid (HCUR.out.trans (hkk.below HCUR.out.size (fun k e => by have := HO1.out.ge e; have := HXA.out; omega))); have HRB : Hid (Reads elRow xc v2 (rows.take t ++ rows.drop q)) := Lib.hid (OwnsF.reads (B := xa.heap.size) (T := 55) (by unfold OwnsF; rw [List.drop_of_length_le (by rw [HN.out, HNQ.out]; exact Nat.le_refl _), List.append_nil, HLT.out.1]; have hh := hown; rw [Nat.add_zero, List.append_nil] at hh; exact hh)); have HRA : Hid (Reads elRow xc va (killR rows r.s r.g)) := Lib.hid (HVA.out.reads.kept hkk (fun k e e2 => HD.out k e e2)); clear HVA HCUR HS hown hgr hkk HO1; have HCUR := HCN; have HS := HSn; clear HCN HSn)))
    have hxl : w.heap.size < X.heap.size := (Array.getElem?_eq_some_iff.1 HXB.out).1
    have HAX : Hid (Below X.heap.size X A.drew) := Lib.hid (nb_trans HB2.out (nb_trans HB3.out HA.out)).drew
    have hx1 : x1.heap[w.heap.size]? = some (.cells #[.int .i64 m2, .int .i64 v2_0, .int .i64 v2_1, .int .i64 v2_2, .int .i64 v2_3, .int .i64 v2_4, .int .i64 v2_5, .int .i64 v2_6, .int .i64 v2_7] 36) := by
      rw [HK1.out.block _ (Nat.lt_of_lt_of_le hxl HAX.out.size) (fun f => by have := HF.out _ f; omega), HAX.out.block _ hxl]; exact HXB.out
    have hxd : xd.heap[w.heap.size]? = some (.cells #[.int .i64 m2, .int .i64 v2_0, .int .i64 v2_1, .int .i64 v2_2, .int .i64 v2_3, .int .i64 v2_4, .int .i64 v2_5, .int .i64 v2_6, .int .i64 v2_7] 36) := by rw [HCUR.out.block _ (Array.getElem?_eq_some_iff.1 hx1).1]; exact hx1
    have hxdl := (Array.getElem?_eq_some_iff.1 hxd).1
    have kb0 : xd.cell? ⟨w.heap.size, 0, none⟩ = some (.int .i64 m2) := by rw [cell_of_row _ _ _ _ _ _ hxd]; rfl
    have kb1 : xd.cell? ⟨w.heap.size, 1, none⟩ = some (.int .i64 v2_0) := by rw [cell_of_row _ _ _ _ _ _ hxd]; rfl
    have kb2 : xd.cell? ⟨w.heap.size, 2, none⟩ = some (.int .i64 v2_1) := by rw [cell_of_row _ _ _ _ _ _ hxd]; rfl
    have kb3 : xd.cell? ⟨w.heap.size, 3, none⟩ = some (.int .i64 v2_2) := by rw [cell_of_row _ _ _ _ _ _ hxd]; rfl
    have kb4 : xd.cell? ⟨w.heap.size, 4, none⟩ = some (.int .i64 v2_3) := by rw [cell_of_row _ _ _ _ _ _ hxd]; rfl
    have kb5 : xd.cell? ⟨w.heap.size, 5, none⟩ = some (.int .i64 v2_4) := by rw [cell_of_row _ _ _ _ _ _ hxd]; rfl
    have kb6 : xd.cell? ⟨w.heap.size, 6, none⟩ = some (.int .i64 v2_5) := by rw [cell_of_row _ _ _ _ _ _ hxd]; rfl
    have kb7 : xd.cell? ⟨w.heap.size, 7, none⟩ = some (.int .i64 v2_6) := by rw [cell_of_row _ _ _ _ _ _ hxd]; rfl
    have kb8 : xd.cell? ⟨w.heap.size, 8, none⟩ = some (.int .i64 v2_7) := by rw [cell_of_row _ _ _ _ _ _ hxd]; rfl
    have HNH : Hid (¬ F1 w3.heap.size) := Lib.hid (HM1.out.neK hal HNF.out.1)
    have HF1 : Hid (∀ b, F1 b → X.heap.size ≤ b) := Lib.hid (HM1.out.above HAX.out.size HF.out)
    have HBD : Hid (Below X.heap.size X xd) := Lib.hid (by
      have h0 := HAX.out.trans (HK1.out.below HAX.out.size HF.out)
      exact nb_trans h0 HCUR.out)
    have HDD : Hid (hasH (spawnR (freeL l r.s r.g) (killR rows r.s r.g) m2 (fun j => [v2_0, v2_1, v2_2, v2_3, v2_4, v2_5, v2_6, v2_7].getD j 0)) r.s r.g = false) := Lib.hid (hasH_kill_spawn HOK.out HRI.out.has _ _)
    clear hx1 hxd kx0 kx1
    go_wp2_with fail
    refine (worldSpawn_any p F1 (freeL l r.s r.g) (killR rows r.s r.g) m2 (fun j => [v2_0, v2_1, v2_2, v2_3, v2_4, v2_5, v2_6, v2_7].getD j 0) _ (HW1.out.later HCUR.out) HOK1.out).mono ?_
    rintro e y1 ⟨rfl, F2, h2, hk2, hm2⟩
    have HOK2 := Lib.hid (HOK1.out.spawn m2 (fun j => [v2_0, v2_1, v2_2, v2_3, v2_4, v2_5, v2_6, v2_7].getD j 0))
    have HW2 := Lib.hid h2
    have ky0 : y1.cell? ⟨w3.heap.size, 0, none⟩ = some (.int .i64 r.s) := hk2.cellS HS.out.1 HNH.out
    have ky1 : y1.cell? ⟨w3.heap.size, 1, none⟩ = some (.int .i64 r.g) := hk2.cellS HS.out.2 HNH.out
    have hyl := World.block_lt_of_cell? _ _ ky0
    simp only at hyl
    have HNH2 : Hid (¬ F2 w3.heap.size) := Lib.hid (hm2.neK (by have := World.block_lt_of_cell? _ _ HS.out.1; simpa using this) HNH.out)
    have HF2 : Hid (∀ b, F2 b → X.heap.size ≤ b) := Lib.hid (hm2.above HBD.out.size HF1.out)
    have HBY : Hid (Below X.heap.size X y1) := Lib.hid (HBD.out.trans (hk2.below HBD.out.size HF1.out))
    generalize spawnR (freeL l r.s r.g) (killR rows r.s r.g) m2 (fun j => [v2_0, v2_1, v2_2, v2_3, v2_4, v2_5, v2_6, v2_7].getD j 0) = rows2 at *
    generalize spawnL (freeL l r.s r.g) m2 (fun j => [v2_0, v2_1, v2_2, v2_3, v2_4, v2_5, v2_6, v2_7].getD j 0) = l2 at *
    clear h2 hk2 hm2 kb0 kb1 kb2 kb3 kb4 kb5 kb6 kb7 kb8
    go_wp2_with fail
    refine (worldGet_any p F2 l2 rows2 r.s r.g rowZ 7 _ HW2.out HRI.out.is HRI.out.ig (getE_no HDD.out).2 (getE_no HDD.out).1).mono ?_
    rintro e y2 ⟨rfl, hb2⟩
    have hW2 : Below y1.heap.size y1 (y2.alloc (.cells #[.int .i64 rowZ.m, .int .i64 (rowZ.f 0), .int .i64 (rowZ.f 1), .int .i64 (rowZ.f 2), .int .i64 (rowZ.f 3), .int .i64 (rowZ.f 4), .int .i64 (rowZ.f 5), .int .i64 (rowZ.f 6), .int .i64 (rowZ.f 7)] 36)) := nb_alloc hb2 _
    have HWY := Lib.hid hW2
    have kz0 : (y2.alloc (.cells #[.int .i64 rowZ.m, .int .i64 (rowZ.f 0), .int .i64 (rowZ.f 1), .int .i64 (rowZ.f 2), .int .i64 (rowZ.f 3), .int .i64 (rowZ.f 4), .int .i64 (rowZ.f 5), .int .i64 (rowZ.f 6), .int .i64 (rowZ.f 7)] 36)).cell? ⟨w3.heap.size, 0, none⟩ = some (.int .i64 r.s) := by rw [hW2.cell (p := ⟨w3.heap.size, 0, none⟩) hyl]; exact ky0
    have kz1 : (y2.alloc (.cells #[.int .i64 rowZ.m, .int .i64 (rowZ.f 0), .int .i64 (rowZ.f 1), .int .i64 (rowZ.f 2), .int .i64 (rowZ.f 3), .int .i64 (rowZ.f 4), .int .i64 (rowZ.f 5), .int .i64 (rowZ.f 6), .int .i64 (rowZ.f 7)] 36)).cell? ⟨w3.heap.size, 1, none⟩ = some (.int .i64 r.g) := by rw [hW2.cell (p := ⟨w3.heap.size, 1, none⟩) hyl]; exact ky1
    have ky0' : y2.cell? ⟨w3.heap.size, 0, none⟩ = some (.int .i64 r.s) := by rw [hb2.cell (p := ⟨w3.heap.size, 0, none⟩) hyl]; exact ky0
    have ky1' : y2.cell? ⟨w3.heap.size, 1, none⟩ = some (.int .i64 r.g) := by rw [hb2.cell (p := ⟨w3.heap.size, 1, none⟩) hyl]; exact ky1
    have hyl2 : w3.heap.size < y2.heap.size := Nat.lt_of_lt_of_le hyl hb2.size
    have HKE : Hid (killE rows2 r.s r.g = 7) := Lib.hid (by rw [killE, HDD.out]; rfl)
    have HPE : Hid (putWE (killR rows2 r.s r.g) r.s r.g 0 0 = 7) := Lib.hid (by rw [putWE, hasH_killR]; rfl)
    clear hb2 hW2 ky0 ky1
    go_wp2_with fail
    refine (worldKill_any p F2 l2 rows2 r.s r.g _ (HW2.out.later HWY.out) HOK2.out HRI.out.is HRI.out.ig).mono ?_
    rintro e y3 ⟨rfl, F3, h3, hk3, hm3⟩
    rw [HKE.out]
    have HW3 := Lib.hid h3
    have kq0 : y3.cell? ⟨w3.heap.size, 0, none⟩ = some (.int .i64 r.s) := hk3.cellS kz0 HNH2.out
    have kq1 : y3.cell? ⟨w3.heap.size, 1, none⟩ = some (.int .i64 r.g) := hk3.cellS kz1 HNH2.out
    have hql := World.block_lt_of_cell? _ _ kq0
    simp only at hql
    have HB3' : Hid (Below X.heap.size X y3) := Lib.hid ((nb_trans HBY.out HWY.out).trans (hk3.below (nb_trans HBY.out HWY.out).size HF2.out))
    have HF3 : Hid (∀ b, F3 b → X.heap.size ≤ b) := Lib.hid (hm3.above (nb_trans HBY.out HWY.out).size HF2.out)
    clear h3 hk3 hm3 kz0 kz1 ky0' ky1'
    go_wp2_with fail
    refine (worldPut_any p F3 _ _ r.s r.g 0 0 _ HW3.out (HOK2.out.kill _ _) HRI.out.is HRI.out.ig).mono ?_
    rintro e y4 ⟨rfl, F4, h4, hk4, hm4⟩
    rw [HPE.out]
    have HB4 : Hid (Below w.heap.size w y4) := Lib.hid (nb_trans HX.out (HB3'.out.trans (hk4.below HB3'.out.size HF3.out)))
    clear h4 hk4 hm4 kq0 kq1
    go_wp2
    go_ret
    exact ⟨rfl, HB4.out⟩
  · skip
    go_region_held3 (fun x => (x.cell? ⟨w3.heap.size, 0, none⟩ = some (.int .i64 r.s) ∧ x.cell? ⟨w3.heap.size, 1, none⟩ = some (.int .i64 r.g))) (first | go_keep | exact HS.out) (first
      | ((go_at_call 17; refine (worldKill_any p F l rows r.s r.g _ (HWA.out.later (Below.refl _ _).drew) HOK.out HRI.out.is HRI.out.ig).mono ?_; rintro e x1 ⟨rfl, F1, h1, hk1, hm1⟩; rw [HE.out]; have HW1 := Lib.hid h1; have HK1 := Lib.hid hk1; have HM1 := Lib.hid hm1; have HS : Hid (x1.cell? ⟨w3.heap.size, 0, none⟩ = some (.int .i64 r.s) ∧ x1.cell? ⟨w3.heap.size, 1, none⟩ = some (.int .i64 r.g)) := Lib.hid ⟨hk1.cellS (p := ⟨w3.heap.size, 0, none⟩) HC0.out.1 HNF.out.1, hk1.cellS (p := ⟨w3.heap.size, 1, none⟩) HC0.out.2 HNF.out.1⟩; have HCUR : Hid (Below x1.heap.size x1 x1) := Lib.hid (Below.refl _ _); have HNB2 : Hid (w3.heap.size < x1.heap.size) := Lib.hid (Nat.lt_of_lt_of_le hal hk1.size); have HWC : Hid (∀ y, Below x1.heap.size x1 y → ∀ j u, (rows.flatMap elRow.enc)[j]? = some u → y.cell? ⟨g, j, none⟩ = some u) := Lib.hid (fun y hy j u hu => by
          have h0 := ((HO3.out.owns.later HA.out).later (Below.refl _ _).drew).kept hk1 (fun k e => by simp [Value.ownBlock] at e; subst e; exact HNF.out.2)
          have h2 := World.ownsRow.cellAt h0 j (by have := (List.getElem?_eq_some_iff.1 hu).1; rwa [length_enc] at this)
          rw [hy.cell (p := ⟨g, j, none⟩) (Nat.lt_of_lt_of_le HNB.out hk1.size), h2]; exact hu); clear h1 hk1 hm1))
      | ((go_at_call 23; refine (keepAll_any p F1 _ _ _ (HW1.out.later HCUR.out) HOK1.out).mono ?_; rintro e xa ⟨va, rfl, hoa, hba⟩; have HSn : Hid (xa.cell? ⟨w3.heap.size, 0, none⟩ = some (.int .i64 r.s) ∧ xa.cell? ⟨w3.heap.size, 1, none⟩ = some (.int .i64 r.g)) := Lib.hid ⟨(Kept.ofBelow (F := fun _ => False) hba).cellS (p := ⟨w3.heap.size, 0, none⟩) HS.out.1 id, (Kept.ofBelow (F := fun _ => False) hba).cellS (p := ⟨w3.heap.size, 1, none⟩) HS.out.2 id⟩; have HCN := Lib.hid (nb_trans HCUR.out hba); have HVA := Lib.hid hoa; clear HCUR HS hoa hba; have HCUR := HCN; have HS := HSn; clear HCN HSn; dsimp only))
      | ((go_at_call 20; refine (eqRow_same va v2 (killR rows r.s r.g) _ HRA.out (by rw [HKR1.out]; exact HRB.out)).mono ?_; rintro e xd ⟨rfl, hbd⟩; have HSn : Hid (xd.cell? ⟨w3.heap.size, 0, none⟩ = some (.int .i64 r.s) ∧ xd.cell? ⟨w3.heap.size, 1, none⟩ = some (.int .i64 r.g)) := Lib.hid ⟨(Kept.ofBelow (F := fun _ => False) hbd).cellS (p := ⟨w3.heap.size, 0, none⟩) HS.out.1 id, (Kept.ofBelow (F := fun _ => False) hbd).cellS (p := ⟨w3.heap.size, 1, none⟩) HS.out.2 id⟩; have HCN := Lib.hid (nb_trans HCUR.out hbd); clear HCUR HS hbd; have HCUR := HCN; have HS := HSn; clear HCN HSn; dsimp only))
      | ((refine step_append_ownG (by rfl) _ _ 30 (by rfl) xa.heap.size 55 i0r _ 11 88 Try.underlying30 hir hz0 hz1 hz2 rfl (by decide) (.slice none 0 0) 0 [] (by rfl) (World.ownsRow_nil _ _ _ _) ⟨g, 0, none⟩ t cap ((rows.take t).flatMap elRow.enc) (by rfl) (by rw [length_enc, HLT.out.1]; rfl) (fun j u hu => by rw [addr_add', Nat.zero_add]; refine HWC.out _ HCUR.out j u ?_; rw [flatMap_take] at hu; exact getElem?_of_take hu) (by first | exact one_rows _ | simp) (by rw [Nat.zero_add]; exact HMX.out.1) (by rw [Nat.zero_add]; exact HMX.out.2.1) (Nat.le_refl _) ?_; intro v1 xb hown hgr _; have hbb : Below xa.heap.size xa xb := (Below.refl _ _).grown hgr (Nat.le_refl _) (fun j hj => by cases hj); have HSn : Hid (xb.cell? ⟨w3.heap.size, 0, none⟩ = some (.int .i64 r.s) ∧ xb.cell? ⟨w3.heap.size, 1, none⟩ = some (.int .i64 r.g)) := Lib.hid ⟨(Kept.ofBelow (F := fun _ => False) hbb).cellS (p := ⟨w3.heap.size, 0, none⟩) HS.out.1 id, (Kept.ofBelow (F := fun _ => False) hbb).cellS (p := ⟨w3.heap.size, 1, none⟩) HS.out.2 id⟩; have HCN := Lib.hid (nb_trans HCUR.out hbb); have HXB2 : Hid (xa.heap.size ≤ xb.heap.size) := Lib.hid hbb.size; have HO1 : Hid (OwnsF elRow xb xa.heap.size 55 v1 (rows.take t)) := Lib.hid (by unfold OwnsF; rw [HLT.out.1]; have hh := hown; rw [Nat.zero_add, List.nil_append] at hh; exact hh); have HXA : Hid (x1.heap.size ≤ xa.heap.size) := Lib.hid HCUR.out.size; have HD : Hid (∀ k, va.ownBlock = some k → v1.ownBlock ≠ some k) := Lib.hid (fun k e e2 => by have := HVA.out.lt e; have := HO1.out.ge e2; omega); have HVn := Lib.hid (HVA.out.later hbb); clear HVA HCUR HS hown hgr hbb; have HCUR := HCN; have HS := HSn; have HVA := HVn; clear HCN HSn HVn))
      | ((refine step_append_ownG (by rfl) _ _ 30 (by rfl) xa.heap.size 55 i0r _ 11 88 Try.underlying30 hir hz0 hz1 hz2 rfl (by decide) v1 t ((rows.take t).flatMap elRow.enc) (by rfl) (by have := HO1.out; unfold OwnsF at this; rw [HLT.out.1] at this; exact this) ⟨g, q * 11, none⟩ (n - q) (cap - q) ((rows.drop q).flatMap elRow.enc) (by rfl) (by rw [length_enc, HLT.out.2.1]; rfl) (fun j u hu => by rw [addr_add']; refine HWC.out _ HCUR.out _ u ?_; rw [flatMap_drop, List.getElem?_drop] at hu; exact hu) (by first | exact one_rows _ | simp) (HMX.out.2.2.1) (HMX.out.2.2.2) (HXB2.out) ?_; intro v2 xc hown hgr _; have hkk : Kept (fun b => v1.ownBlock = some b) xb xc := Kept.grown hgr (fun _ h => h); have HSn : Hid (xc.cell? ⟨w3.heap.size, 0, none⟩ = some (.int .i64 r.s) ∧ xc.cell? ⟨w3.heap.size, 1, none⟩ = some (.int .i64 r.g)) := Lib.hid ⟨hkk.cellS (p := ⟨w3.heap.size, 0, none⟩) HS.out.1 (fun e => by have h9 : xa.heap.size ≤ w3.heap.size := HO1.out.ge e; have := HXA.out; have := HNB2.out; omega), hkk.cellS (p := ⟨w3.heap.size, 1, none⟩) HS.out.2 (fun e => by have h9 : xa.heap.size ≤ w3.heap.size := HO1.out.ge e; have := HXA.out; have := HNB2.out; omega)⟩; have HCN : Hid (Below x1.heap.size x1 xc) := Lib.hid (HCUR.out.trans (hkk.below HCUR.out.size (fun k e => by have := HO1.out.ge e; have := HXA.out; omega))); have HRB : Hid (Reads elRow xc v2 (rows.take t ++ rows.drop q)) := Lib.hid (OwnsF.reads (B := xa.heap.size) (T := 55) (by unfold OwnsF; rw [List.flatMap_append, List.length_append, HLT.out.1, HLT.out.2.1]; exact hown)); have HRA : Hid (Reads elRow xc va (killR rows r.s r.g)) := Lib.hid (HVA.out.reads.kept hkk (fun k e e2 => HD.out k e e2)); clear HVA HCUR HS hown hgr hkk HO1; have HCUR := HCN; have HS := HSn; clear HCN HSn)))
    have hxl : w.heap.size < X.heap.size := (Array.getElem?_eq_some_iff.1 HXB.out).1
    have HAX : Hid (Below X.heap.size X A.drew) := Lib.hid (nb_trans HB2.out (nb_trans HB3.out HA.out)).drew
    have hx1 : x1.heap[w.heap.size]? = some (.cells #[.int .i64 m2, .int .i64 v2_0, .int .i64 v2_1, .int .i64 v2_2, .int .i64 v2_3, .int .i64 v2_4, .int .i64 v2_5, .int .i64 v2_6, .int .i64 v2_7] 36) := by
      rw [HK1.out.block _ (Nat.lt_of_lt_of_le hxl HAX.out.size) (fun f => by have := HF.out _ f; omega), HAX.out.block _ hxl]; exact HXB.out
    have hxd : xd.heap[w.heap.size]? = some (.cells #[.int .i64 m2, .int .i64 v2_0, .int .i64 v2_1, .int .i64 v2_2, .int .i64 v2_3, .int .i64 v2_4, .int .i64 v2_5, .int .i64 v2_6, .int .i64 v2_7] 36) := by rw [HCUR.out.block _ (Array.getElem?_eq_some_iff.1 hx1).1]; exact hx1
    have hxdl := (Array.getElem?_eq_some_iff.1 hxd).1
    have kb0 : xd.cell? ⟨w.heap.size, 0, none⟩ = some (.int .i64 m2) := by rw [cell_of_row _ _ _ _ _ _ hxd]; rfl
    have kb1 : xd.cell? ⟨w.heap.size, 1, none⟩ = some (.int .i64 v2_0) := by rw [cell_of_row _ _ _ _ _ _ hxd]; rfl
    have kb2 : xd.cell? ⟨w.heap.size, 2, none⟩ = some (.int .i64 v2_1) := by rw [cell_of_row _ _ _ _ _ _ hxd]; rfl
    have kb3 : xd.cell? ⟨w.heap.size, 3, none⟩ = some (.int .i64 v2_2) := by rw [cell_of_row _ _ _ _ _ _ hxd]; rfl
    have kb4 : xd.cell? ⟨w.heap.size, 4, none⟩ = some (.int .i64 v2_3) := by rw [cell_of_row _ _ _ _ _ _ hxd]; rfl
    have kb5 : xd.cell? ⟨w.heap.size, 5, none⟩ = some (.int .i64 v2_4) := by rw [cell_of_row _ _ _ _ _ _ hxd]; rfl
    have kb6 : xd.cell? ⟨w.heap.size, 6, none⟩ = some (.int .i64 v2_5) := by rw [cell_of_row _ _ _ _ _ _ hxd]; rfl
    have kb7 : xd.cell? ⟨w.heap.size, 7, none⟩ = some (.int .i64 v2_6) := by rw [cell_of_row _ _ _ _ _ _ hxd]; rfl
    have kb8 : xd.cell? ⟨w.heap.size, 8, none⟩ = some (.int .i64 v2_7) := by rw [cell_of_row _ _ _ _ _ _ hxd]; rfl
    have HNH : Hid (¬ F1 w3.heap.size) := Lib.hid (HM1.out.neK hal HNF.out.1)
    have HF1 : Hid (∀ b, F1 b → X.heap.size ≤ b) := Lib.hid (HM1.out.above HAX.out.size HF.out)
    have HBD : Hid (Below X.heap.size X xd) := Lib.hid (by
      have h0 := HAX.out.trans (HK1.out.below HAX.out.size HF.out)
      exact nb_trans h0 HCUR.out)
    have HDD : Hid (hasH (spawnR (freeL l r.s r.g) (killR rows r.s r.g) m2 (fun j => [v2_0, v2_1, v2_2, v2_3, v2_4, v2_5, v2_6, v2_7].getD j 0)) r.s r.g = false) := Lib.hid (hasH_kill_spawn HOK.out HRI.out.has _ _)
    clear hx1 hxd kx0 kx1
    go_wp2_with fail
    refine (worldSpawn_any p F1 (freeL l r.s r.g) (killR rows r.s r.g) m2 (fun j => [v2_0, v2_1, v2_2, v2_3, v2_4, v2_5, v2_6, v2_7].getD j 0) _ (HW1.out.later HCUR.out) HOK1.out).mono ?_
    rintro e y1 ⟨rfl, F2, h2, hk2, hm2⟩
    have HOK2 := Lib.hid (HOK1.out.spawn m2 (fun j => [v2_0, v2_1, v2_2, v2_3, v2_4, v2_5, v2_6, v2_7].getD j 0))
    have HW2 := Lib.hid h2
    have ky0 : y1.cell? ⟨w3.heap.size, 0, none⟩ = some (.int .i64 r.s) := hk2.cellS HS.out.1 HNH.out
    have ky1 : y1.cell? ⟨w3.heap.size, 1, none⟩ = some (.int .i64 r.g) := hk2.cellS HS.out.2 HNH.out
    have hyl := World.block_lt_of_cell? _ _ ky0
    simp only at hyl
    have HNH2 : Hid (¬ F2 w3.heap.size) := Lib.hid (hm2.neK (by have := World.block_lt_of_cell? _ _ HS.out.1; simpa using this) HNH.out)
    have HF2 : Hid (∀ b, F2 b → X.heap.size ≤ b) := Lib.hid (hm2.above HBD.out.size HF1.out)
    have HBY : Hid (Below X.heap.size X y1) := Lib.hid (HBD.out.trans (hk2.below HBD.out.size HF1.out))
    generalize spawnR (freeL l r.s r.g) (killR rows r.s r.g) m2 (fun j => [v2_0, v2_1, v2_2, v2_3, v2_4, v2_5, v2_6, v2_7].getD j 0) = rows2 at *
    generalize spawnL (freeL l r.s r.g) m2 (fun j => [v2_0, v2_1, v2_2, v2_3, v2_4, v2_5, v2_6, v2_7].getD j 0) = l2 at *
    clear h2 hk2 hm2 kb0 kb1 kb2 kb3 kb4 kb5 kb6 kb7 kb8
    go_wp2_with fail
    refine (worldGet_any p F2 l2 rows2 r.s r.g rowZ 7 _ HW2.out HRI.out.is HRI.out.ig (getE_no HDD.out).2 (getE_no HDD.out).1).mono ?_
    rintro e y2 ⟨rfl, hb2⟩
    have hW2 : Below y1.heap.size y1 (y2.alloc (.cells #[.int .i64 rowZ.m, .int .i64 (rowZ.f 0), .int .i64 (rowZ.f 1), .int .i64 (rowZ.f 2), .int .i64 (rowZ.f 3), .int .i64 (rowZ.f 4), .int .i64 (rowZ.f 5), .int .i64 (rowZ.f 6), .int .i64 (rowZ.f 7)] 36)) := nb_alloc hb2 _
    have HWY := Lib.hid hW2
    have kz0 : (y2.alloc (.cells #[.int .i64 rowZ.m, .int .i64 (rowZ.f 0), .int .i64 (rowZ.f 1), .int .i64 (rowZ.f 2), .int .i64 (rowZ.f 3), .int .i64 (rowZ.f 4), .int .i64 (rowZ.f 5), .int .i64 (rowZ.f 6), .int .i64 (rowZ.f 7)] 36)).cell? ⟨w3.heap.size, 0, none⟩ = some (.int .i64 r.s) := by rw [hW2.cell (p := ⟨w3.heap.size, 0, none⟩) hyl]; exact ky0
    have kz1 : (y2.alloc (.cells #[.int .i64 rowZ.m, .int .i64 (rowZ.f 0), .int .i64 (rowZ.f 1), .int .i64 (rowZ.f 2), .int .i64 (rowZ.f 3), .int .i64 (rowZ.f 4), .int .i64 (rowZ.f 5), .int .i64 (rowZ.f 6), .int .i64 (rowZ.f 7)] 36)).cell? ⟨w3.heap.size, 1, none⟩ = some (.int .i64 r.g) := by rw [hW2.cell (p := ⟨w3.heap.size, 1, none⟩) hyl]; exact ky1
    have ky0' : y2.cell? ⟨w3.heap.size, 0, none⟩ = some (.int .i64 r.s) := by rw [hb2.cell (p := ⟨w3.heap.size, 0, none⟩) hyl]; exact ky0
    have ky1' : y2.cell? ⟨w3.heap.size, 1, none⟩ = some (.int .i64 r.g) := by rw [hb2.cell (p := ⟨w3.heap.size, 1, none⟩) hyl]; exact ky1
    have hyl2 : w3.heap.size < y2.heap.size := Nat.lt_of_lt_of_le hyl hb2.size
    have HKE : Hid (killE rows2 r.s r.g = 7) := Lib.hid (by rw [killE, HDD.out]; rfl)
    have HPE : Hid (putWE (killR rows2 r.s r.g) r.s r.g 0 0 = 7) := Lib.hid (by rw [putWE, hasH_killR]; rfl)
    clear hb2 hW2 ky0 ky1
    go_wp2_with fail
    refine (worldKill_any p F2 l2 rows2 r.s r.g _ (HW2.out.later HWY.out) HOK2.out HRI.out.is HRI.out.ig).mono ?_
    rintro e y3 ⟨rfl, F3, h3, hk3, hm3⟩
    rw [HKE.out]
    have HW3 := Lib.hid h3
    have kq0 : y3.cell? ⟨w3.heap.size, 0, none⟩ = some (.int .i64 r.s) := hk3.cellS kz0 HNH2.out
    have kq1 : y3.cell? ⟨w3.heap.size, 1, none⟩ = some (.int .i64 r.g) := hk3.cellS kz1 HNH2.out
    have hql := World.block_lt_of_cell? _ _ kq0
    simp only at hql
    have HB3' : Hid (Below X.heap.size X y3) := Lib.hid ((nb_trans HBY.out HWY.out).trans (hk3.below (nb_trans HBY.out HWY.out).size HF2.out))
    have HF3 : Hid (∀ b, F3 b → X.heap.size ≤ b) := Lib.hid (hm3.above (nb_trans HBY.out HWY.out).size HF2.out)
    clear h3 hk3 hm3 kz0 kz1 ky0' ky1'
    go_wp2_with fail
    refine (worldPut_any p F3 _ _ r.s r.g 0 0 _ HW3.out (HOK2.out.kill _ _) HRI.out.is HRI.out.ig).mono ?_
    rintro e y4 ⟨rfl, F4, h4, hk4, hm4⟩
    rw [HPE.out]
    have HB4 : Hid (Below w.heap.size w y4) := Lib.hid (nb_trans HX.out (HB3'.out.trans (hk4.below HB3'.out.size HF3.out)))
    clear h4 hk4 hm4 kq0 kq1
    go_wp2
    go_ret
    exact ⟨rfl, HB4.out⟩

namespace worldKills
theorem own : ownKnob Try.prog.godebug = none := by kernel_rfl
theorem laidOut : laidOutB Try.prog = true := by kernel_rfl

set_option maxRecDepth 100000 in
set_option maxHeartbeats 4000000 in
theorem lifted (os : Os) (started : os.Started) (H : Type) (enc : TypeId × Value → H) :
    ReturnsInHanded {} Try.checked os 9 .any (Rows.worldKillsSpec.pre6 enc Try.prog Try.f9 Rows.worldKillsRow.domain false) (Rows.worldKillsSpec.post enc Try.prog Try.f9 false true false false) := by
  refine returnsInHanded_of_change (C := Try.checked) own started (by kernel_rfl) Try.func9
    (ChangeSpec.witness6 (enc := enc) (C := Try.checked) false ⟨#[], #[.slice none 0 0, .int .i64 0, .agg #[.int .i64 0, .int .i64 0, .int .i64 0, .int .i64 0, .int .i64 0, .int .i64 0, .int .i64 0, .int .i64 0, .int .i64 0]], []⟩ 8 (by kernel_rfl) (by kernel_rfl) (by kernel_rfl) (by kernel_rfl)) ?_
  intro W base args ds gs before hval0 hW hcnd _
  have hval : ∀ (j : Nat) t v, Try.f9.params[j]? = some t → args[j]? = some v → Value.okWide Try.prog W .any base t v := hval0
  have hW' := hW
  obtain ⟨p, q, hA0, hV, rfl, hfz, hnd⟩ := hW
  have hA : DataW.TrodAll enc Try.prog W 0 (fun _ => true) true Try.f9.params.toList args.toList ds p := hA0
  rw [Try.params9] at hA hval
  obtain ⟨v0, vs0, d0, ds0, p0, q0, hargs, rfl, rfl, h0, r0⟩ := trodAll_cons hA
  obtain ⟨v1, vs1, d1, ds1, p1, q1, rfl, rfl, rfl, h1, r1⟩ := trodAll_cons r0
  obtain ⟨v2, vs2, d2, ds2, p2, q2, rfl, rfl, rfl, h2, r2⟩ := trodAll_cons r1
  obtain ⟨rfl, rfl, rfl⟩ := trodAll_nil r2
  obtain rfl : args = #[v0, v1, v2] := by cases args; simp_all
  obtain ⟨rfl, rfl⟩ := trodVars_none hV
  have k0' := h0
  have lt0 : ∀ x ∈ p0, x.block < W.heap.size := by obtain ⟨m, hm⟩ := h0; exact DataW.trod_lt m _ _ _ hm
  have k1' := h1
  have lt1 : ∀ x ∈ p1, x.block < W.heap.size := by obtain ⟨m, hm⟩ := h1; exact DataW.trod_lt m _ _ _ hm
  have k2' := h2
  have lt2 : ∀ x ∈ p2, x.block < W.heap.size := by obtain ⟨m, hm⟩ := h2; exact DataW.trod_lt m _ _ _ hm
  obtain ⟨z0, i0, j0⟩ : ∃ zs, Reads elOp W v0 zs ∧ ∀ x ∈ zs, OpOk x := by
    obtain ⟨a0, len0, cap0, rfl⟩ := okWide_slice Try.underlying22 (hval 0 22 v0 rfl rfl)
    exact Reads_ofP elOp OpOk Try.underlying22 (by kernel_rfl) op_dec h0
  obtain ⟨a1, rfl, i1⟩ : ∃ a : Int, v1 = .int .i64 a ∧ I64 a := by
    obtain ⟨a, rfl, _, _, wa⟩ := open_int Try.underlying3 (hval 1 3 v1 rfl rfl) h1
    exact ⟨a, rfl, I64_of wa⟩
  obtain ⟨m2, v2_0, v2_1, v2_2, v2_3, v2_4, v2_5, v2_6, v2_7, rfl⟩ : ∃ m x0 x1 x2 x3 x4 x5 x6 x7 : Int, v2 = .agg #[.int .i64 m, .int .i64 x0, .int .i64 x1, .int .i64 x2, .int .i64 x3, .int .i64 x4, .int .i64 x5, .int .i64 x6, .int .i64 x7] := by
    obtain ⟨zs, hl, rfl, _⟩ := open_flat 4 9 Try.underlying36 (by kernel_rfl) (by kernel_rfl) (hval 2 36 v2 rfl rfl) h2
    obtain ⟨m, x0, x1, x2, x3, x4, x5, x6, x7, rfl⟩ := list9 hl
    exact ⟨m, x0, x1, x2, x3, x4, x5, x6, x7, rfl⟩
  clear hA0 hval0
  refine (worldKills_walk v0 z0 j0 a1 i1 m2 v2_0 v2_1 v2_2 v2_3 v2_4 v2_5 v2_6 v2_7 W i0).mono fun e W' ⟨he, bel⟩ => ?_
  subst he
  exact ⟨_, rfl, _, _, _, [], _, [], hW', trodAll_mk1 (shut_bool Try.underlying4 _), (trodAll_cons_mk (Below.trod laidOut (by kernel_rfl) (of_decide_eq_true (by kernel_rfl)) k0' bel lt0) (trodAll_cons_mk (Below.trod laidOut (by kernel_rfl) (of_decide_eq_true (by kernel_rfl)) k1' bel lt1) (trodAll_cons_mk (Below.trod laidOut (by kernel_rfl) (of_decide_eq_true (by kernel_rfl)) k2' bel lt2) trodAll_mk0))), rfl, bel.frame _, fun h => by cases h⟩
end worldKills

theorem worldKills_proved : Rows.WorldKillsSaid :=
  OpenClaim.holds_of_wide 9 Try.f9 rfl rfl rfl rfl rfl rfl rfl ⟨rfl, rfl, rfl, rfl, rfl⟩ rfl rfl rfl rfl rfl (by kernel_rfl) Try.func9 (by kernel_rfl)
    (of_decide_eq_true (by kernel_rfl)) (by unfold Func.isWrapper; first | (rw [if_pos (by decide +kernel)]; kernel_rfl) | (rw [if_neg (by decide +kernel)]; exact ⟨rfl, rfl⟩))
    (fun os started H enc _ => worldKills.lifted os started H enc)

end Go.Proofs.Ytakoejopgdaknaa

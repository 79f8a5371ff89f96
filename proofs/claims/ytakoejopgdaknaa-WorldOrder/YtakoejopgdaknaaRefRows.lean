/- Own slices of rows; Copy of rows; a call in a drawn region. -/
import Derived.Test.YtakoejopgdaknaaTableModel
namespace Go.Proofs.Ytakoejopgdaknaa
set_option maxRecDepth 8000
open Go.RowKit

theorem infoRow : (Try.prog.info? 55).map (fun i => (i.zero, i.size, i.bytes)) = some (some (.agg #[.int .i64 0, .int .i64 0, .int .i64 0, .int .i64 0, .int .i64 0, .int .i64 0, .int .i64 0, .int .i64 0, .int .i64 0, .int .i64 0, .int .i64 0]), 11, 88) := by kernel_rfl

/-- An own slice of rows, opened. -/
theorem OwnsF.at11 {w : World} {B : Nat} {T : TypeId} {v : Value} {xs : List Rw} (h : OwnsF elRow w B T v xs) (h0 : 0 < xs.length) :
    ∃ g cap, v = .slice (some ⟨g, 0, none⟩) xs.length cap ∧ B ≤ g ∧ g < w.heap.size ∧ xs.length ≤ cap ∧ cap ≤ maxLen ∧ (∀ j, w.frozen? ⟨g, j, none⟩ = false) ∧ ∀ k, k < xs.length → ∀ j, j < 11 → w.cell? ⟨g, k * 11 + j, none⟩ = (elRow.enc (xs.getD k rowZ))[j]? := by
  have hB := fun k e => h.ge (k := k) e
  rcases h.owns.form with ⟨rfl, rfl⟩ | ⟨g, cap, cur, rfl, hh, hg, hn, hcap, hsz⟩
  · simp at h0
  · refine ⟨g, cap, rfl, hB g rfl, hg, hn, hcap, fun j => frozen_of_row _ _ _ _ _ hh, fun k hk j hj => ?_⟩
    have h1 := enc_at elRow xs k j hk hj
    rw [show elRow.size = 11 from rfl] at h1
    rw [World.ownsRow.cellAt h.owns _ (by rw [show elRow.size = 11 from rfl]; omega), h1]; rfl

set_option maxHeartbeats 1000000 in
theorem copyRow_any (v : Value) (xs : List Rw) (w : World) (h : OwnsF elRow w 0 55 v xs) (hl : xs.length * 88 ≤ 140737488355328) :
    Calls Try.prog 62 #[v] w fun e w' => ∃ v', e = .returned v' ∧ OwnsF elRow w' w.heap.size 55 v' xs ∧ Below w.heap.size w w' := by
  obtain ⟨i0, hi, hz0, hz1, hz2⟩ := info_parts infoRow
  rcases h.owns.form with ⟨rfl, rfl⟩ | ⟨g, cap, cur, rfl, hh, hg, hn, hcap, hsz⟩
  · go_enter Try.func62, Try.ntmps62
    go_wp2
    go_ret
    exact ⟨_, rfl, OwnsF.nil _ _ _ _, Below.refl _ _⟩
  · have HC : Hid (∀ j u, (xs.flatMap elRow.enc)[j]? = some u → w.cell? ((⟨g, 0, none⟩ : Addr).add j) = some u) := Lib.hid (fun j u hu => by
      rw [addr_add', Nat.zero_add, World.ownsRow.cellAt h.owns j (by have := (List.getElem?_eq_some_iff.1 hu).1; rwa [length_enc] at this)]
      exact hu)
    have HL := Lib.hid hl
    have HL2 : Hid (xs.length ≤ maxLen) := Lib.hid (Nat.le_trans hn hcap)
    clear h hh
    go_enter Try.func62, Try.ntmps62
    go_wp2_with (first | (at_builtin; refine wpList_append_own _ rfl _ _ 30 rfl w.heap.size 55 i0 _ 11 88 Try.underlying30 hi hz0 hz1 hz2 rfl (by decide) _ 0 [] rfl (World.ownsRow_nil w w.heap.size 55 11) ⟨g, 0, none⟩ xs.length cap (xs.flatMap elRow.enc) rfl (length_enc elRow xs) HC.out (by intro u hu; obtain ⟨x, _, hx⟩ := List.mem_flatMap.1 hu; exact elRow.one x u hx) (by rw [Nat.zero_add]; exact HL2.out) (by rw [Nat.zero_add]; exact HL.out) (Nat.le_refl _) ?_))
    intro v' w2 hown hgr _
    have HB2 : Hid (Below w.heap.size w w2) := Lib.hid ((Below.refl _ _).grown hgr (Nat.le_refl _) (fun j hj => by cases hj))
    have HO2 : Hid (OwnsF elRow w2 w.heap.size 55 v' xs) := Lib.hid hown
    clear hown hgr
    go_wp2
    go_ret
    exact ⟨_, rfl, HO2.out, HB2.out⟩

theorem step_call_by {P : Program} {ops : Array Oper} {o : Oper} {a : Act} {w : World} {K : Act → World → Prop} {Q : Exit → Act → World → Prop} {E : Prop} (hgd : o.guard = none) (f : FuncId) (args : Array Value) (hrun : (execOp a.eval o).run P w = .ok (.enter f args) w)
    (hc : Calls P f args w fun e w' => ∃ v, e = .returned v ∧ K (a.put o.dst v) w') : if Region.wanted o (yielded ops a.tmps) = true then Oper.wp P o a w K Q else E := by
  have hw : Region.wanted o (yielded ops a.tmps) = true := by simp [Region.wanted, hgd]
  rw [if_pos hw]
  unfold Oper.wp
  rw [hrun, Oper.upon_enter]
  refine hc.mono fun e w'' hh => ?_
  obtain ⟨v, rfl, h⟩ := hh
  exact h

end Go.Proofs.Ytakoejopgdaknaa

/- Copy of changes; slices whose cells may be written. -/
import Derived.Test.YtcmpaohefihijabGreatDoorDiffEls
import Derived.Deep.MidRow
namespace Go.Proofs.YtcmpaohefihijabGreatDoor
set_option maxRecDepth 8000
open Go.RowKit
set_option maxRecDepth 8000

set_option maxHeartbeats 1000000 in
theorem copyChs_any (v : Value) (zs : List Ch) (w : World) (h : Reads elCh w v zs) (hs : zs.length * 160 ≤ 140737488351232) :
    Calls Tryz.prog 8 #[v] w fun e w' => ∃ v', e = .returned v' ∧ OwnsF elCh w' w.heap.size 44 v' zs ∧ Below w.heap.size w w' := by
  obtain ⟨i0, hi, hz0, hz1, hz2⟩ := info_parts infoCh
  obtain ⟨hm, h⟩ := h.open
  rcases h with ⟨a, cap, rfl, hz⟩ | ⟨b, off, cap, rfl, hb, hlc, hcm, hc⟩
  · obtain rfl : zs = [] := List.length_eq_zero_iff.1 (by omega)
    cases a with
    | none =>
      go_enter Tryz.func8, Tryz.ntmps8
      go_wp2
      go_ret
      exact ⟨_, rfl, OwnsF.nil _ _ _ _, Below.refl _ _⟩
    | some ad =>
      go_enter Tryz.func8, Tryz.ntmps8
      go_wp2_with (first | (at_builtin; refine wpList_append_own _ rfl _ _ 23 rfl w.heap.size 44 i0 (chV chZ) 20 160 Tryz.underlying23 hi hz0 hz1 hz2 rfl (by decide) _ _ _ rfl (World.ownsRow_nil w w.heap.size 44 20) ad 0 cap [] rfl rfl (fun j u hu => by simp at hu) (fun u hu => by simp at hu) (by decide) (by decide) (Nat.le_refl _) ?_))
      intro v' w2 hown hgr _
      have HB2 : Hid (Below w.heap.size w w2) := Lib.hid ((Below.refl _ _).grown hgr (Nat.le_refl _) (fun j hj => by cases hj))
      have HO2 := Lib.hid hown
      clear hown hgr
      go_wp2
      go_ret
      exact ⟨_, rfl, HO2.out, HB2.out⟩
  · have HC : Hid (∀ j u, (zs.flatMap elCh.enc)[j]? = some u → w.cell? ((⟨b, off, none⟩ : Addr).add j) = some u) := Lib.hid (fun j u hu => by
      have hj := (List.getElem?_eq_some_iff.1 hu).1
      rw [length_enc] at hj
      have hj2 : j < zs.length * 20 := hj
      have e1 : j / 20 * elCh.size + j % 20 = j := by show j / 20 * 20 + j % 20 = j; omega
      have hk : j / 20 < zs.length := by omega
      have hr : j % 20 < elCh.size := by show j % 20 < 20; omega
      rw [← e1, enc_at elCh zs _ _ hk hr, ← hc _ hk _ hr, Nat.add_assoc, e1] at hu
      rw [addr_add']
      exact hu)
    have HO : Hid (∀ u ∈ zs.flatMap elCh.enc, u.oneCell' = true) := Lib.hid (fun u hu => by obtain ⟨x, _, hx⟩ := List.mem_flatMap.1 hu; exact elCh.one x u hx)
    have HZ0 := Lib.hid hz0
    clear hc
    go_enter Tryz.func8, Tryz.ntmps8
    go_wp2_with (first | (at_builtin; refine wpList_append_own _ rfl _ _ 23 rfl w.heap.size 44 i0 (chV chZ) 20 160 Tryz.underlying23 hi hz0 hz1 hz2 rfl (by decide) _ _ _ rfl (World.ownsRow_nil w w.heap.size 44 20) ⟨b, off, none⟩ zs.length cap (zs.flatMap elCh.enc) rfl (length_enc elCh zs) HC.out HO.out ?c3 ?c4 (Nat.le_refl _) ?_))
    case c3 => omega
    case c4 => omega
    intro v' w2 hown hgr _
    have HB2 : Hid (Below w.heap.size w w2) := Lib.hid ((Below.refl _ _).grown hgr (Nat.le_refl _) (fun j hj => by cases hj))
    have HO2 := Lib.hid hown
    clear hown hgr
    go_wp2
    go_ret
    refine ⟨_, rfl, ?_, HB2.out⟩
    exact HO2.out
theorem ow_setCells (b : Nat) : ∀ (vs : List Value) (o : Nat) (w : World), Kept (fun q => q = b) w (w.setCells b o vs)
  | [], _, w => Kept.refl _ w
  | v :: vs, o, w => (Kept.setCell (F := fun q => q = b) w (p := ⟨b, o, none⟩) rfl v).trans (ow_setCells b vs (o + 1) _) (fun _ h => .inl h)
/-- a slice in a block from B on, below Q: its cells may be written -/
def Wr (w : World) (B Q sz : Nat) (v : Value) (n : Nat) : Prop := ∃ a c, v = .slice a n c ∧ n ≤ c ∧ c ≤ maxLen ∧ ∀ k, k < n → ∃ g, a = some ⟨g, 0, none⟩ ∧ B ≤ g ∧ g < Q ∧ w.there g (k * sz) sz
theorem Wr.of {α : Type} {E : El α} {w : World} {B Q : Nat} {T : TypeId} {v : Value} {xs : List α} (h : OwnsF E w B T v xs) (hQ : w.heap.size ≤ Q) : Wr w B Q E.size v xs.length := by
  have hB := fun k e => h.ge (k := k) e
  rcases h.owns.form with ⟨rfl, rfl⟩ | ⟨g, cap, cur, rfl, hh, hg, hn, hcap, hsz⟩
  · exact ⟨none, 0, rfl, Nat.le_refl _, by unfold maxLen; decide, fun k hk => by simp at hk⟩
  · refine ⟨_, cap, rfl, hn, hcap, fun k hk => ⟨g, rfl, hB g rfl, Nat.lt_of_lt_of_le hg hQ, fun j hj => ⟨?_, frozen_of_row _ _ _ _ _ hh⟩⟩⟩
    have h1 : (k + 1) * E.size ≤ cap * E.size := Nat.mul_le_mul_right _ (by omega)
    rw [Nat.add_mul] at h1
    rw [cell_of_row _ _ _ _ _ _ hh, Array.getElem?_eq_getElem (by omega)]
    rfl
theorem Wr.setCells {w : World} {B Q sz : Nat} {v : Value} {n : Nat} (h : Wr w B Q sz v n) (b o : Nat) (vs : List Value) : Wr (w.setCells b o vs) B Q sz v n := by
  obtain ⟨a, c, e, h1, h2, h3⟩ := h
  refine ⟨a, c, e, h1, h2, fun k hk => ?_⟩
  obtain ⟨g, g1, g2, g3, g4⟩ := h3 k hk
  exact ⟨g, g1, g2, g3, World.there_setCells g4 b o vs⟩
theorem Wr.later {w w' : World} {B Q sz : Nat} {v : Value} {n : Nat} (h : Wr w B Q sz v n) (hQ : Q ≤ w.heap.size) (hb : Below w.heap.size w w') : Wr w' B Q sz v n := by
  obtain ⟨a, c, e, h1, h2, h3⟩ := h
  refine ⟨a, c, e, h1, h2, fun k hk => ?_⟩
  obtain ⟨g, g1, g2, g3, g4⟩ := h3 k hk
  refine ⟨g, g1, g2, g3, fun j hj => ?_⟩
  have hg := hb.block g (by omega)
  rw [World.cell?_of_block (a := ⟨g, _, none⟩) hg, World.frozen?_of_block (a := ⟨g, _, none⟩) hg]
  exact g4 j hj
/-- the three slices of a state may be written, and nothing else has been -/
structure Ow (W0 : World) (B Q : Nat) (vg vr vb : Value) (ng nr nb : Nat) (w : World) : Prop where
  k : Kept (fun b => B ≤ b ∧ b < Q) W0 w
  g : Wr w B Q 1 vg ng
  r : Wr w B Q 11 vr nr
  b : Wr w B Q 4 vb nb
theorem Ow.put {W0 : World} {B Q : Nat} {vg vr vb : Value} {ng nr nb : Nat} {w : World} (h : Ow W0 B Q vg vr vb ng nr nb w) {g : Nat} (hg : B ≤ g) (hq : g < Q) (o : Nat) (vs : List Value) : Ow W0 B Q vg vr vb ng nr nb (w.setCells g o vs) :=
  ⟨h.k.trans (ow_setCells g vs o w) (fun b e => .inl (by subst e; exact ⟨hg, hq⟩)), h.g.setCells _ _ _, h.r.setCells _ _ _, h.b.setCells _ _ _⟩
end Go.Proofs.YtcmpaohefihijabGreatDoor

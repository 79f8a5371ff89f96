/- The contract of Adopt of package family. -/
import Derived.Test.YtlclceiebnnpgaaFamAnc
namespace Go.Proofs.Ytlclceiebnnpgaa
set_option maxRecDepth 100000
open Go.RowKit Go.Shelf
attribute [local go_sem] Oper.semAt_some

set_option maxHeartbeats 1000000 in
/-- f.ancestors(h): both are boxed; the function value captures the boxes. -/
theorem anc_in (n p : Nat) (a b : Int) (w : World) :
    CallsIn Fence.wide n Try.prog 31 #[.pointer (some ⟨p, 0, none⟩), .agg #[.int .i64 a, .int .i64 b]] w fun e w' =>
      e = .returned (.func (.func 45) #[] #[.pointer (some ⟨w.heap.size, 0, none⟩), .pointer (some ⟨w.heap.size + 1, 0, none⟩)]) ∧ w' = (w.alloc (.cells #[.pointer (some ⟨p, 0, none⟩)] 23)).alloc (.cells #[.int .i64 a, .int .i64 b] 38) := by
  refine callsIn_of_wp Try.func31 rfl trivial ?_ rfl
  simp only [Try.ntmps31, List.size_toArray, List.length_cons, List.length_nil, Nat.reduceAdd, Nat.reduceSub, Array.replicate_succ, Array.replicate_zero, List.push_toArray, List.append_toArray, List.nil_append, List.cons_append]
  gi_wp2
  go_ret
  exact ⟨rfl, rfl⟩
theorem anc_stops (n : Nat) (hn : 1 ≤ n) (Bf Bh p n0 : Nat) (F : Nat → Prop) (bs : List Bd) (A : List Hd) (a b : Int) (w : World) (hBf : w.heap[Bf]? = some (.cells #[.pointer (some ⟨p, 0, none⟩)] 23)) (hBh : w.heap[Bh]? = some (.cells #[.int .i64 a, .int .i64 b] 38))
    (hf0 : Bf < n0) (hn0 : n0 ≤ w.heap.size) (hfam : FamAt w p F bs) (hF : ∀ i, F i → i < n0) (hs : SortedB bs) (hok : ∀ b ∈ bs, okH b.1 ∧ okH b.2) (hab : okH (a, b)) (hA : IsAnc bs (a, b) A) :
    SeqStopsK Fence.wide n Try.prog 45 #[.pointer (some ⟨Bf, 0, none⟩), .pointer (some ⟨Bh, 0, none⟩)] (fun x : Hd => #[Value.agg #[.int .i64 x.1, .int .i64 x.2]]) (KpC n0) (fun ys => ys = A) (fun pre => pre <+: A) A.length w := fun l J Jx W hW hJ _ hY h0 =>
  anc1_in n hn l Bf Bh p n0 _ F bs A a b J Jx hY hJ W (by rw [hW.block _ (Array.getElem?_eq_some_iff.1 hBf).1]; exact hBf) (by rw [hW.block _ (Array.getElem?_eq_some_iff.1 hBh).1]; exact hBh) hf0 (Nat.le_trans hn0 hW.size) (hfam.later hW) hF hs hok hab hA h0

/-- 'm[x] = u', as a run -/
theorem MapIs.putRun {α : Type} [DecidableEq α] {k t e : TypeId} {K : KeyEnc α k} {w : World} {b n : Nat} {ks : List α} {f : α → Value} (h : MapIs K w b n ks f) (ht : Try.prog.underlying t = some (.map k e)) (hn : ks.length < maxLen) (x0 : α) (hx0 : K.ok x0) (u : Value) :
    ∃ w' ks' f', (Instr.mapUpdate t (.map (some b)) (K.val x0) u).run Try.prog w = .ok () w' ∧ MapIs K w' b ks'.length ks' f' ∧ (∀ x, x ∈ ks' ↔ x = x0 ∨ x ∈ ks) ∧ f' x0 = u ∧ (∀ x, x ≠ x0 → f' x = f x) ∧ Kept (fun q => q = b) w w' := by
  obtain ⟨D, ho, h1, h2, h3, h4, h5⟩ := h.tight
  obtain ⟨w', hrun, ho', hgr⟩ := ho.update K.law ht hn (K.key x0 hx0) (val := u) (d := .held u) (ps := []) rfl
  refine ⟨w', _, _, hrun, (MapIs.put ho h1 h2 h3 h4 h5 x0 hx0 u ho').tight, fun x => ?_, by simp, fun x hx => by simp [hx], Kept.grown hgr (fun q e => by cases e; rfl)⟩
  split
  · rename_i hc
    exact ⟨.inr, fun e => e.elim (fun e => e ▸ hc) id⟩
  · simp only [List.mem_append, List.mem_singleton]
    exact Or.comm
theorem MapB.adopt {ks ks' : List Hd} {f f' : Hd → Value} {bs : List Bd} (h : MapB ks f bs) (c d : Hd) (hl : ¬ Loops bs c d) (hm : ∀ x, x ∈ ks' ↔ x = c ∨ x ∈ ks) (h1 : f' c = .agg #[.int .i64 d.1, .int .i64 d.2]) (h2 : ∀ x, x ≠ c → f' x = f x) : MapB ks' f' (adoptB bs c d) := by
  refine ⟨fun x hx => ?_, fun x y hxy => ?_⟩
  · by_cases e : x = c
    · exact ⟨d, (mem_adoptB hl).2 (.inl (by rw [e]))⟩
    · obtain ⟨y, hy⟩ := h.some_ x (((hm x).1 hx).resolve_left e)
      exact ⟨y, (mem_adoptB hl).2 (.inr ⟨hy, e⟩)⟩
  · rcases (mem_adoptB hl).1 hxy with e | ⟨hb, hne⟩
    · simp only [Prod.mk.injEq] at e
      obtain ⟨rfl, rfl⟩ := e
      exact ⟨(hm _).2 (.inl rfl), h1⟩
    · obtain ⟨e1, e2⟩ := h.val x y hb
      exact ⟨(hm x).2 (.inr e1), by rw [h2 x hne]; exact e2⟩

theorem own_block {W W' : World} {row : Option Nat} {B k : Nat} {o : Obj} (h : W.heap[k]? = some o) (hg : W.grownBy W' row) (hr : ∀ r, row = some r → B ≤ r ∧ ∃ o : Obj, W.heap[r]? = some o ∧ o.isCells = false) (hk : k < B) : W'.heap[k]? = some o := by
  rw [hg.block k (Array.getElem?_eq_some_iff.1 h).1 (fun e => by have := (hr k e.symm).1; omega)]; exact h

def AdoptPost (w : World) (p : Nat) (F : Nat → Prop) (bs : List Bd) (c d : Hd) (e : Ending) (w' : World) : Prop :=
  e = .returned (.int .i64 (adoptE bs c d)) ∧ ∃ F', FamAt w' p F' (adoptB bs c d) ∧ Kept F w w' ∧ Moves w F F'

set_option maxHeartbeats 4000000 in
theorem famAdopt_any (p : Nat) (F : Nat → Prop) (bs : List Bd) (a b c d : Int) (w : World) (h : FamAt w p F bs) (ok : FOk bs) (hab : okH (a, b)) (hcd : okH (c, d)) (hlen : bs.length < maxLen) :
    Calls Try.prog 14 #[.pointer (some ⟨p, 0, none⟩), .agg #[.int .i64 a, .int .i64 b], .agg #[.int .i64 c, .int .i64 d]] w (AdoptPost w p F bs (a, b) (c, d)) := by
  refine (callsIn_wide (n := 3)).1 ?_
  obtain ⟨X, hXe⟩ : ∃ X, ((w.alloc (.cells #[.int .i64 a, .int .i64 b] 38)).alloc (.cells #[.int .i64 c, .int .i64 d] 38)).alloc (.cells #[.int .i64 0] 48) = X := ⟨_, rfl⟩
  have hX : Below w.heap.size w X := by rw [← hXe]; exact nb_alloc (nb_alloc (nb_alloc (Below.refl _ _) _) _) _
  have hsz : X.heap.size = w.heap.size + 3 := by rw [← hXe]; simp
  have hxa : X.heap[w.heap.size]? = some (.cells #[.int .i64 a, .int .i64 b] 38) := by rw [← hXe]; exact (Below.heap_alloc _ _ _ (by simp; omega)).trans (heap_alloc2_old _ _ _)
  have hxb : X.heap[w.heap.size + 1]? = some (.cells #[.int .i64 c, .int .i64 d] 38) := by rw [← hXe]; exact (Below.heap_alloc _ _ _ (by simp)).trans (heap_alloc2_new _ _ _)
  have hxc : X.heap[w.heap.size + 1 + 1]? = some (.cells #[.int .i64 0] 48) := by
    have := heap_alloc_new ((w.alloc (.cells #[.int .i64 a, .int .i64 b] 38)).alloc (.cells #[.int .i64 c, .int .i64 d] 38)) (.cells #[.int .i64 0] 48)
    rw [hXe, show ((w.alloc (.cells #[.int .i64 a, .int .i64 b] 38)).alloc (.cells #[.int .i64 c, .int .i64 d] 38)).heap.size = w.heap.size + 1 + 1 by simp] at this
    exact this
  have HX := Lib.hid hX
  have HXC := Lib.hid hxc
  have HW0 := Lib.hid h
  have HOK := Lib.hid ok
  have ka0 : X.cell? ⟨w.heap.size, 0, none⟩ = some (.int .i64 a) := by rw [cell_of_row _ _ _ _ _ _ hxa]; rfl
  have ka1 : X.cell? ⟨w.heap.size, 1, none⟩ = some (.int .i64 b) := by rw [cell_of_row _ _ _ _ _ _ hxa]; rfl
  have kb0 : X.cell? ⟨w.heap.size + 1, 0, none⟩ = some (.int .i64 c) := by rw [cell_of_row _ _ _ _ _ _ hxb]; rfl
  have kb1 : X.cell? ⟨w.heap.size + 1, 1, none⟩ = some (.int .i64 d) := by rw [cell_of_row _ _ _ _ _ _ hxb]; rfl
  have kc : X.cell? ⟨w.heap.size + 1 + 1, 0, none⟩ = some (.int .i64 0) := by rw [cell_of_row _ _ _ _ _ _ hxc]; rfl
  have fz : X.frozen? ⟨w.heap.size + 1 + 1, 0, none⟩ = false := frozen_of_row _ _ _ _ _ hxc
  have hxal := (Array.getElem?_eq_some_iff.1 hxa).1
  have hxbl := (Array.getElem?_eq_some_iff.1 hxb).1
  have hxcl := (Array.getElem?_eq_some_iff.1 hxc).1
  have hro : Fence.wide.round = none := rfl
  have h13 : 1 ≤ 3 := by omega
  clear h ok hX
  refine callsIn_of_wp_marks Try.func14 rfl trivial ?_ hro
  simp only [Try.ntmps14, List.size_toArray, List.length_cons, List.length_nil, Nat.reduceAdd, Nat.reduceSub, Array.replicate_succ, Array.replicate_zero, List.push_toArray, List.append_toArray, List.nil_append, List.cons_append]
  by_cases heq : (a, b) = (c, d)
  · simp only [Prod.mk.injEq] at heq
    obtain ⟨rfl, rfl⟩ := heq
    have HP := Lib.hid (adoptB_yes (bs := bs) (c := (a, b)) (p := (a, b)) (.inl rfl))
    have e1 : (a == a) = true := by simp
    have e2 : (b == b) = true := by simp
    gi_wp2
    have hc8 : (X.setCell ⟨w.heap.size + 1 + 1, 0, none⟩ (.int .i64 8)).cell? ⟨w.heap.size + 1 + 1, 0, none⟩ = some (.int .i64 8) := World.cell?_setCell_same' _ _ _ (by rw [kc]; rfl)
    have HB8 : Hid (Below w.heap.size w (X.setCell ⟨w.heap.size + 1 + 1, 0, none⟩ (.int .i64 8))) := Lib.hid (nbf_set HX.out _ 0 _ (by omega))
    refine ⟨.int .i64 8, by simp [results, Try.results14, go_sem, hc8], by rw [HP.out.2], F, ?_, Kept.ofBelow HB8.out, Moves.refl _ _⟩
    rw [HP.out.1]
    exact HW0.out.later HB8.out
  · have HNE := Lib.hid heq
    cases h1 : (a == c) <;> cases h2 : (b == d)
    case true.true => exact absurd (Prod.ext (eq_of_beq h1) (eq_of_beq h2)) heq
    all_goals
      clear heq
      gi_wp2_with (refine ⟨trivial, ?_⟩; gi_at_call 31; refine (anc_in _ p c d _).mono ?_; rintro e w' ⟨rfl, rfl⟩)
      have hsz0 : ((X.alloc (.cells #[.pointer (some ⟨p, 0, none⟩)] 23)).alloc (.cells #[.int .i64 c, .int .i64 d] 38)).heap.size = w.heap.size + 5 := by simp; omega
      have hb0 : Below X.heap.size X ((X.alloc (.cells #[.pointer (some ⟨p, 0, none⟩)] 23)).alloc (.cells #[.int .i64 c, .int .i64 d] 38)) := nb_alloc (nb_alloc (Below.refl _ _) _) _
      have hbf : ((X.alloc (.cells #[.pointer (some ⟨p, 0, none⟩)] 23)).alloc (.cells #[.int .i64 c, .int .i64 d] 38)).heap[w.heap.size + 3]? = some (.cells #[.pointer (some ⟨p, 0, none⟩)] 23) := by rw [← hsz]; exact heap_alloc2_old _ _ _
      have hbh : ((X.alloc (.cells #[.pointer (some ⟨p, 0, none⟩)] 23)).alloc (.cells #[.int .i64 c, .int .i64 d] 38)).heap[w.heap.size + 3 + 1]? = some (.cells #[.int .i64 c, .int .i64 d] 38) := by rw [← hsz]; exact heap_alloc2_new _ _ _
      generalize (X.alloc (.cells #[.pointer (some ⟨p, 0, none⟩)] 23)).alloc (.cells #[.int .i64 c, .int .i64 d] 38) = W0 at *
      have hw0 : Below w.heap.size w W0 := nb_trans HX.out hb0
      have hxa0 : W0.heap[w.heap.size]? = some (.cells #[.int .i64 a, .int .i64 b] 38) := by rw [hb0.block _ hxal]; exact hxa
      have hxb0 : W0.heap[w.heap.size + 1]? = some (.cells #[.int .i64 c, .int .i64 d] 38) := by rw [hb0.block _ hxbl]; exact hxb
      have hxc0 : W0.heap[w.heap.size + 1 + 1]? = some (.cells #[.int .i64 0] 48) := by rw [hb0.block _ hxcl]; exact hxc
      obtain ⟨A, hA, -, hAm⟩ := HOK.out.anc (c, d)
      have HAM := Lib.hid hAm
      have HW := Lib.hid hw0
      clear hAm ka0 ka1 kb0 kb1 kc fz hXe
      refine wpIn_rangeFunc_ownH hro h13 (gf := 45) (lb := #[.pointer (some ⟨w.heap.size + 3, 0, none⟩), .pointer (some ⟨w.heap.size + 3 + 1, 0, none⟩)]) rfl trivial (enters_of Try.func45 (by kernel_rfl) rfl)
        (anc_stops (3 - 1) (by omega) (w.heap.size + 3) (w.heap.size + 3 + 1) p W0.heap.size F bs A c d W0 hbf hbh (by omega) (Nat.le_refl _) (HW0.out.later hw0) (fun i hi => Nat.lt_of_lt_of_le (HW0.out.lt i hi) hw0.size) HOK.out.sorted HOK.out.ok hcd hA) KpC.trans (KpC.put (Nat.le_refl _)) (Below.refl _ _) (fun _ => rfl)
        (fun pre W => (∀ y ∈ pre, y ≠ (a, b)) ∧ Below W0.heap.size W0 W)
        (fun k pre W => (k = .ret ∧ (a, b) ∈ pre ∧ W.heap[w.heap.size + 1 + 1]? = some (.cells #[.int .i64 8] 48)) ∧ Below w.heap.size w W)
        (OwnFrom.and (ownFrom_pure _ _) (ownFrom_below (Nat.le_refl _) (Nat.le_refl _)))
        (fun k => OwnFrom.and (fun s A B row hs hg hr => ⟨hs.1, hs.2.1, own_block hs.2.2 hg hr (by omega)⟩) (ownFrom_below (Nat.le_refl _) (by omega)))
        ⟨by simp, Below.refl _ _⟩
        (fun x a' W => ∃ Bx, W0.heap.size ≤ Bx ∧ W.heap[Bx]? = some (.cells #[.int .i64 x.1, .int .i64 x.2] 38) ∧ a' = { tmps := #[.pointer (some ⟨p, 0, none⟩), .agg #[.int .i64 a, .int .i64 b], .agg #[.int .i64 c, .int .i64 d], undef, .pointer (some ⟨w.heap.size, 0, none⟩), .pointer (some ⟨w.heap.size + 1, 0, none⟩), .pointer (some ⟨w.heap.size + 1 + 1, 0, none⟩), .pointer (some ⟨Bx, 0, none⟩), .agg #[.int .i64 a, .int .i64 b], .agg #[.int .i64 c, .int .i64 d], .bool false, .pointer (some ⟨p, 0, none⟩), .agg #[.int .i64 c, .int .i64 d], .func (.func 45) #[] #[.pointer (some ⟨w.heap.size + 3, 0, none⟩), .pointer (some ⟨w.heap.size + 3 + 1, 0, none⟩)], .agg #[.int .i64 x.1, .int .i64 x.2], undef, undef, undef, undef, undef, undef, undef, undef, undef, undef, undef, undef, undef, undef, undef, undef, undef, undef], defers := [] })
        (fun x a' s A B row hs hg hr => by
          obtain ⟨Bx, h1, h2, h3⟩ := hs
          refine ⟨Bx, h1, ?_, h3⟩
          rw [hg.block Bx (Array.getElem?_eq_some_iff.1 h2).1 (fun e => ?_)]
          · exact h2
          · obtain ⟨_, o, ho, hc⟩ := hr Bx e.symm
            rw [h2] at ho; cases ho; cases hc) ?assign ?body ?done ?stop
      case assign =>
        rintro l pre x W K ⟨hi1, hi2⟩ hK
        have hs2 := hi2.size
        gi_wp2
        exact hK _ _ ((KeepsOthers.alloc _ _).from _) (KpC.later hs2 (nb_alloc (Below.refl _ _) _)) ⟨hi1, nb_alloc hi2 _⟩ ⟨W.heap.size, hs2, heap_alloc_new _ _, rfl⟩
      case body =>
        rintro l pre ⟨x1, x2⟩ a' W hl ⟨r, hr⟩ ⟨hi1, hi2⟩ ⟨Bx, hBx, hx, rfl⟩ hlt
        have hs2 := hi2.size
        have hxl := (Array.getElem?_eq_some_iff.1 hx).1
        have hxa2 : W.heap[w.heap.size]? = some (.cells #[.int .i64 a, .int .i64 b] 38) := by rw [hi2.block _ (by omega)]; exact hxa0
        have hxc2 : W.heap[w.heap.size + 1 + 1]? = some (.cells #[.int .i64 0] 48) := by rw [hi2.block _ (by omega)]; exact hxc0
        have ha2l := (Array.getElem?_eq_some_iff.1 hxa2).1
        have hc2l := (Array.getElem?_eq_some_iff.1 hxc2).1
        have ka0 : W.cell? ⟨w.heap.size, 0, none⟩ = some (.int .i64 a) := by rw [cell_of_row _ _ _ _ _ _ hxa2]; rfl
        have ka1 : W.cell? ⟨w.heap.size, 1, none⟩ = some (.int .i64 b) := by rw [cell_of_row _ _ _ _ _ _ hxa2]; rfl
        have kx0 : W.cell? ⟨Bx, 0, none⟩ = some (.int .i64 x1) := by rw [cell_of_row _ _ _ _ _ _ hx]; rfl
        have kx1 : W.cell? ⟨Bx, 1, none⟩ = some (.int .i64 x2) := by rw [cell_of_row _ _ _ _ _ _ hx]; rfl
        have kc : W.cell? ⟨w.heap.size + 1 + 1, 0, none⟩ = some (.int .i64 0) := by rw [cell_of_row _ _ _ _ _ _ hxc2]; rfl
        have fz : W.frozen? ⟨w.heap.size + 1 + 1, 0, none⟩ = false := frozen_of_row _ _ _ _ _ hxc2
        have HI1 := Lib.hid hi1
        have HI2 := Lib.hid hi2
        have HC2 := Lib.hid hxc2
        clear hi1 hi2 hxa2 hxc2 hx hr
        cases g1 : (x1 == a) <;> cases g2 : (x2 == b)
        case true.true =>
          obtain rfl := eq_of_beq g1
          obtain rfl := eq_of_beq g2
          gi_wp2
          exact ⟨(KeepsOthers.setCell _ _ _).from _, ⟨rfl, by simp, heap_setCell_same _ _ 0 _ _ _ HC2.out⟩, nbf_set (hw0.trans (HI2.out.mono hw0.size)) _ 0 _ (by omega)⟩
        all_goals
          have HNX : Hid ((x1, x2) ≠ (a, b)) := Lib.hid (fun e => by
            simp only [Prod.mk.injEq] at e
            obtain ⟨rfl, rfl⟩ := e
            first | (simp at g1; done) | (simp at g2; done))
          gi_wp2
          exact ⟨KeepsFrom.refl _ _, ⟨Below.refl _ _, fun _ _ _ _ h => h⟩, fun y hy => (List.mem_append.1 hy).elim (HI1.out y) (fun e => by simp at e; rw [e]; exact HNX.out), HI2.out⟩
      case done =>
        rintro D ys W hD rfl ⟨hi1, hi2⟩ hK
        have HNL : Hid (¬ Loops bs (a, b) (c, d)) := Lib.hid (fun hl => hl.elim HNE.out (fun u => hi1 _ ((HAM.out (a, b)).2 u) rfl))
        have HP := Lib.hid (adoptB_no HNL.out)
        have hs2 := hi2.size
        have hKl := (Array.getElem?_eq_some_iff.1 hK).1
        have hwW : Below w.heap.size w W := hw0.trans (hi2.mono hw0.size)
        have HWW := Lib.hid hwW
        have HK := Lib.hid hK
        have HBX : Hid (∀ Y : World, (∀ k, w.heap.size ≤ k → k < w.heap.size + 5 → Y.heap[k]? = W.heap[k]?) → Y.heap[w.heap.size]? = some (.cells #[.int .i64 a, .int .i64 b] 38) ∧ Y.heap[w.heap.size + 1]? = some (.cells #[.int .i64 c, .int .i64 d] 38) ∧ Y.heap[w.heap.size + 1 + 1]? = some (.cells #[.int .i64 0] 48)) := Lib.hid (fun Y hY => ⟨by rw [hY _ (by omega) (by omega), hi2.block _ (by omega)]; exact hxa0, by rw [hY _ (by omega) (by omega), hi2.block _ (by omega)]; exact hxb0, by rw [hY _ (by omega) (by omega), hi2.block _ (by omega)]; exact hxc0⟩)
        obtain ⟨vm, hfam⟩ := HW0.out
        have hfw := hfam.later hwW
        have cm := hfw.cell
        have hpl := hfw.plt
        have hpw := hfam.plt
        have heqN : ∀ x : World, (binOp .eql 61 (.map none) (.map none)).run Try.prog x = .ok (.bool true) x := fun x => by kernel_rfl
        have hmk : ∀ x : World, (Instr.makeMap 61 none).run Try.prog x = .ok (.map (some x.heap.size)) (x.alloc (.map #[] 0)) := run_makeMap 61
        have fzp := hfw.frozen
        clear hi1 hi2 hwW hK hxa0 hxb0 hxc0 hxa hxb hxc hbf hbh hb0 hA
        rcases hfw.map with ⟨rfl, hbs⟩ | ⟨mb, ks, f, rfl, hm, hB, hF, hne⟩
        · have hB0 : MapB [] (fun _ => .map none) bs := by rw [hbs]; exact ⟨by simp, by simp⟩
          clear hbs
          have hs3 : (W.setCell ⟨p, 0, none⟩ (.map (some W.heap.size))).heap.size = W.heap.size := by simp [World.setCell]
          have hkV : Kept (fun i => i = p) W ((W.setCell ⟨p, 0, none⟩ (.map (some W.heap.size))).alloc (.map #[] 0)) := (Kept.setCell (F := fun i => i = p) W (p := ⟨p, 0, none⟩) rfl _).trans (Kept.alloc (fun i => i = p) _ _) (fun _ h => .inl h)
          have HVB : Hid (∀ k, w.heap.size ≤ k → k < w.heap.size + 5 → ((W.setCell ⟨p, 0, none⟩ (.map (some W.heap.size))).alloc (.map #[] 0)).heap[k]? = W.heap[k]?) := Lib.hid (fun k h1 h2 => hkV.block k (by omega) (by omega))
          have HVP : Hid (((W.setCell ⟨p, 0, none⟩ (.map (some W.heap.size))).alloc (.map #[] 0)).heap[p]? = some (.cells #[.map (some W.heap.size)] 63 (0, 0))) := Lib.hid (by rw [Below.heap_alloc _ _ _ (by rw [hs3]; omega)]; exact heap_setCell_same _ _ 0 _ _ _ hfw.block)
          have HMP : Hid (MapIs kHand ((W.setCell ⟨p, 0, none⟩ (.map (some W.heap.size))).alloc (.map #[] 0)) W.heap.size ([] : List Hd).length [] (fun _ => .map none)) := Lib.hid (by
            have := MapIs.new kHand (W.setCell ⟨p, 0, none⟩ (.map (some W.heap.size))) (fun _ => .map none)
            rw [hs3] at this
            exact this)
          have HKL : Hid (([] : List Hd).length < maxLen) := Lib.hid (by simp [maxLen])
          have HMB := Lib.hid hB0
          have HKD : Hid (((W.setCell ⟨p, 0, none⟩ (.map (some W.heap.size))).alloc (.map #[] 0)).heap[D]? = some (.deferred (some []))) := Lib.hid (by rw [hkV.block D hKl (by omega)]; exact HK.out)
          have HMN : Hid (W.heap.size ≠ p ∧ W.heap.size ≠ w.heap.size ∧ W.heap.size ≠ w.heap.size + 1 + 1 ∧ W.heap.size ≠ D) := Lib.hid ⟨by omega, by omega, by omega, by omega⟩
          have HKV : Hid (Kept F w ((W.setCell ⟨p, 0, none⟩ (.map (some W.heap.size))).alloc (.map #[] 0))) := Lib.hid ((Kept.ofBelow HWW.out).trans (hkV.mono (G := F) (fun i e => .inl (by rw [e]; exact hfw.at_))) (fun _ h => .inl h))
          have HMV : Hid (Moves w F (fun i => F i ∨ i = W.heap.size)) := Lib.hid (fun i e => e.elim .inl (fun e => .inr (by omega)))
          have HF1 : Hid ((F p ∨ p = W.heap.size) ∧ (F W.heap.size ∨ W.heap.size = W.heap.size) ∧ ∀ i, (F i ∨ i = W.heap.size) → i < ((W.setCell ⟨p, 0, none⟩ (.map (some W.heap.size))).alloc (.map #[] 0)).heap.size) := Lib.hid ⟨.inl hfw.at_, .inr rfl, fun i e => by
            rw [World.size_alloc, hs3]
            exact e.elim (fun h => Nat.lt_succ_of_lt (hfw.lt i h)) (fun e => by omega)⟩
          gi_wp2_with fail
          clear cm fzp hmk heqN hfw hB0 hkV
          generalize (W.setCell ⟨p, 0, none⟩ (.map (some W.heap.size))).alloc (.map #[] 0) = V at *
          obtain ⟨F1, hF1⟩ : ∃ F1 : Nat → Prop, (fun i => F i ∨ i = W.heap.size) = F1 := ⟨_, rfl⟩
          replace HF1 : Hid (F1 p ∧ F1 W.heap.size ∧ ∀ i, F1 i → i < V.heap.size) := Lib.hid (by rw [← hF1]; exact ⟨HF1.out.1, .inr rfl, HF1.out.2.2⟩)
          rw [hF1] at HMV
          clear hF1
          clear hs3
          obtain ⟨mb, hmb⟩ : ∃ mb, W.heap.size = mb := ⟨_, rfl⟩
          rw [hmb] at HVP HMP HMN HF1 ⊢
          obtain ⟨hva, hvb, hvc⟩ := HBX.out V HVB.out
          have hval := (Array.getElem?_eq_some_iff.1 hva).1
          have hvbl := (Array.getElem?_eq_some_iff.1 hvb).1
          have hvcl := (Array.getElem?_eq_some_iff.1 hvc).1
          have hvpl := (Array.getElem?_eq_some_iff.1 HVP.out).1
          have cv : V.cell? ⟨p, 0, none⟩ = some (.map (some mb)) := by rw [cell_of_row _ _ _ _ _ _ HVP.out]; rfl
          have ka0 : V.cell? ⟨w.heap.size, 0, none⟩ = some (.int .i64 a) := by rw [cell_of_row _ _ _ _ _ _ hva]; rfl
          have ka1 : V.cell? ⟨w.heap.size, 1, none⟩ = some (.int .i64 b) := by rw [cell_of_row _ _ _ _ _ _ hva]; rfl
          have kb0 : V.cell? ⟨w.heap.size + 1, 0, none⟩ = some (.int .i64 c) := by rw [cell_of_row _ _ _ _ _ _ hvb]; rfl
          have kb1 : V.cell? ⟨w.heap.size + 1, 1, none⟩ = some (.int .i64 d) := by rw [cell_of_row _ _ _ _ _ _ hvb]; rfl
          obtain ⟨V5, ks5, f5', hmu, hmap5, hks5, hfa5, hfb5, hk5⟩ := (HMP.out.kept (Kept.drew (fun _ => False) V) id).putRun Try.underlying61 HKL.out (a, b) hab (.agg #[.int .i64 c, .int .i64 d])
          replace hmu : (Instr.mapUpdate 61 (.map (some mb)) (.agg #[.int .i64 a, .int .i64 b]) (.agg #[.int .i64 c, .int .i64 d])).run Try.prog V.drew = .ok () V5 := hmu
          have hk5' : Kept (fun q => q = mb) V V5 := (Kept.drew (fun q => q = mb) V).trans hk5 (fun _ h => .inl h)
          have hc5 : V5.heap[w.heap.size + 1 + 1]? = some (.cells #[.int .i64 0] 48) := by rw [hk5'.block _ hvcl (fun e => HMN.out.2.2.1 e.symm)]; exact hvc
          have hp5 : V5.heap[p]? = some (.cells #[.map (some mb)] 63 (0, 0)) := by rw [hk5'.block _ hvpl (fun e => HMN.out.1 e.symm)]; exact HVP.out
          have hD5 : V5.heap[D]? = some (.deferred (some [])) := by rw [hk5'.block _ (Array.getElem?_eq_some_iff.1 HKD.out).1 (fun e => HMN.out.2.2.2 e.symm)]; exact HKD.out
          have hc5l := (Array.getElem?_eq_some_iff.1 hc5).1
          have k5 : V5.cell? ⟨w.heap.size + 1 + 1, 0, none⟩ = some (.int .i64 0) := by rw [cell_of_row _ _ _ _ _ _ hc5]; rfl
          have f5 : V5.frozen? ⟨w.heap.size + 1 + 1, 0, none⟩ = false := frozen_of_row _ _ _ _ _ hc5
          have hD6 : (V5.setCell ⟨w.heap.size + 1 + 1, 0, none⟩ (.int .i64 0)).heap[D]? = some (.deferred (some [])) := by rw [heap_setCell_other _ _ _ _ (show D ≠ w.heap.size + 1 + 1 by omega)]; exact hD5
          have hk6 : Kept (fun i => i = w.heap.size + 1 + 1) V5 (V5.setCell ⟨w.heap.size + 1 + 1, 0, none⟩ (.int .i64 0)) := Kept.setCell (F := fun i => i = w.heap.size + 1 + 1) V5 (p := ⟨w.heap.size + 1 + 1, 0, none⟩) rfl _
          have hk7 : Kept (fun i => i = D) (V5.setCell ⟨w.heap.size + 1 + 1, 0, none⟩ (.int .i64 0)) ((V5.setCell ⟨w.heap.size + 1 + 1, 0, none⟩ (.int .i64 0)).putObj D (.deferred none)) := Kept.grown (grownBy_putObj' _ D _) (fun i e => by cases e; rfl)
          have hk57 : Kept (fun i => i = w.heap.size + 1 + 1 ∨ i = D) V5 ((V5.setCell ⟨w.heap.size + 1 + 1, 0, none⟩ (.int .i64 0)).putObj D (.deferred none)) := (hk6.mono (fun i e => .inl (.inl e))).trans (hk7.mono (fun i e => .inl (.inr e))) (fun _ h => .inl h)
          have hkV7 : Kept (fun i => i = mb ∨ i = w.heap.size + 1 + 1 ∨ i = D) V ((V5.setCell ⟨w.heap.size + 1 + 1, 0, none⟩ (.int .i64 0)).putObj D (.deferred none)) := (hk5'.mono (fun i e => .inl (.inl e))).trans (hk57.mono (fun i e => .inl (.inr e))) (fun _ h => .inl h)
          have hkw : Kept F w ((V5.setCell ⟨w.heap.size + 1 + 1, 0, none⟩ (.int .i64 0)).putObj D (.deferred none)) := (HKV.out.mono (G := fun i => F i ∨ w.heap.size ≤ i) (fun i h => .inl (.inl h))).trans hkV7 (fun i e => by
            rcases e with e | e | e
            · rcases HMV.out mb HF1.out.2.1 with h | h
              · exact .inl (.inl (by rw [e]; exact h))
              · exact .inl (.inr (by omega))
            · exact .inl (.inr (by omega))
            · exact .inl (.inr (by omega))) |>.mono (fun i h => h)
          have hpp : ((V5.setCell ⟨w.heap.size + 1 + 1, 0, none⟩ (.int .i64 0)).putObj D (.deferred none)).heap[p]? = some (.cells #[.map (some mb)] 63 (0, 0)) := by rw [hk57.block p (Array.getElem?_eq_some_iff.1 hp5).1 (fun e => by omega)]; exact hp5
          have hc7 : ((V5.setCell ⟨w.heap.size + 1 + 1, 0, none⟩ (.int .i64 0)).putObj D (.deferred none)).heap[w.heap.size + 1 + 1]? = some (.cells #[.int .i64 0] 48) := by rw [hk7.block _ (by simp [World.setCell]; exact hc5l) (show ¬ w.heap.size + 1 + 1 = D by omega)]; exact heap_setCell_same _ _ 0 _ _ _ hc5
          have HEND : Hid (FamAt ((V5.setCell ⟨w.heap.size + 1 + 1, 0, none⟩ (.int .i64 0)).putObj D (.deferred none)) p F1 (adoptB bs (a, b) (c, d)) ∧ Kept F w ((V5.setCell ⟨w.heap.size + 1 + 1, 0, none⟩ (.int .i64 0)).putObj D (.deferred none))) := Lib.hid ⟨⟨_, hpp, .inr ⟨mb, _, _, rfl, hmap5.kept hk57 (fun e => e.elim HMN.out.2.2.1 HMN.out.2.2.2), HMB.out.adopt (a, b) (c, d) HNL.out hks5 hfa5 hfb5, HF1.out.2.1, HMN.out.1⟩, HF1.out.1, fun i hi => Nat.lt_of_lt_of_le (HF1.out.2.2 i hi) hkV7.size⟩, hkw⟩
          have hc8 : ((V5.setCell ⟨w.heap.size + 1 + 1, 0, none⟩ (.int .i64 0)).putObj D (.deferred none)).cell? ⟨w.heap.size + 1 + 1, 0, none⟩ = some (.int .i64 0) := by rw [cell_of_row _ _ _ _ _ _ hc7]; rfl
          clear hks5 hfa5 hfb5 hmap5 hk5 hk5' hc5 hp5 hD5 hk6 hk7 hk57 hkV7 hkw hpp hc7 hva hvb hvc
          gi_region
          all_goals
            clear hmu ka0 ka1 kb0 kb1 cv
            gi_wp2
            refine ⟨by simp, .inl ⟨_, _, rfl, run_takeDeferred hD6, ?_⟩⟩
            exact ⟨.int .i64 0, by simp [results, Try.results14, go_sem, hc8], by rw [HP.out.2], F1, HEND.out.1, HEND.out.2, HMV.out⟩
        · have heqS : ∀ x : World, (binOp .eql 61 (.map (some mb)) (.map none)).run Try.prog x = .ok (.bool false) x := fun x => by kernel_rfl
          have HVP := Lib.hid hfw.block
          have HMP := Lib.hid hm
          have HKL : Hid (ks.length < maxLen) := Lib.hid (by
            have := nodup_sub_len (ys := bs.map (·.1)) hm.nodup (fun x hx => by
              obtain ⟨y, hy⟩ := hB.some_ x hx
              exact List.mem_map.2 ⟨_, hy, rfl⟩)
            simp at this
            omega)
          have HMB := Lib.hid hB
          have HKD := HK
          have hmbw := hfam.lt mb hF
          have HMN : Hid (mb ≠ p ∧ mb ≠ w.heap.size ∧ mb ≠ w.heap.size + 1 + 1 ∧ mb ≠ D) := Lib.hid ⟨hne, by omega, by omega, by omega⟩
          have HKV : Hid (Kept F w W) := Lib.hid (Kept.ofBelow HWW.out)
          have HMV : Hid (Moves w F F) := Lib.hid (Moves.refl _ _)
          have HF1 : Hid (F p ∧ F mb ∧ ∀ i, F i → i < W.heap.size) := Lib.hid ⟨hfw.at_, hF, hfw.lt⟩
          gi_wp2_with fail
          clear cm fzp hmk heqN heqS hfw hm hB hF hne
          obtain ⟨V, hV⟩ : ∃ V, W = V := ⟨_, rfl⟩
          obtain ⟨F1, hF1⟩ : ∃ F1, F = F1 := ⟨_, rfl⟩
          replace HMV : Hid (Moves w F F1) := by rw [← hF1]; exact HMV
          replace HF1 : Hid (F1 p ∧ F1 mb ∧ ∀ i, F1 i → i < V.heap.size) := by rw [← hF1, ← hV]; exact HF1
          rw [hV] at HVP HMP HKD HKV ⊢
          have HVB : Hid (∀ k, w.heap.size ≤ k → k < w.heap.size + 5 → V.heap[k]? = W.heap[k]?) := Lib.hid (by rw [hV]; exact fun _ _ _ => rfl)
          clear hF1
          obtain ⟨hva, hvb, hvc⟩ := HBX.out V HVB.out
          have hval := (Array.getElem?_eq_some_iff.1 hva).1
          have hvbl := (Array.getElem?_eq_some_iff.1 hvb).1
          have hvcl := (Array.getElem?_eq_some_iff.1 hvc).1
          have hvpl := (Array.getElem?_eq_some_iff.1 HVP.out).1
          have cv : V.cell? ⟨p, 0, none⟩ = some (.map (some mb)) := by rw [cell_of_row _ _ _ _ _ _ HVP.out]; rfl
          have ka0 : V.cell? ⟨w.heap.size, 0, none⟩ = some (.int .i64 a) := by rw [cell_of_row _ _ _ _ _ _ hva]; rfl
          have ka1 : V.cell? ⟨w.heap.size, 1, none⟩ = some (.int .i64 b) := by rw [cell_of_row _ _ _ _ _ _ hva]; rfl
          have kb0 : V.cell? ⟨w.heap.size + 1, 0, none⟩ = some (.int .i64 c) := by rw [cell_of_row _ _ _ _ _ _ hvb]; rfl
          have kb1 : V.cell? ⟨w.heap.size + 1, 1, none⟩ = some (.int .i64 d) := by rw [cell_of_row _ _ _ _ _ _ hvb]; rfl
          obtain ⟨V5, ks5, f5', hmu, hmap5, hks5, hfa5, hfb5, hk5⟩ := (HMP.out.kept (Kept.drew (fun _ => False) V) id).putRun Try.underlying61 HKL.out (a, b) hab (.agg #[.int .i64 c, .int .i64 d])
          replace hmu : (Instr.mapUpdate 61 (.map (some mb)) (.agg #[.int .i64 a, .int .i64 b]) (.agg #[.int .i64 c, .int .i64 d])).run Try.prog V.drew = .ok () V5 := hmu
          have hk5' : Kept (fun q => q = mb) V V5 := (Kept.drew (fun q => q = mb) V).trans hk5 (fun _ h => .inl h)
          have hc5 : V5.heap[w.heap.size + 1 + 1]? = some (.cells #[.int .i64 0] 48) := by rw [hk5'.block _ hvcl (fun e => HMN.out.2.2.1 e.symm)]; exact hvc
          have hp5 : V5.heap[p]? = some (.cells #[.map (some mb)] 63 (0, 0)) := by rw [hk5'.block _ hvpl (fun e => HMN.out.1 e.symm)]; exact HVP.out
          have hD5 : V5.heap[D]? = some (.deferred (some [])) := by rw [hk5'.block _ (Array.getElem?_eq_some_iff.1 HKD.out).1 (fun e => HMN.out.2.2.2 e.symm)]; exact HKD.out
          have hc5l := (Array.getElem?_eq_some_iff.1 hc5).1
          have k5 : V5.cell? ⟨w.heap.size + 1 + 1, 0, none⟩ = some (.int .i64 0) := by rw [cell_of_row _ _ _ _ _ _ hc5]; rfl
          have f5 : V5.frozen? ⟨w.heap.size + 1 + 1, 0, none⟩ = false := frozen_of_row _ _ _ _ _ hc5
          have hD6 : (V5.setCell ⟨w.heap.size + 1 + 1, 0, none⟩ (.int .i64 0)).heap[D]? = some (.deferred (some [])) := by rw [heap_setCell_other _ _ _ _ (show D ≠ w.heap.size + 1 + 1 by omega)]; exact hD5
          have hk6 : Kept (fun i => i = w.heap.size + 1 + 1) V5 (V5.setCell ⟨w.heap.size + 1 + 1, 0, none⟩ (.int .i64 0)) := Kept.setCell (F := fun i => i = w.heap.size + 1 + 1) V5 (p := ⟨w.heap.size + 1 + 1, 0, none⟩) rfl _
          have hk7 : Kept (fun i => i = D) (V5.setCell ⟨w.heap.size + 1 + 1, 0, none⟩ (.int .i64 0)) ((V5.setCell ⟨w.heap.size + 1 + 1, 0, none⟩ (.int .i64 0)).putObj D (.deferred none)) := Kept.grown (grownBy_putObj' _ D _) (fun i e => by cases e; rfl)
          have hk57 : Kept (fun i => i = w.heap.size + 1 + 1 ∨ i = D) V5 ((V5.setCell ⟨w.heap.size + 1 + 1, 0, none⟩ (.int .i64 0)).putObj D (.deferred none)) := (hk6.mono (fun i e => .inl (.inl e))).trans (hk7.mono (fun i e => .inl (.inr e))) (fun _ h => .inl h)
          have hkV7 : Kept (fun i => i = mb ∨ i = w.heap.size + 1 + 1 ∨ i = D) V ((V5.setCell ⟨w.heap.size + 1 + 1, 0, none⟩ (.int .i64 0)).putObj D (.deferred none)) := (hk5'.mono (fun i e => .inl (.inl e))).trans (hk57.mono (fun i e => .inl (.inr e))) (fun _ h => .inl h)
          have hkw : Kept F w ((V5.setCell ⟨w.heap.size + 1 + 1, 0, none⟩ (.int .i64 0)).putObj D (.deferred none)) := (HKV.out.mono (G := fun i => F i ∨ w.heap.size ≤ i) (fun i h => .inl (.inl h))).trans hkV7 (fun i e => by
            rcases e with e | e | e
            · rcases HMV.out mb HF1.out.2.1 with h | h
              · exact .inl (.inl (by rw [e]; exact h))
              · exact .inl (.inr (by omega))
            · exact .inl (.inr (by omega))
            · exact .inl (.inr (by omega))) |>.mono (fun i h => h)
          have hpp : ((V5.setCell ⟨w.heap.size + 1 + 1, 0, none⟩ (.int .i64 0)).putObj D (.deferred none)).heap[p]? = some (.cells #[.map (some mb)] 63 (0, 0)) := by rw [hk57.block p (Array.getElem?_eq_some_iff.1 hp5).1 (fun e => by omega)]; exact hp5
          have hc7 : ((V5.setCell ⟨w.heap.size + 1 + 1, 0, none⟩ (.int .i64 0)).putObj D (.deferred none)).heap[w.heap.size + 1 + 1]? = some (.cells #[.int .i64 0] 48) := by rw [hk7.block _ (by simp [World.setCell]; exact hc5l) (show ¬ w.heap.size + 1 + 1 = D by omega)]; exact heap_setCell_same _ _ 0 _ _ _ hc5
          have HEND : Hid (FamAt ((V5.setCell ⟨w.heap.size + 1 + 1, 0, none⟩ (.int .i64 0)).putObj D (.deferred none)) p F1 (adoptB bs (a, b) (c, d)) ∧ Kept F w ((V5.setCell ⟨w.heap.size + 1 + 1, 0, none⟩ (.int .i64 0)).putObj D (.deferred none))) := Lib.hid ⟨⟨_, hpp, .inr ⟨mb, _, _, rfl, hmap5.kept hk57 (fun e => e.elim HMN.out.2.2.1 HMN.out.2.2.2), HMB.out.adopt (a, b) (c, d) HNL.out hks5 hfa5 hfb5, HF1.out.2.1, HMN.out.1⟩, HF1.out.1, fun i hi => Nat.lt_of_lt_of_le (HF1.out.2.2 i hi) hkV7.size⟩, hkw⟩
          have hc8 : ((V5.setCell ⟨w.heap.size + 1 + 1, 0, none⟩ (.int .i64 0)).putObj D (.deferred none)).cell? ⟨w.heap.size + 1 + 1, 0, none⟩ = some (.int .i64 0) := by rw [cell_of_row _ _ _ _ _ _ hc7]; rfl
          clear hks5 hfa5 hfb5 hmap5 hk5 hk5' hc5 hp5 hD5 hk6 hk7 hk57 hkV7 hkw hpp hc7 hva hvb hvc
          gi_region
          all_goals
            clear hmu ka0 ka1 kb0 kb1 cv
            gi_wp2
            refine ⟨by simp, .inl ⟨_, _, rfl, run_takeDeferred hD6, ?_⟩⟩
            exact ⟨.int .i64 0, by simp [results, Try.results14, go_sem, hc8], by rw [HP.out.2], F1, HEND.out.1, HEND.out.2, HMV.out⟩
      case stop =>
        rintro D k pre W hD hpre ⟨⟨rfl, hin, hcr⟩, hB⟩ hK
        have HP := Lib.hid (adoptB_yes (bs := bs) (c := (a, b)) (p := (c, d)) (.inr ((HAM.out (a, b)).1 (hpre.subset hin))))
        have hcl := (Array.getElem?_eq_some_iff.1 hcr).1
        have hk9 : Kept (fun i => w.heap.size ≤ i) W (W.putObj D (.deferred none)) := Kept.grown (grownBy_putObj' _ D _) (fun i e => by cases e; omega)
        have hB9 : Below w.heap.size w (W.putObj D (.deferred none)) := hB.trans (hk9.below hB.size (fun _ e => e))
        have hc9 : (W.putObj D (.deferred none)).cell? ⟨w.heap.size + 1 + 1, 0, none⟩ = some (.int .i64 8) := by
          rw [cell_of_row _ _ _ _ _ _ (by rw [(grownBy_putObj' W D (.deferred none)).block _ hcl (fun e => by simp only [Option.some.injEq] at e; omega)]; exact hcr)]; rfl
        have HB9 := Lib.hid hB9
        gi_wp2
        refine ⟨by simp, .inl ⟨_, _, rfl, run_takeDeferred hK, ?_⟩⟩
        refine ⟨.int .i64 8, by simp [results, Try.results14, go_sem, hc9], by rw [HP.out.2], F, ?_, Kept.ofBelow HB9.out, Moves.refl _ _⟩
        rw [HP.out.1]
        exact HW0.out.later HB9.out
end Go.Proofs.Ytlclceiebnnpgaa

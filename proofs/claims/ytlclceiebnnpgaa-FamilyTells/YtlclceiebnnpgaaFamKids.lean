/- The contract of children of package family: a map of the children of each parent, the last one first. -/
import Derived.Test.YtlclceiebnnpgaaFamBack
namespace Go.Proofs.Ytlclceiebnnpgaa
set_option maxRecDepth 100000
open Go.RowKit Go.Shelf
attribute [local go_sem] Oper.semAt_some

theorem hand_klaw : Go.WideMaps.KeyLaw Try.prog 38 := Go.deep_law_laid (by kernel_rfl) (m := 3) (by omega) (of_decide_eq_true (by kernel_rfl)) (by kernel_rfl) (by rw [Try.underlying38])
theorem zeroHands (w : World) : (zeroValue 51).run Try.prog w = .ok (.slice none 0 0) w := by kernel_rfl
theorem pw_key : ∀ {l : List MapEntry}, l.Pairwise (fun x y => x.key ≠ y.key) → ∀ {a b : MapEntry}, a ∈ l → b ∈ l → a ≠ b → a.key ≠ b.key
  | [], _, a, _, ha, _, _ => by simp at ha
  | x :: l, h, a, b, ha, hb, hne => by
    obtain ⟨h1, h2⟩ := List.pairwise_cons.1 h
    rcases List.mem_cons.1 ha with ea | ma <;> rcases List.mem_cons.1 hb with eb | mb
    · exact absurd (ea.trans eb.symm) hne
    · rw [ea]; exact h1 b mb
    · rw [eb]; exact (h1 a ma).symm
    · exact pw_key h2 ma mb hne
/-- 'm[x] = .. m[x] ..': the entry is laid, or found; then it is set. -/
theorem MapIs.entry {t e : TypeId} {w : World} {b n : Nat} {ks : List Hd} {f : Hd → Value} {z : Value} (h : MapIs kHand w b n ks f) (ht : Try.prog.underlying t = some (.map 38 e)) (hz : ∀ u : World, (zeroValue e).run Try.prog u = .ok z u) (hn : ks.length < maxLen) (x0 : Hd) (hx0 : okH x0) :
    ∃ v0 st w1, (Instr.mapEntry t (.map (some b)) (.agg #[.int .i64 x0.1, .int .i64 x0.2])).run Try.prog w = .ok (.tuple #[v0, .int .i64 st]) w1 ∧ Kept (fun q => q = b) w w1 ∧ w1.heap.size = w.heap.size ∧ ((x0 ∈ ks ∧ v0 = f x0) ∨ (x0 ∉ ks ∧ v0 = z)) ∧
      ∀ (w2 : World) (u : Value), w2.heap[b]? = w1.heap[b]? → ∃ w3 ks' f', (Instr.entryStore t (.map (some b)) (.int .i64 st) u).run Try.prog w2 = .ok () w3 ∧ Kept (fun q => q = b) w2 w3 ∧ MapIs kHand w3 b ks'.length ks' f' ∧ (∀ x, x ∈ ks' ↔ x = x0 ∨ x ∈ ks) ∧ f' x0 = u ∧ ∀ x, x ≠ x0 → f' x = f x := by
  have hlook := h.look ht (hz w) x0 hx0
  obtain ⟨D, ho, h1, h2, h3, h4, h5⟩ := h.tight
  obtain ⟨es, clock, hb, F, hs, hD⟩ := ho
  have ho' : w.ownsMap Try.prog 38 heldR b ks.length D := ⟨es, clock, hb, F, hs, hD⟩
  have hkey : keyOf Try.prog 38 (.agg #[.int .i64 x0.1, .int .i64 x0.2]) = some (kHand.lit x0) := kHand.key x0 hx0
  obtain ⟨v0, st, es1, clock1, hrun, hv, hst⟩ := Go.WideElems.entry_then_store hand_klaw ht hz hb F hkey
  have hb1 := ChangeMaps.heap_setBlock_same hb (.map es1 clock1)
  have hkb : ∀ (W : World) (es0 : Array MapEntry) (c0 : Nat) (o' : Obj), W.heap[b]? = some (.map es0 c0) → Kept (fun q => q = b) W (ChangeMaps.setBlock W b o') := fun W es0 c0 o' hW => ⟨rfl, rfl, rfl, by simp [ChangeMaps.setBlock], fun i _ hi => ChangeMaps.heap_setBlock_other hW _ hi⟩
  refine ⟨v0, st, _, hrun, hkb w _ _ _ hb, by simp [ChangeMaps.setBlock], ?_, fun w2 u hw2 => ?_⟩
  · have hv0 : (Instr.lookup t (.map (some b)) (.agg #[.int .i64 x0.1, .int .i64 x0.2]) false).run Try.prog w = .ok v0 w := by
      rcases Maps.fit_look false kHand.law ht (hz w) hb F hkey with ⟨hr2, hno, _⟩ | ⟨e0, y, hm0, hk0, hr2, _⟩
      · rcases hv with ⟨e9, hm9, hk9, _⟩ | ⟨_, rfl⟩
        · exact absurd hk9 (hno e9 hm9)
        · exact hr2
      · rcases hv with ⟨e9, hm9, hk9, rfl⟩ | ⟨hno, _⟩
        · have hpw := List.pairwise_map.1 F.stamped.2.2
          rcases Classical.em (e9 = e0) with e | e
          · rw [e]; exact hr2
          · exact absurd (hk9.trans hk0.symm) (pw_key hpw hm9 hm0 e)
        · exact absurd hk0 (hno e0 hm0)
    by_cases hc : x0 ∈ ks
    · rw [if_pos hc] at hlook
      have := hv0.symm.trans hlook
      exact .inl ⟨hc, by simpa using this⟩
    · rw [if_neg hc] at hlook
      have := hv0.symm.trans hlook
      exact .inr ⟨hc, by simpa using this⟩
  · obtain ⟨es', clock', hr3, hr4⟩ := hst w2 u (hw2.trans hb1)
    obtain ⟨w9, hrun9, ho9, _⟩ := ho'.update kHand.law ht hn hkey (val := u) (d := .held u) (ps := []) rfl
    have e9 : w9 = ChangeMaps.setBlock w b (.map es' clock') := by
      have := hrun9.symm.trans hr4
      simpa using this
    rw [e9] at ho9
    have hM := (MapIs.put ho' h1 h2 h3 h4 h5 x0 hx0 u ho9).tight
    obtain ⟨D', ⟨es2, cl2, hb2, rest⟩, r2⟩ := hM
    rw [ChangeMaps.heap_setBlock_same hb] at hb2
    refine ⟨_, _, _, hr3, hkb w2 _ _ _ (hw2.trans hb1), ⟨D', ⟨es2, cl2, by rw [ChangeMaps.heap_setBlock_same (hw2.trans hb1)]; exact hb2, rest⟩, r2⟩, fun x => ?_, by simp, fun x hx => by simp [hx]⟩
    split
    · rename_i hc
      exact ⟨.inr, fun e => e.elim (fun e => e ▸ hc) id⟩
    · simp only [List.mem_append, List.mem_singleton]
      exact Or.comm

/-- the children of h among these bonds, as they came -/
def lstB (done : List Bd) (h : Hd) : List Hd := (done.filter (fun b => decide (b.2 = h))).map (·.1)
theorem lstB_snoc_same (done : List Bd) (c h : Hd) : lstB (done ++ [(c, h)]) h = lstB done h ++ [c] := by simp [lstB, List.filter_append]
theorem lstB_snoc_other (done : List Bd) (c h x : Hd) (hne : h ≠ x) : lstB (done ++ [(c, h)]) x = lstB done x := by simp [lstB, List.filter_append, hne]
theorem lstB_rev (bs : List Bd) (h : Hd) : lstB bs.reverse h = (kids bs h).reverse := by unfold lstB kids; rw [List.filter_reverse, List.map_reverse]
theorem lstB_len (done : List Bd) (h : Hd) : (lstB done h).length ≤ done.length := by unfold lstB; rw [List.length_map]; exact List.length_filter_le _ _
/-- The map in block mb holds, for each parent, an own slice of its children. -/
structure ChMap (W : World) (mb B : Nat) (ks : List Hd) (f : Hd → Value) (done : List Bd) : Prop where
  map : MapIs kHand W mb ks.length ks f
  own : ∀ h ∈ ks, OwnsF elHand W B 38 (f h) (lstB done h)
  none_ : ∀ h, h ∉ ks → lstB done h = []
  ap : ∀ h ∈ ks, ∀ h' ∈ ks, h ≠ h' → ∀ k, (f h).ownBlock = some k → (f h').ownBlock ≠ some k
  len : ks.length ≤ done.length
  ne : ∀ h ∈ ks, lstB done h ≠ []
def ChAt (W : World) (mb B : Nat) (done : List Bd) : Prop := ∃ ks f, ChMap W mb B ks f done
theorem ChMap.kept {W W' : World} {mb B : Nat} {ks : List Hd} {f : Hd → Value} {done : List Bd} {G : Nat → Prop} (h : ChMap W mb B ks f done) (hk : Kept G W W') (hmb : ¬ G mb) (hB : ∀ k, B ≤ k → k < W.heap.size → ¬ G k) : ChMap W' mb B ks f done :=
  ⟨h.map.kept hk hmb, fun x hx => (h.own x hx).kept hk (fun k e => hB k ((h.own x hx).ge e) ((h.own x hx).lt e)), h.none_, h.ap, h.len, h.ne⟩
theorem Owns.isC {α : Type} {E : El α} {w : World} {T : TypeId} {v : Value} {xs : List α} (h : Owns E w T v xs) {k : Nat} (hk : v.ownBlock = some k) : ∃ c, w.heap[k]? = some (.cells c T (0, 0)) := by
  rcases h.form with ⟨rfl, _⟩ | ⟨g, cap, cur, rfl, hh, _⟩
  · simp [Value.ownBlock] at hk
  · simp [Value.ownBlock] at hk
    exact ⟨cur, hk ▸ hh⟩
theorem ChMap.turned {W W' : World} {mb B : Nat} {ks : List Hd} {f : Hd → Value} {done : List Bd} {row : Option Nat} (h : ChMap W mb B ks f done) (hg : W.grownBy W' row) (hr : ∀ r, row = some r → B ≤ r ∧ ∃ o : Obj, W.heap[r]? = some o ∧ o.isCells = false) (hmb : mb < B) : ChMap W' mb B ks f done := by
  have hk : Kept (fun k => row = some k) W W' := Kept.grown hg (fun k e => e)
  refine ⟨h.map.kept hk (fun e => by have := (hr mb e).1; omega), fun x hx => (h.own x hx).kept hk (fun k e e2 => ?_), h.none_, h.ap, h.len, h.ne⟩
  obtain ⟨c, hc⟩ := (h.own x hx).owns.isC e
  obtain ⟨_, o, ho, hoc⟩ := hr k e2
  rw [hc] at ho; cases ho; cases hoc
theorem keepsFrom_of {B : Nat} {G : Nat → Prop} {W W' : World} (hk : Kept G W W') (h : ∀ k o, B ≤ k → W.heap[k]? = some o → o.isCells = false → ¬ G k) : KeepsFrom B W W' :=
  ⟨hk.size, fun k o hB ho hc => by rw [hk.block k (Array.getElem?_eq_some_iff.1 ho).1 (h k o hB ho hc)]; exact ho⟩
theorem ChMap.later {W W' : World} {mb B : Nat} {ks : List Hd} {f : Hd → Value} {done : List Bd} (h : ChMap W mb B ks f done) (hb : Below W.heap.size W W') : ChMap W' mb B ks f done := h.kept (G := fun _ => False) (Kept.ofBelow hb) id (fun _ _ _ => id)
theorem ChMap.lookR {W : World} {mb B : Nat} {ks : List Hd} {f : Hd → Value} {done : List Bd} (h : ChMap W mb B ks f done) (x : Hd) (hx : okH x) :
    ∃ v, (∀ Y, Y.heap[mb]? = W.heap[mb]? → (Instr.lookup 70 (.map (some mb)) (.agg #[.int .i64 x.1, .int .i64 x.2]) false).run Try.prog Y = .ok v Y) ∧ OwnsF elHand W B 38 v (lstB done x) ∧ ((v = .slice none 0 0 ∧ lstB done x = []) ∨ lstB done x ≠ []) := by
  have hl0 : ∀ Y : World, Y.heap[mb]? = W.heap[mb]? → MapIs kHand Y mb ks.length ks f := fun Y hY => by
    obtain ⟨D, ⟨es, cl, hb, r⟩, rest⟩ := h.map
    exact ⟨D, ⟨es, cl, hY.trans hb, r⟩, rest⟩
  have hl := fun (Y : World) (hY : Y.heap[mb]? = W.heap[mb]?) => (hl0 Y hY).look Try.underlying70 (zeroHands Y) x hx
  by_cases hc : x ∈ ks
  · exact ⟨f x, fun Y hY => by have := hl Y hY; rw [if_pos hc] at this; exact this, h.own x hc, .inr (h.ne x hc)⟩
  · exact ⟨.slice none 0 0, fun Y hY => by have := hl Y hY; rw [if_neg hc] at this; exact this, by rw [h.none_ x hc]; exact OwnsF.nil _ _ _ _, .inl ⟨rfl, h.none_ x hc⟩⟩
theorem ChMap.lookO {W : World} {mb B : Nat} {ks : List Hd} {f : Hd → Value} {done : List Bd} (h : ChMap W mb B ks f done) {x : Hd} {v0 : Value} (hv : (x ∈ ks ∧ v0 = f x) ∨ (x ∉ ks ∧ v0 = .slice none 0 0)) : OwnsF elHand W B 38 v0 (lstB done x) := by
  rcases hv with ⟨hc, rfl⟩ | ⟨hc, rfl⟩
  · exact h.own x hc
  · rw [h.none_ x hc]; exact OwnsF.nil _ _ _ _
/-- One bond more. -/
theorem ChMap.step {W w1 w2 w3 : World} {mb B : Nat} {ks ks' : List Hd} {f f' : Hd → Value} {done : List Bd} {c x : Hd} {v0 u : Value} (h : ChMap W mb B ks f done) (hBm : mb < B) (hk1 : Kept (fun q => q = mb) W w1) (hs1 : w1.heap.size = W.heap.size) (hv : (x ∈ ks ∧ v0 = f x) ∨ (x ∉ ks ∧ v0 = .slice none 0 0))
    (ho : OwnsF elHand w2 B 38 u (lstB done x ++ [c])) (hg : w1.grownBy w2 v0.ownBlock) (hat : u.ownBlock = v0.ownBlock ∨ u.ownBlock = some w1.heap.size)
    (hk3 : Kept (fun q => q = mb) w2 w3) (hm3 : MapIs kHand w3 mb ks'.length ks' f') (hks : ∀ y, y ∈ ks' ↔ y = x ∨ y ∈ ks) (hf1 : f' x = u) (hf2 : ∀ y, y ≠ x → f' y = f y) : ChMap w3 mb B ks' f' (done ++ [(c, x)]) := by
  have hne : ∀ y ∈ ks, y ≠ x → ∀ k, (f y).ownBlock = some k → v0.ownBlock ≠ some k ∧ u.ownBlock ≠ some k := fun y hy hyx k hk => by
    have h0 : v0.ownBlock ≠ some k := by
      rcases hv with ⟨hc, rfl⟩ | ⟨hc, rfl⟩
      · exact h.ap y hy x hc hyx k hk
      · simp [Value.ownBlock]
    refine ⟨h0, fun e => ?_⟩
    rcases hat with e2 | e2
    · exact h0 (e2 ▸ e)
    · rw [e2] at e
      have := (h.own y hy).lt hk
      simp only [Option.some.injEq] at e
      omega
  refine ⟨hm3, fun y hy => ?_, fun y hy => ?_, fun y hy y' hy' hyy k hk => ?_, ?_, fun y hy => ?_⟩
  · by_cases e : y = x
    · rw [e, hf1, lstB_snoc_same]
      exact ho.kept hk3 (fun k hk => by have := ho.ge hk; omega)
    · have hyk := ((hks y).1 hy).resolve_left e
      rw [hf2 y e, lstB_snoc_other _ _ _ _ (fun q => e q.symm)]
      have o1 := (h.own y hyk).kept hk1 (fun k hk => by have := (h.own y hyk).ge hk; omega)
      have o2 : OwnsF elHand w2 B 38 (f y) (lstB done y) := ownsRow_block o1 (fun g hg' => hg.block g (by have := (h.own y hyk).lt hg'; omega) (fun q => (hne y hyk e g hg').1 q.symm))
      exact o2.kept hk3 (fun k hk => by have := (h.own y hyk).ge hk; omega)
  · have e : y ≠ x := fun e => hy ((hks y).2 (.inl e))
    rw [lstB_snoc_other _ _ _ _ (fun q => e q.symm)]
    exact h.none_ y (fun q => hy ((hks y).2 (.inr q)))
  · by_cases e : y = x
    · have e' : y' ≠ x := fun q => hyy (e.trans q.symm)
      have hyk' := ((hks y').1 hy').resolve_left e'
      rw [e, hf1] at hk
      rw [hf2 y' e']
      exact fun q => (hne y' hyk' e' k q).2 hk
    · have hyk := ((hks y).1 hy).resolve_left e
      rw [hf2 y e] at hk
      by_cases e' : y' = x
      · rw [e', hf1]; exact (hne y hyk e k hk).2
      · rw [hf2 y' e']
        exact h.ap y hyk y' (((hks y').1 hy').resolve_left e') hyy k hk
  · have := nodup_sub_len (ys := x :: ks) hm3.nodup (fun y hy => List.mem_cons.2 ((hks y).1 hy))
    simp only [List.length_cons] at this
    have := h.len
    simp
    omega
  · by_cases e : y = x
    · rw [e, lstB_snoc_same]; simp
    · rw [lstB_snoc_other _ _ _ _ (fun q => e q.symm)]
      exact h.ne y (((hks y).1 hy).resolve_left e)

theorem own_blk {W W' : World} {row : Option Nat} {B k : Nat} {o : Obj} (h : W.heap[k]? = some o) (hg : W.grownBy W' row) (hr : ∀ r, row = some r → B ≤ r ∧ ∃ o : Obj, W.heap[r]? = some o ∧ o.isCells = false) (hk : k < B) : W'.heap[k]? = some o := by
  rw [hg.block k (Array.getElem?_eq_some_iff.1 h).1 (fun e => by have := (hr k e.symm).1; omega)]; exact h

def KidsPost (w : World) (bs : List Bd) (e : Ending) (w' : World) : Prop := ∃ mb B, e = .returned (.map (some mb)) ∧ w.heap.size ≤ mb ∧ mb < B ∧ B ≤ w'.heap.size ∧ ChAt w' mb B bs.reverse ∧ Below w.heap.size w w'

set_option maxHeartbeats 4000000 in
theorem famKids_any (p : Nat) (F : Nat → Prop) (bs : List Bd) (w : World) (h : FamAt w p F bs) (ok : FOk bs) (hn : bs.length * 32 ≤ 140737488355328) :
    Calls Try.prog 33 #[.pointer (some ⟨p, 0, none⟩)] w (KidsPost w bs) := by
  refine (callsIn_wide (n := 3)).1 ?_
  obtain ⟨i0, hi, hz0, hz1, hz2⟩ := info_parts infoHand
  have hro : Fence.wide.round = none := rfl
  have h13 : 1 ≤ 3 := by omega
  have hmk : ∀ x : World, (Instr.makeMap 70 none).run Try.prog x = .ok (.map (some x.heap.size)) (x.alloc (.map #[] 0)) := run_makeMap 70
  obtain ⟨X, hXe⟩ : ∃ X, (w.alloc (.map #[] 0)).alloc (.cells #[.map (some w.heap.size)] 70) = X := ⟨_, rfl⟩
  have hX : Below w.heap.size w X := by rw [← hXe]; exact nb_alloc (nb_alloc (Below.refl _ _) _) _
  have hsz : X.heap.size = w.heap.size + 2 := by rw [← hXe]; simp
  have hxb : X.heap[w.heap.size + 1]? = some (.cells #[.map (some w.heap.size)] 70) := by rw [← hXe]; exact heap_alloc2_new _ _ _
  have hxm : MapIs kHand X w.heap.size 0 [] (fun _ => .slice none 0 0) := by rw [← hXe]; exact (MapIs.new kHand w _).later (nb_alloc (Below.refl _ _) _)
  have HX := Lib.hid hX
  have HW := Lib.hid (h.later hX)
  have HOK := Lib.hid ok
  have HN := Lib.hid hn
  clear h ok hX
  refine callsIn_of_wp_marks Try.func33 rfl trivial ?_ hro
  simp only [Try.ntmps33, List.size_toArray, List.length_cons, List.length_nil, Nat.reduceAdd, Nat.reduceSub, Array.replicate_succ, Array.replicate_zero, List.push_toArray, List.append_toArray, List.nil_append, List.cons_append]
  gi_wp2_with (refine ⟨trivial, ?_⟩; gi_at_call 11; refine (callsIn_wide.2 (famBonds_any p F bs _ HW.out HOK.out.sorted HN.out)).mono ?_; rintro e w2 ⟨v, rfl, ho, hb2⟩)
  obtain ⟨va, vc, hve, -⟩ := ho.reads
  have hvs : ∃ a k c, v = .slice a k c := ⟨_, _, _, hve⟩
  have HO := Lib.hid ho
  have HB2 := Lib.hid hb2
  have hs2 := hb2.size
  clear ho hb2 hve hXe hmk
  gi_wp2_with (refine ⟨trivial, ?_⟩; gi_at_call 46; refine (back_in _ v _ hvs).mono ?_; rintro e w' ⟨rfl, rfl⟩)
  have hb0 : Below w2.heap.size w2 (w2.alloc (.cells #[v] 31)) := nb_alloc (Below.refl _ _) _
  have hsz0 : (w2.alloc (.cells #[v] 31)).heap.size = w2.heap.size + 1 := by simp
  have hbs : (w2.alloc (.cells #[v] 31)).heap[w2.heap.size]? = some (.cells #[v] 31) := heap_alloc_new _ _
  generalize w2.alloc (.cells #[v] 31) = W0 at *
  have hx0 : Below X.heap.size X W0 := nb_trans HB2.out hb0
  have hw0 : Below w.heap.size w W0 := nb_trans HX.out hx0
  have hob : ∀ k, v.ownBlock = some k → X.heap.size ≤ k ∧ k < w2.heap.size := fun k e => ⟨HO.out.ge e, HO.out.lt e⟩
  have HCH0 : Hid (ChMap W0 w.heap.size W0.heap.size [] (fun _ => .slice none 0 0) []) := Lib.hid ⟨hxm.later hx0, by simp, fun _ _ => rfl, by simp, by simp, by simp⟩
  have hxb0 : W0.heap[w.heap.size + 1]? = some (.cells #[.map (some w.heap.size)] 70) := by rw [hx0.block _ (by omega)]; exact hxb
  have hSS : ∀ k, (k = w2.heap.size ∨ v.ownBlock = some k) → k < W0.heap.size := fun k e => e.elim (fun e => by omega) (fun e => by have := hob k e; omega)
  refine wpIn_rangeFunc_ownH hro h13 (gf := 51) (lb := #[.pointer (some ⟨w2.heap.size, 0, none⟩)]) rfl trivial (enters_of Try.func51 (by kernel_rfl) rfl)
    (back_stops (3 - 1) (by omega) w2.heap.size (fun k => k = w2.heap.size ∨ v.ownBlock = some k) v bs W0 hbs (.inl rfl) (fun k e => .inr e) (HO.out.reads.later hb0) HOK.out.ok) KpS.trans (KpS.put hSS) (Below.refl _ _) (fun _ => rfl)
    (fun pre W => (W.heap[w.heap.size + 1]? = some (.cells #[.map (some w.heap.size)] 70) ∧ ChAt W w.heap.size W0.heap.size (bondsOf pre)) ∧ (Below w.heap.size w W ∧ W0.heap.size ≤ W.heap.size))
    (fun _ _ _ => False)
    (OwnFrom.and (fun s A B row hs hg hr => ⟨own_blk hs.1 hg hr (by omega), by obtain ⟨ks, f, hc⟩ := hs.2; exact ⟨ks, f, hc.turned hg hr (by omega)⟩⟩) (OwnFrom.and (ownFrom_below (Nat.le_refl _) (by omega)) (fun s A B row hs hg hr => Nat.le_trans hs hg.size)))
    (fun _ _ _ _ _ hs _ _ => hs)
    ⟨⟨hxb0, ⟨_, _, HCH0.out⟩⟩, hw0, Nat.le_refl _⟩
    (fun x a' W => ∃ Bx, W0.heap.size ≤ Bx ∧ W.heap[Bx]? = some (.cells #[.int .i64 x.1.2.1.1, .int .i64 x.1.2.1.2, .int .i64 x.1.2.2.1, .int .i64 x.1.2.2.2] 44) ∧ a' = { tmps := #[.pointer (some ⟨p, 0, none⟩), undef, .map none, .pointer (some ⟨w.heap.size + 1, 0, none⟩), undef, .pointer (some ⟨Bx, 0, none⟩), .map (some w.heap.size), .pointer (some ⟨p, 0, none⟩), v, .func (.func 51) #[] #[.pointer (some ⟨w2.heap.size, 0, none⟩)], .int .i64 (x.1.1 : Int), .agg #[.int .i64 x.1.2.1.1, .int .i64 x.1.2.1.2, .int .i64 x.1.2.2.1, .int .i64 x.1.2.2.2], undef, undef, undef, undef, undef, undef, undef, undef, undef, undef, undef], defers := [] })
    (fun x a' s A B row hs hg hr => by
      obtain ⟨Bx, h1, h2, h3⟩ := hs
      refine ⟨Bx, h1, ?_, h3⟩
      rw [hg.block Bx (Array.getElem?_eq_some_iff.1 h2).1 (fun e => ?_)]
      · exact h2
      · obtain ⟨_, o, ho, hc⟩ := hr Bx e.symm
        rw [h2] at ho; cases ho; cases hc) ?assign ?body ?done ?stop
  case assign =>
    rintro l pre x W K ⟨⟨hi1, hi2⟩, hi3, hi4⟩ hK
    have hbA : Below W.heap.size W (W.alloc (.cells #[.int .i64 x.1.2.1.1, .int .i64 x.1.2.1.2, .int .i64 x.1.2.2.1, .int .i64 x.1.2.2.2] 44)) := nb_alloc (Below.refl _ _) _
    gi_wp2
    refine hK _ _ ((KeepsOthers.alloc _ _).from _) ⟨hbA.size, fun k e => hbA.block k ?_⟩ ⟨⟨?_, ?_⟩, nb_trans hi3 hbA, Nat.le_trans hi4 hbA.size⟩ ⟨W.heap.size, hi4, heap_alloc_new _ _, rfl⟩
    · rcases e with e | e
      · omega
      · have := hob k e; omega
    · rw [hbA.block _ (Array.getElem?_eq_some_iff.1 hi1).1]; exact hi1
    · obtain ⟨ks, f, hc⟩ := hi2; exact ⟨ks, f, hc.later hbA⟩
  case body =>
    rintro l pre ⟨⟨xi, ⟨c1, c2⟩, q1, q2⟩, hxo⟩ a' W hl ⟨r, hr⟩ ⟨⟨hi1, ks, f, hch⟩, hi3, hi4⟩ ⟨Bx, hBx, hx, rfl⟩ hlt
    dsimp only at hx hxo
    have hxl := (Array.getElem?_eq_some_iff.1 hx).1
    have h1l := (Array.getElem?_eq_some_iff.1 hi1).1
    have cm : W.cell? ⟨w.heap.size + 1, 0, none⟩ = some (.map (some w.heap.size)) := by rw [cell_of_row _ _ _ _ _ _ hi1]; rfl
    have k0 : W.cell? ⟨Bx, 0, none⟩ = some (.int .i64 c1) := by rw [cell_of_row _ _ _ _ _ _ hx]; rfl
    have k1 : W.cell? ⟨Bx, 1, none⟩ = some (.int .i64 c2) := by rw [cell_of_row _ _ _ _ _ _ hx]; rfl
    have k2 : W.cell? ⟨Bx, 2, none⟩ = some (.int .i64 q1) := by rw [cell_of_row _ _ _ _ _ _ hx]; rfl
    have k3 : W.cell? ⟨Bx, 3, none⟩ = some (.int .i64 q2) := by rw [cell_of_row _ _ _ _ _ _ hx]; rfl
    have hdl : (bondsOf pre).length < bs.length := by simp only [bondsOf, List.length_map]; exact hlt
    have hbX : Below W.heap.size W (W.alloc (.cells #[.int .i64 c1, .int .i64 c2] 38)) := nb_alloc (Below.refl _ _) _
    have hcX := hch.later hbX
    have hkl : ks.length < maxLen := by have := hch.len; unfold maxLen; omega
    obtain ⟨v0, st, w1, hme, hk1, hs1', hv, hst⟩ := hcX.map.entry Try.underlying70 zeroHands hkl (q1, q2) hxo.2
    dsimp only at hme
    have hs1 : w1.heap.size = W.heap.size + 1 := by rw [hs1']; simp
    have ho1 : OwnsF elHand w1 W0.heap.size 38 v0 (lstB (bondsOf pre) (q1, q2)) := (hcX.lookO hv).kept hk1 (fun k e => by have := (hcX.lookO hv).ge e; omega)
    have hnb : w1.heap[W.heap.size]? = some (.cells #[.int .i64 c1, .int .i64 c2] 38) := by rw [hk1.block _ (by simp) (by omega)]; exact heap_alloc_new _ _
    have hll := lstB_len (bondsOf pre) (q1, q2)
    have HCX := Lib.hid hcX
    have HHV := Lib.hid hv
    have HK1 := Lib.hid hk1
    have HST := Lib.hid hst
    have HI1 := Lib.hid hi1
    have HO1 := Lib.hid ho1
    have HBX := Lib.hid hbX
    have HI3 := Lib.hid hi3
    clear hcX hv hk1 hst hi1 ho1 hbX hch hx hr
    gi_wp2_with (first
      | (gi_at_builtin; refine wpListIn_append_own_at _ rfl _ _ 51 rfl W0.heap.size 38 i0 _ 2 16 Try.underlying51 hi hz0 hz1 hz2 rfl (by decide) _ (lstB (bondsOf pre) (q1, q2)).length ((lstB (bondsOf pre) (q1, q2)).flatMap elHand.enc) rfl HO1.out ⟨W.heap.size, 0, none⟩ 1 1 [.int .i64 c1, .int .i64 c2] rfl rfl (World.news_of_block hnb) (elHand.one (c1, c2)) (by unfold maxLen; omega) (by omega) (by omega) ?_; intro u w3 hown hgr hnil hat; obtain ⟨w4, ks', f', hes, hk4, hm4, hks', hf1, hf2⟩ := HST.out w3 u (hgr.block _ (by omega) (fun e => by have := HO1.out.ge e.symm; omega))))
    have kA : Kept (fun k => k = w.heap.size ∨ v0.ownBlock = some k) W (W.alloc (.cells #[.int .i64 c1, .int .i64 c2] 38)) := Kept.ofBelow HBX.out
    have kC : Kept (fun k => v0.ownBlock = some k) w1 w3 := Kept.grown hgr (fun k e => e)
    have kD : Kept (fun k => k = w.heap.size ∨ v0.ownBlock = some k) W w4 := ((kA.trans HK1.out (fun i e => .inl (.inl e))).trans kC (fun i e => .inl (.inr e))).trans hk4 (fun i e => .inl (.inl e))
    have hge : ∀ k, v0.ownBlock = some k → W0.heap.size ≤ k := fun k e => HO1.out.ge e
    have hstep := HCX.out.step (by omega) HK1.out hs1' HHV.out (OwnsF.snoc (x := (c1, c2)) hown) hgr hat hk4 hm4 hks' hf1 hf2
    refine ⟨keepsFrom_of kD (fun k o hB ho hc e => ?_), ⟨kD.size, fun k e => kD.block k ?_ (fun e2 => ?_)⟩, ⟨⟨?_, ks', f', ?_⟩, HI3.out.trans (kD.below HI3.out.size (fun k e => ?_)), by have := kD.size; omega⟩⟩
    · rcases e with e | e
      · omega
      · obtain ⟨cc, hcc⟩ := HO1.out.owns.isC e
        have hkW := (Array.getElem?_eq_some_iff.1 ho).1
        rw [HK1.out.block k (by simp; omega) (by omega), HBX.out.block k hkW, ho] at hcc
        cases hcc; cases hc
    · have := hSS k e; omega
    · rcases e2 with e2 | e2
      · rcases e with e | e
        · omega
        · have := hob k e; omega
      · have h1 := hge k e2
        have h2 := hSS k e
        omega
    · rw [kD.block _ h1l (fun e => by
        rcases e with e | e
        · omega
        · have := hge _ e; omega)]
      exact HI1.out
    · rw [show bondsOf (pre ++ [⟨(xi, (c1, c2), q1, q2), hxo⟩]) = bondsOf pre ++ [((c1, c2), (q1, q2))] by simp [bondsOf]]
      rw [← hsz0]; exact hstep
    · rcases e with e | e
      · omega
      · have := hge k e; have := hw0.size; omega
  case done =>
    rintro D ys W hD hS ⟨⟨hi1, ks, f, hch⟩, hi3, hi4⟩ hK
    have h1l := (Array.getElem?_eq_some_iff.1 hi1).1
    have cm : W.cell? ⟨w.heap.size + 1, 0, none⟩ = some (.map (some w.heap.size)) := by rw [cell_of_row _ _ _ _ _ _ hi1]; rfl
    have hgp := grownBy_putObj' W D (.deferred none)
    have hch9 := hch.turned hgp (fun r e => by cases e; exact ⟨hD, _, hK, rfl⟩) (by omega)
    rw [hS] at hch9
    have hB9 : Below w.heap.size w (W.putObj D (.deferred none)) := hi3.trans ((Kept.grown (F := fun i => i = D) hgp (fun i e => by cases e; rfl)).below hi3.size (fun i e => by have := hw0.size; omega))
    have HEND : Hid (KidsPost w bs (.returned (.map (some w.heap.size))) (W.putObj D (.deferred none))) := Lib.hid ⟨w.heap.size, W0.heap.size, rfl, Nat.le_refl _, by omega, Nat.le_trans hi4 hgp.size, ⟨ks, f, hch9⟩, hB9⟩
    gi_wp2
    refine ⟨by simp, .inl ⟨_, _, rfl, run_takeDeferred hK, ?_⟩⟩
    refine ⟨_, results_tmp rfl _ _ _, ?_⟩
    exact HEND.out
  case stop =>
    rintro D c pre W _ _ h _
    exact h.elim
end Go.Proofs.Ytlclceiebnnpgaa

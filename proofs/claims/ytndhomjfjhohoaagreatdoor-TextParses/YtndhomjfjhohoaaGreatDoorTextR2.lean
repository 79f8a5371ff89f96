
/- What the reference takes is the text of the state that it returns; what was written it takes. No Go in sight. -/
import Derived.Test.YtndhomjfjhohoaaGreatDoorTextR
namespace Go.Proofs.YtndhomjfjhohoaaGreatDoor
open Go

theorem kinds_add {m : Int} {k : Nat} (h0 : 0 ≤ m) (hk : k < 8) (h : m < 2 ^ k) : kinds (m + 2 ^ k) = kinds m ++ [(k : Int)] := by
  have H : ∀ k : Fin 8, ∀ n : Fin 256, (n.val : Int) < 2 ^ k.val → kinds ((n.val : Int) + 2 ^ k.val) = kinds (n.val : Int) ++ [(k.val : Int)] := by decide +kernel
  obtain ⟨n, rfl⟩ := Int.eq_ofNat_of_zero_le h0
  have := (pow_le7 k hk).1
  exact H ⟨k, hk⟩ ⟨n, by omega⟩ h
theorem addK_kinds : ∀ {l : List (Int × Int)} {m m' : Int} {f f' : Nat → Int}, addK (prs l) m f = some (m', f') → (∀ p ∈ l, isK p.1 = true) → (0 ≤ m ∧ m ≤ 255) →
    (kinds m').flatMap (kvW f') = (kinds m).flatMap (kvW f) ++ l.flatMap (fun p => 32 :: kvP p)
  | [], m, m', f, f', h, _, _ => by simp only [prs, addK, Option.some.injEq, Prod.mk.injEq] at h; simp [h.1, h.2]
  | (k, v) :: l, m, m', f, f', h, hi, hm => by
    have hk := isK_iff.1 (hi (k, v) (by simp))
    obtain ⟨z, rfl⟩ := Int.eq_ofNat_of_zero_le hk.1
    have hz : z < 8 := by have := hk.2; omega
    rw [prs, addK, Int.toNat_natCast] at h
    cases h1 : hasK m (z : Int) with
    | true => rw [h1] at h; cases h
    | false =>
      by_cases h2 : (2 : Int) ^ z ≤ m
      · rw [h1, decide_eq_true h2] at h; cases h
      · rw [h1, decide_eq_false h2, if_neg (by decide)] at h
        have hp := pow_le7 z hz
        have ih := addK_kinds h (fun p hp => hi p (by simp [hp])) ⟨by omega, by omega⟩
        have hno : (z : Int) ∉ kinds m := fun hmem => by
          obtain ⟨j, hj, e, ht⟩ := mem_kindsTo.1 hmem
          obtain rfl : z = j := by omega
          rw [hasK, Int.toNat_natCast, ht] at h1; cases h1
        have hu : (kinds m).flatMap (kvW (upd f z v)) = (kinds m).flatMap (kvW f) := by
          rw [List.flatMap_def, List.flatMap_def]
          refine congrArg List.flatten (List.map_congr_left fun q hq => ?_)
          have : ¬ q.toNat = z := fun e => hno (by obtain ⟨j, hj, rfl, -⟩ := mem_kindsTo.1 hq; rw [Int.toNat_natCast] at e; subst e; exact hq)
          simp [kvW, upd, this]
        rw [ih, kinds_add hm.1 hz (by omega), List.flatMap_append, hu, List.flatMap_cons, List.append_assoc]
        simp [kvW, numW, kvP, upd]
theorem addK_app : ∀ (a b : List (Int × Int)) (m : Int) (f : Nat → Int), addK (prs (a ++ b)) m f = (addK (prs a) m f).bind fun x => addK (prs b) x.1 x.2
  | [], b, m, f => by simp [prs, addK]
  | (k, v) :: a, b, m, f => by
    rw [List.cons_append, prs, addK, prs, addK]
    split
    · rfl
    · exact addK_app a b _ _
theorem mod_step {m : Int} {k : Nat} (hm : 0 ≤ m ∧ m ≤ 255) (hk : k < 8) : m % 2 ^ (k + 1) = m % 2 ^ k + (if tb m k = true then 2 ^ k else 0) ∧ tb (m % 2 ^ k) k = false ∧ ¬ (2 : Int) ^ k ≤ m % 2 ^ k := by
  have H : ∀ k : Fin 8, ∀ n : Fin 256, ((n.val : Int) % 2 ^ (k.val + 1) = (n.val : Int) % 2 ^ k.val + (if tb (n.val : Int) k.val = true then 2 ^ k.val else 0) ∧ tb ((n.val : Int) % 2 ^ k.val) k.val = false ∧ ¬ (2 : Int) ^ k.val ≤ (n.val : Int) % 2 ^ k.val) := by decide +kernel
  obtain ⟨n, rfl⟩ := Int.eq_ofNat_of_zero_le hm.1
  exact H ⟨k, hk⟩ ⟨n, by omega⟩
def kprs (m : Int) (f : Nat → Int) (k : Nat) : List (Int × Int) := (kindsTo m k).map fun z => (z, f z.toNat)
theorem addK_to {m : Int} {f : Nat → Int} (hm : 0 ≤ m ∧ m ≤ 255) : ∀ k, k ≤ 8 → addK (prs (kprs m f k)) 0 (fun _ => 0) = some (m % 2 ^ k, fun j => if j < k ∧ tb m j = true then f j else 0)
  | 0, _ => by simp [kprs, kindsTo, prs, addK]
  | k + 1, hk => by
    have ih := addK_to (m := m) (f := f) hm k (by omega)
    obtain ⟨s1, s2, s3⟩ := mod_step hm (show k < 8 by omega)
    rw [s1, kprs, kindsTo]
    by_cases hb : tb m k = true
    · rw [if_pos hb, List.map_append, show (kindsTo m k).map (fun z => (z, f z.toNat)) = kprs m f k from rfl, addK_app, ih, if_pos hb, Option.bind_some]
      simp only [List.map_cons, List.map_nil, prs, addK, Int.toNat_natCast]
      simp only [hasK, Int.toNat_natCast, s2, decide_eq_false s3, Bool.or_self, Bool.false_eq_true, if_false]
      congr 2
      funext j
      unfold upd
      by_cases hj : j = k
      · subst hj; simp [hb]
      · rw [if_neg hj]
        simp only [show (j < k + 1) = (j < k) from propext (by omega)]
    · rw [if_neg hb, show (kindsTo m k).map (fun z => (z, f z.toNat)) = kprs m f k from rfl, ih, if_neg hb]
      congr 2
      · omega
      · funext j
        by_cases hj : j = k
        · subst hj; simp [hb]
        · simp only [show (j < k + 1) = (j < k) from propext (by omega)]
/-- the words of a row's line -/
theorem stW_first (row : Bool) (y : List UInt8) : stW row (some []) y = (numR y).bind fun k => some [k] := by
  rw [stW, Option.bind_some]; simp
theorem stW_second (row : Bool) (s : Int) (y : List UInt8) : stW row (some [s]) y = (numR y).bind fun k => some [s, k] := by
  rw [stW, Option.bind_some]; simp
theorem words_row {ws : List (List UInt8)} {n : List Int} (h : ws.foldl (stW true) (some []) = some n) (hn : 2 ≤ n.length) : ∃ s g l, n = s :: g :: prs l ∧ ws = [s, g].map Lib.itoa ++ l.map kvP ∧ ∀ p ∈ l, isK p.1 = true := by
  match ws, h with
  | [], h => simp at h; subst h; simp at hn
  | [x], h =>
    rw [List.foldl_cons, List.foldl_nil, stW_first] at h
    cases hx : numR x with
    | none => rw [hx] at h; cases h
    | some a => rw [hx] at h; cases h; simp at hn
  | x :: y :: ws, h =>
    rw [List.foldl_cons, List.foldl_cons, stW_first] at h
    cases hx : numR x with
    | none => rw [hx, Option.bind_none, stW_none, fold_none (stW_none true)] at h; cases h
    | some a =>
      rw [hx, Option.bind_some, stW_second] at h
      cases hy : numR y with
      | none => rw [hy, Option.bind_none, fold_none (stW_none true)] at h; cases h
      | some b =>
        rw [hy, Option.bind_some] at h
        obtain ⟨l, rfl, rfl, h3⟩ := stW_row (s := a) (g := b) (l0 := []) h
        exact ⟨a, b, l, rfl, by simp [numR_some hx, numR_some hy], h3⟩
theorem line_words (line : List UInt8) : line = (spl 32 line).headD [] ++ (spl 32 line).tail.flatMap fun x => 32 :: x := by
  rw [← jn_words, ← spl_cons, jn_spl]
theorem rfLine_inv {i : Nat} {s s' : Stt} {line : List UInt8} (h : rfLine i s line = some s') :
    (i = 0 ∧ ∃ g, line = lnW gensW g ∧ s' = ⟨g, s.r, s.b⟩) ∨ (0 < i ∧ s.b = [] ∧ ∃ r, line = rowLn r ∧ s' = ⟨s.g, s.r ++ [r], s.b⟩) ∨ (0 < i ∧ ∃ b, line = bondLn b ∧ s' = ⟨s.g, s.r, s.b ++ [b]⟩) := by
  have hl := line_words line
  unfold rfLine rfWords at h
  generalize (spl 32 line).headD [] = w0 at *
  generalize (spl 32 line).tail = ws at *
  cases hn : ws.foldl (stW (decide (w0 = rowW))) (some []) with
  | none => rw [hn] at h; cases h
  | some n =>
    rw [hn, Option.bind_some] at h
    split at h
    · rename_i hc
      obtain ⟨hi, rfl⟩ := hc
      rw [show decide (gensW = rowW) = false by decide] at hn
      obtain ⟨l, rfl, rfl⟩ := stW_num hn
      cases h
      exact .inl ⟨hi, n, by rw [hl, lnW_words], rfl⟩
    · split at h
      · rename_i hc
        obtain ⟨hi, rfl, hn2, hb⟩ := hc
        rw [decide_eq_true rfl] at hn
        obtain ⟨a, b, l, rfl, rfl, hk⟩ := words_row hn hn2
        cases ha : addK (prs l) 0 (fun _ => 0) with
        | none => rw [show ((a :: b :: prs l).drop 2) = prs l from rfl, ha] at h; cases h
        | some x =>
          obtain ⟨m, f⟩ := x
          rw [show ((a :: b :: prs l).drop 2) = prs l from rfl, ha] at h
          cases h
          refine .inr (.inl ⟨hi, hb, ⟨a, b, m, f⟩, ?_, rfl⟩)
          have := addK_kinds ha hk ⟨by omega, by omega⟩
          rw [show kinds 0 = [] by decide, List.flatMap_nil, List.nil_append] at this
          rw [hl, rowLn, this, lnW_words, List.flatMap_append, List.append_assoc, List.flatMap_map kvP]
      · split at h
        · rename_i hc
          obtain ⟨hi, rfl, hn4⟩ := hc
          rw [show decide (bondW = rowW) = false by decide] at hn
          obtain ⟨l, rfl, rfl⟩ := stW_num hn
          cases h
          match n, hn4 with
          | [a, b, c, d], _ => exact .inr (.inr ⟨hi, ((a, b), (c, d)), by rw [hl, bondLn, lnW_words], rfl⟩)
        · cases h
theorem rfLines_inv : ∀ {ls : List (List UInt8)} {i : Nat} {s s' : Stt}, rfLines (i + 1) s ls = some s' → lnsT s'.g s'.r s'.b = lnsT s.g s.r s.b ++ ls
  | [], i, s, s', h => by cases h; simp
  | l :: ls, i, s, s', h => by
    rw [rfLines] at h
    cases hl : rfLine (i + 1) s l with
    | none => rw [hl] at h; cases h
    | some s1 =>
      rw [hl, Option.bind_some] at h
      rw [rfLines_inv h]
      rcases rfLine_inv hl with ⟨h0, -⟩ | ⟨-, hb, r, rfl, rfl⟩ | ⟨-, b, rfl, rfl⟩
      · omega
      · simp [lnsT, hb]
      · simp [lnsT]
theorem rfLines_all {ls : List (List UInt8)} {s' : Stt} (hne : ls ≠ []) (h : rfLines 0 sttZ ls = some s') : lnsT s'.g s'.r s'.b = ls := by
  cases ls with
  | nil => exact absurd rfl hne
  | cons l ls =>
    rw [rfLines] at h
    cases hl : rfLine 0 sttZ l with
    | none => rw [hl] at h; cases h
    | some s1 =>
      rw [hl, Option.bind_some] at h
      rw [rfLines_inv h]
      rcases rfLine_inv hl with ⟨-, g, rfl, rfl⟩ | ⟨h0, -⟩ | ⟨h0, -⟩
      · simp [lnsT, sttZ]
      · omega
      · omega
/-! what was written it takes -/
theorem words_num {row : Bool} (hr : row = false) : ∀ {l l0 : List Int}, (∀ n ∈ l, J9 n) → (l.map Lib.itoa).foldl (stW row) (some l0) = some (l0 ++ l)
  | [], l0, _ => by simp
  | n :: l, l0, h => by
    subst hr
    rw [List.map_cons, List.foldl_cons, show stW false (some l0) (Lib.itoa n) = some (l0 ++ [n]) by simp [stW, numR_itoa (h n (by simp))], words_num rfl (fun x hx => h x (by simp [hx]))]
    simp
theorem words_kv {f : Nat → Int} : ∀ {ks : List Int} {s g : Int} {l0 : List (Int × Int)}, (∀ k ∈ ks, isK k = true ∧ J9 (f k.toNat)) → (ks.map (kvB f)).foldl (stW true) (some (s :: g :: prs l0)) = some (s :: g :: prs (l0 ++ ks.map fun k => (k, f k.toNat)))
  | [], s, g, l0, _ => by simp
  | k :: ks, s, g, l0, h => by
    have hc : (true && (decide (2 ≤ (s :: g :: prs l0).length) && ((s :: g :: prs l0).length % 2 == 0))) = true := by
      simp only [List.length_cons, prs_len, Bool.true_and, Bool.and_eq_true, decide_eq_true_eq, beq_iff_eq]; omega
    obtain ⟨hi, hj⟩ := h k (by simp)
    have hk9 : J9 k := by have := isK_iff.1 hi; exact ⟨by omega, by omega⟩
    have hstep : stW true (some (s :: g :: prs l0)) (kvB f k) = some ((s :: g :: prs l0) ++ [k, f k.toNat]) := by
      rw [stW, Option.bind_some, cut_kvB]; simp only [Bool.true_and] at hc ⊢
      rw [if_pos hc, numR_itoa hk9, numR_itoa hj, Option.bind_some, Option.bind_some, if_pos hi]
    rw [List.map_cons, List.foldl_cons, hstep, show (s :: g :: prs l0) ++ [k, f k.toNat] = s :: g :: prs (l0 ++ [(k, f k.toNat)]) by simp [prs_app, prs], words_kv (fun x hx => h x (by simp [hx]))]
    simp
theorem rfLine_gens {s : Stt} {g : List Int} (h : ∀ n ∈ g, J9 n) : rfLine 0 s (lnW gensW g) = some ⟨g, s.r, s.b⟩ := by
  rw [rfLine, rfWords, spl_lnW (by decide), List.tail_cons, List.headD_cons, words_num (by decide) h]; simp
theorem rfLine_row {i : Nat} {s : Stt} {r : Rw} (h : FineR r) (hb : s.b = []) : rfLine (i + 1) s (rowLn r) = some ⟨s.g, s.r ++ [nR r], s.b⟩ := by
  have hk : ∀ k ∈ kinds r.m, isK k = true ∧ J9 (r.f k.toNat) := fun k hk => by
    obtain ⟨j, hj, rfl, -⟩ := mem_kindsTo.1 hk
    exact ⟨isK_iff.2 ⟨by omega, by omega⟩, by rw [Int.toNat_natCast]; exact (h.2.2.2 j hj).1⟩
  have hw : rfWords (rowLn r) = some (r.s :: r.g :: prs (kprs r.m r.f 8)) := by
    rw [rfWords, spl_rowLn, List.tail_cons, List.headD_cons, decide_eq_true rfl]
    simp only [List.map_cons, List.map_nil, List.cons_append, List.nil_append, List.foldl_cons]
    rw [stW_first, numR_itoa h.1, Option.bind_some, stW_second, numR_itoa h.2.1, Option.bind_some]
    exact words_kv (l0 := []) hk
  have ha := addK_to (f := r.f) h.2.2.1 8 (Nat.le_refl _)
  rw [show r.m % 2 ^ 8 = r.m by have := h.2.2.1; omega] at ha
  rw [rfLine, hw, spl_rowLn, List.headD_cons, Option.bind_some, if_neg (by simp), if_pos ⟨by omega, rfl, by simp, hb⟩]
  rw [show ((r.s :: r.g :: prs (kprs r.m r.f 8)).drop 2) = prs (kprs r.m r.f 8) from rfl, ha]
  rfl
theorem rfLine_bond {i : Nat} {s : Stt} {b : Bd} (h : FineB b) : rfLine (i + 1) s (bondLn b) = some ⟨s.g, s.r, s.b ++ [b]⟩ := by
  have hl : ∀ n ∈ [b.1.1, b.1.2, b.2.1, b.2.2], J9 n := by
    intro n hn; simp at hn; rcases hn with rfl | rfl | rfl | rfl
    · exact h.1
    · exact h.2.1
    · exact h.2.2.1
    · exact h.2.2.2
  rw [rfLine, rfWords, bondLn, spl_lnW (by decide), List.tail_cons, List.headD_cons, words_num (by decide) hl, Option.bind_some, if_neg (by simp), if_neg (by rintro ⟨-, e, -⟩; exact absurd e (by decide)), if_pos ⟨by omega, rfl, rfl⟩]; rfl
theorem rf_bonds : ∀ {bs : List Bd} {i : Nat} {s : Stt}, (∀ b ∈ bs, FineB b) → rfLines (i + 1) s (bs.map bondLn) = some ⟨s.g, s.r, s.b ++ bs⟩
  | [], i, s, _ => by simp [rfLines]
  | b :: bs, i, s, h => by
    rw [List.map_cons, rfLines, rfLine_bond (h b (by simp)), Option.bind_some, rf_bonds (fun x hx => h x (by simp [hx]))]; simp
theorem rf_rows : ∀ {rs : List Rw} {i : Nat} {s : Stt} {bs : List Bd}, (∀ r ∈ rs, FineR r) → (∀ b ∈ bs, FineB b) → s.b = [] → rfLines (i + 1) s (rs.map rowLn ++ bs.map bondLn) = some ⟨s.g, s.r ++ rs.map nR, bs⟩
  | [], i, s, bs, _, hb, h0 => by rw [List.map_nil, List.nil_append, rf_bonds hb, h0]; simp
  | r :: rs, i, s, bs, h, hb, h0 => by
    rw [List.map_cons, List.cons_append, rfLines, rfLine_row (h r (by simp)) h0, Option.bind_some, rf_rows (s := ⟨s.g, s.r ++ [nR r], s.b⟩) (fun x hx => h x (by simp [hx])) hb h0]; simp
theorem rf_text {g : List Int} {rs : List Rw} {bs : List Bd} (h : Fine g rs bs) : rfLines 0 sttZ (lnsT g rs bs) = some ⟨g, rs.map nR, bs⟩ := by
  rw [lnsT, rfLines, rfLine_gens h.gi, Option.bind_some, rf_rows h.ri h.bi rfl]; rfl
end Go.Proofs.YtndhomjfjhohoaaGreatDoor

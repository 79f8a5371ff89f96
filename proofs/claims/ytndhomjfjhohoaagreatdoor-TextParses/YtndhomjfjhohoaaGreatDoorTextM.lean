
/- A state's text, and what is read of one, over plain lists: its lines; what each line adds; a text is read as it was written. No Go in sight. -/
import Derived.Test.YtndhomjfjhohoaaGreatDoorBytesT
import Derived.Test.YtndhomjfjhohoaaGreatDoorGroundA
import Derived.Test.YtndhomjfjhohoaaGreatDoorGroundD
namespace Go.Proofs.YtndhomjfjhohoaaGreatDoor
open Go

def gensW : List UInt8 := [103, 101, 110, 115]
def rowW : List UInt8 := [114, 111, 119]
def bondW : List UInt8 := [98, 111, 110, 100]
def numW (n : Int) : List UInt8 := 32 :: Lib.itoa n
def lnW (w : List UInt8) (ns : List Int) : List UInt8 := w ++ ns.flatMap numW
def kvW (f : Nat → Int) (k : Int) : List UInt8 := numW k ++ 61 :: Lib.itoa (f k.toNat)
def rowLn (r : Rw) : List UInt8 := lnW rowW [r.s, r.g] ++ (kinds r.m).flatMap (kvW r.f)
def bondLn (b : Bd) : List UInt8 := lnW bondW [b.1.1, b.1.2, b.2.1, b.2.2]
def lnsT (g : List Int) (rs : List Rw) (bs : List Bd) : List (List UInt8) := lnW gensW g :: (rs.map rowLn ++ bs.map bondLn)
def textT (g : List Int) (rs : List Rw) (bs : List Bd) : List UInt8 := (lnsT g rs bs).flatMap fun l => l ++ [10]
theorem lnW_snoc (w : List UInt8) (ns : List Int) (n : Int) : lnW w (ns ++ [n]) = lnW w ns ++ numW n := by simp [lnW]

/-! reading -/
def numA (w : List UInt8) : Option Int := match Lib.atoiAll w with | .ok v => some v | _ => none
def stN (x : Option (List Int)) (w : List UInt8) : Option (List Int) := x.bind fun l => (numA w).map fun n => l ++ [n]
def numsA (ws : List (List UInt8)) : Option (List Int) := ws.foldl stN (some [])
def stB (x : Option (Int × (Nat → Int))) (w : List UInt8) : Option (Int × (Nat → Int)) :=
  x.bind fun b => (numA (Lib.cut w [61]).1).bind fun k => (numA (Lib.cut w [61]).2.1).bind fun v => if isK k then some (bits .or .i64 b.1 (2 ^ k.toNat), upd b.2 k.toNat v) else none
def rdB (ws : List (List UInt8)) : Option (Int × (Nat → Int)) := ws.foldl stB (some (0, fun _ => 0))
def rdRow (ws : List (List UInt8)) : Option Rw :=
  if ws.length < 2 then none else (numA (ws.getD 0 [])).bind fun s => (numA (ws.getD 1 [])).bind fun g => (rdB (ws.drop 2)).map fun b => ⟨s, g, b.1, b.2⟩
def rdBond (ws : List (List UInt8)) : Option Bd := (numsA ws).bind fun l => match l with | [a, b, c, d] => some ((a, b), (c, d)) | _ => none
structure Stt where
  g : List Int
  r : List Rw
  b : List Bd
def sttZ : Stt := ⟨[], [], []⟩
def rdLine (s : Stt) (line : List UInt8) : Option Stt :=
  if (spl 32 line).headD [] = gensW then (numsA (spl 32 line).tail).map fun l => ⟨s.g ++ l, s.r, s.b⟩
  else if (spl 32 line).headD [] = rowW then (rdRow (spl 32 line).tail).map fun r => ⟨s.g, s.r ++ [r], s.b⟩
  else if (spl 32 line).headD [] = bondW then (rdBond (spl 32 line).tail).map fun b => ⟨s.g, s.r, s.b ++ [b]⟩
  else none
def stL (x : Option Stt) (line : List UInt8) : Option Stt := x.bind fun s => rdLine s line
def rdT (t : List UInt8) : Option Stt := if Lib.hasSuffix t [10] then (spl 10 (Lib.trimSuffix t [10])).foldl stL (some sttZ) else none

theorem fold_none {α β : Type} {st : Option β → α → Option β} (h : ∀ a, st none a = none) : ∀ ws : List α, ws.foldl st none = none
  | [] => rfl
  | a :: ws => by rw [List.foldl_cons, h, fold_none h ws]
theorem stN_none (a) : stN none a = none := rfl
theorem stB_none (a) : stB none a = none := rfl
theorem stL_none (a) : stL none a = none := rfl
theorem fold_take {α β : Type} {st : β → α → β} {x : β} {ws : List α} {k : Nat} {a : α} (h : ws[k]? = some a) : (ws.take (k + 1)).foldl st x = st ((ws.take k).foldl st x) a := by
  rw [List.take_add_one, h]; simp
/-- one that fails, and all fails -/
theorem fold_fail {α β : Type} {st : Option β → α → Option β} (hn : ∀ a, st none a = none) {x : Option β} {ws : List α} {k : Nat} (h : (ws.take k).foldl st x = none) : ws.foldl st x = none := by
  rw [← List.take_append_drop k ws, List.foldl_append, h, fold_none hn]
theorem numsA_at {ws : List (List UInt8)} {k : Nat} {w : List UInt8} {l : List Int} {n : Int} (h : numsA (ws.take k) = some l) (hw : ws[k]? = some w) (hn : numA w = some n) : numsA (ws.take (k + 1)) = some (l ++ [n]) := by
  unfold numsA at *; rw [fold_take hw, h]; simp [stN, hn]
theorem numsA_bad {ws : List (List UInt8)} {k : Nat} {w : List UInt8} (hw : ws[k]? = some w) (hn : numA w = none) : numsA ws = none := by
  refine fold_fail (k := k + 1) stN_none ?_
  rw [fold_take hw]
  cases (ws.take k).foldl stN (some []) <;> simp [stN, hn]
theorem numsA_len : ∀ {ws : List (List UInt8)} {l : List Int}, numsA ws = some l → l.length = ws.length := by
  intro ws
  suffices H : ∀ (ws : List (List UInt8)) (l0 l : List Int), ws.foldl stN (some l0) = some l → l.length = l0.length + ws.length by
    intro l h; simpa using H ws [] l h
  intro ws
  induction ws with
  | nil => intro l0 l h; simp at h; simp [h]
  | cons w ws ih =>
    intro l0 l h
    rw [List.foldl_cons] at h
    cases hn : numA w with
    | none => rw [show stN (some l0) w = none by simp [stN, hn], fold_none stN_none] at h; cases h
    | some n => rw [show stN (some l0) w = some (l0 ++ [n]) by simp [stN, hn]] at h; have := ih _ _ h; simp at this ⊢; omega

/-! what was written is read -/
def I64L (l : List Int) : Prop := ∀ n ∈ l, I64 n
theorem numA_itoa {n : Int} (h : I64 n) : numA (Lib.itoa n) = some n := by rw [numA, atoi_itoa h.1 h.2]
theorem nums_itoa : ∀ {l l0 : List Int}, I64L l → (l.map Lib.itoa).foldl stN (some l0) = some (l0 ++ l)
  | [], l0, _ => by simp
  | n :: l, l0, h => by
    rw [List.map_cons, List.foldl_cons, show stN (some l0) (Lib.itoa n) = some (l0 ++ [n]) by simp [stN, numA_itoa (h n (by simp))], nums_itoa (fun x hx => h x (by simp [hx]))]
    simp
theorem numsA_itoa {l : List Int} (h : I64L l) : numsA (l.map Lib.itoa) = some l := by rw [numsA, nums_itoa h]; rfl
/-- words behind a word, each behind a blank -/
theorem jn_words (w : List UInt8) : ∀ ws : List (List UInt8), jn 32 (w :: ws) = w ++ ws.flatMap fun x => 32 :: x
  | [] => by simp [jn]
  | x :: ws => by rw [jn, jn_words x ws]; simp
theorem spl_words {w : List UInt8} {ws : List (List UInt8)} (hw : (32 : UInt8) ∉ w) (h : ∀ x ∈ ws, (32 : UInt8) ∉ x) : spl 32 (w ++ ws.flatMap fun x => 32 :: x) = w :: ws := by
  rw [← jn_words, spl_jn (by simp)]
  intro x hx
  rcases List.mem_cons.1 hx with rfl | hx
  · exact hw
  · exact h x hx
theorem lnW_words (w : List UInt8) (ns : List Int) : lnW w ns = w ++ (ns.map Lib.itoa).flatMap fun x => 32 :: x := by
  rw [lnW, List.flatMap_map]; rfl
theorem spl_lnW {w : List UInt8} {ns : List Int} (hw : (32 : UInt8) ∉ w) : spl 32 (lnW w ns) = w :: ns.map Lib.itoa := by
  rw [lnW_words, spl_words hw]
  intro x hx
  obtain ⟨n, -, rfl⟩ := List.mem_map.1 hx
  exact itoa_no _ (by simp)
def kvB (f : Nat → Int) (k : Int) : List UInt8 := Lib.itoa k ++ 61 :: Lib.itoa (f k.toNat)
theorem kvB_no (f : Nat → Int) (k : Int) : (32 : UInt8) ∉ kvB f k ∧ (10 : UInt8) ∉ kvB f k := by
  simp [kvB, itoa_no]
theorem rowLn_words (r : Rw) : rowLn r = rowW ++ ([r.s, r.g].map Lib.itoa ++ (kinds r.m).map (kvB r.f)).flatMap fun x => 32 :: x := by
  rw [rowLn, lnW_words, List.flatMap_append, List.append_assoc, List.flatMap_map (kvB r.f)]; rfl
theorem spl_rowLn (r : Rw) : spl 32 (rowLn r) = rowW :: ([r.s, r.g].map Lib.itoa ++ (kinds r.m).map (kvB r.f)) := by
  rw [rowLn_words, spl_words (by decide)]
  intro x hx
  rcases List.mem_append.1 hx with hx | hx
  · obtain ⟨n, -, rfl⟩ := List.mem_map.1 hx
    exact itoa_no _ (by simp)
  · obtain ⟨k, -, rfl⟩ := List.mem_map.1 hx
    exact (kvB_no _ _).1
theorem cut_kvB (f : Nat → Int) (k : Int) : Lib.cut (kvB f k) [61] = (Lib.itoa k, Lib.itoa (f k.toNat), true) := by
  rcases cut_one 61 (kvB f k) with ⟨h, -⟩ | ⟨x, y, e, hx, h⟩
  · exact absurd (by simp [kvB]) h
  · have e1 := spl_app (c := 61) y hx
    have e2 := spl_app (c := 61) (x := Lib.itoa k) (Lib.itoa (f k.toNat)) (itoa_no _ (by simp))
    rw [← e] at e1
    rw [show Lib.itoa k ++ 61 :: Lib.itoa (f k.toNat) = kvB f k from rfl, e1] at e2
    obtain ⟨rfl, -⟩ := List.cons_eq_cons.1 e2
    have e3 := List.append_cancel_left (show Lib.itoa k ++ 61 :: Lib.itoa (f k.toNat) = Lib.itoa k ++ 61 :: y from e)
    rw [h, (List.cons_eq_cons.1 e3).2]
/-- a row as it is read: nothing at what it lacks -/
def nR (r : Rw) : Rw := ⟨r.s, r.g, r.m, fun j => if j < 8 ∧ tb r.m j = true then r.f j else 0⟩
def J9 (n : Int) : Prop := -1000000000 ≤ n ∧ n ≤ 1000000000
theorem J9.i64 {n : Int} (h : J9 n) : I64 n := ⟨by have := h.1; omega, by have := h.2; omega⟩
def FineR (r : Rw) : Prop := J9 r.s ∧ J9 r.g ∧ (0 ≤ r.m ∧ r.m ≤ 255) ∧ ∀ k, k < 8 → J9 (r.f k) ∧ (tb r.m k = false → r.f k = 0)
def FineB (b : Bd) : Prop := J9 b.1.1 ∧ J9 b.1.2 ∧ J9 b.2.1 ∧ J9 b.2.2
theorem nR_at {r : Rw} (h : FineR r) {k : Nat} (hk : k < 8) : (nR r).f k = r.f k := by
  simp only [nR]
  cases hb : tb r.m k with
  | true => simp [hk]
  | false => simp [(h.2.2.2 k hk).2 hb]
theorem rdB_to {m : Int} {f : Nat → Int} (h : ∀ k, k < 8 → I64 (f k)) : ∀ k, k ≤ 8 → rdB ((kindsTo m k).map (kvB f)) = some (setOf (kindsTo m k), fun j => if j < k ∧ tb m j = true then f j else 0)
  | 0, _ => by simp [kindsTo, rdB, setOf]
  | k + 1, hk => by
    have ih := rdB_to (m := m) h k (by omega)
    rw [kindsTo]
    by_cases hb : tb m k = true
    · rw [if_pos hb, List.map_append, rdB, List.foldl_append]
      rw [rdB] at ih
      rw [ih, setOf_snoc]
      have hk0 : I64 ((k : Nat) : Int) := ⟨by omega, by omega⟩
      have hi : isK ((k : Nat) : Int) = true := isK_iff.2 ⟨by omega, by omega⟩
      simp only [List.map_cons, List.map_nil, List.foldl_cons, List.foldl_nil, stB, Option.bind_some, cut_kvB, numA_itoa hk0, Int.toNat_natCast, numA_itoa (h k (by omega)), hi, if_true]
      congr 2
      funext j
      unfold upd
      by_cases hj : j = k
      · subst hj; simp [hb]
      · rw [if_neg hj]
        simp only [show (j < k + 1) = (j < k) from propext (by omega)]
    · rw [if_neg hb, ih]
      congr 2
      funext j
      by_cases hj : j = k
      · subst hj; simp [hb]
      · simp only [show (j < k + 1) = (j < k) from propext (by omega)]
theorem setOf_kinds {m : Int} (h : 0 ≤ m ∧ m ≤ 255) : setOf (kinds m) = m := by
  obtain ⟨h0, h1, h2⟩ := setOf_facts (kinds m) (fun z hz => by obtain ⟨j, hj, rfl, -⟩ := mem_kindsTo.1 hz; omega)
  refine i64_ext ⟨by omega, by omega⟩ ⟨by omega, by omega⟩ fun k hk => ?_
  rw [h2 k hk]
  have hb : tb (m % 256) k = (decide (k < 8) && tb m k) := mod256 m k hk
  rw [show m % 256 = m by omega] at hb
  rw [hb, Bool.eq_iff_iff]
  simp only [decide_eq_true_eq, Bool.and_eq_true]
  constructor
  · intro hm
    obtain ⟨j, hj, e, ht⟩ := mem_kindsTo.1 hm
    obtain rfl : k = j := by omega
    exact ⟨hj, ht⟩
  · rintro ⟨h8, ht⟩; exact mem_kindsTo.2 ⟨k, h8, rfl, ht⟩
theorem rdLine_gens {s : Stt} {g : List Int} (h : I64L g) : rdLine s (lnW gensW g) = some ⟨s.g ++ g, s.r, s.b⟩ := by
  rw [rdLine, spl_lnW (by decide)]; simp [numsA_itoa h]
theorem rdRow_words {r : Rw} (h : FineR r) : rdRow ([r.s, r.g].map Lib.itoa ++ (kinds r.m).map (kvB r.f)) = some (nR r) := by
  have hb : rdB ((kinds r.m).map (kvB r.f)) = _ := rdB_to (fun k hk => (h.2.2.2 k hk).1.i64) 8 (Nat.le_refl _)
  rw [show setOf (kindsTo r.m 8) = r.m from setOf_kinds h.2.2.1] at hb
  rw [rdRow, if_neg (by simp)]
  simp only [List.map_cons, List.map_nil, List.cons_append, List.nil_append, List.getD_cons_zero, List.getD_cons_succ, List.drop_succ_cons, List.drop_zero, numA_itoa h.1.i64, numA_itoa h.2.1.i64, hb, Option.bind_some, Option.map_some]
  rfl
theorem rdLine_row {s : Stt} {r : Rw} (h : FineR r) : rdLine s (rowLn r) = some ⟨s.g, s.r ++ [nR r], s.b⟩ := by
  rw [rdLine, spl_rowLn, List.headD_cons, List.tail_cons, rdRow_words h, if_neg (by decide), if_pos rfl]; rfl
theorem rdLine_bond {s : Stt} {b : Bd} (h : FineB b) : rdLine s (bondLn b) = some ⟨s.g, s.r, s.b ++ [b]⟩ := by
  have hl : I64L [b.1.1, b.1.2, b.2.1, b.2.2] := by
    intro n hn; simp at hn; rcases hn with rfl | rfl | rfl | rfl
    · exact h.1.i64
    · exact h.2.1.i64
    · exact h.2.2.1.i64
    · exact h.2.2.2.i64
  rw [rdLine, bondLn, spl_lnW (by decide), List.headD_cons, List.tail_cons, rdBond, numsA_itoa hl, if_neg (by decide), if_neg (by decide), if_pos rfl]; rfl
theorem rd_rows : ∀ {rs : List Rw} {s : Stt}, (∀ r ∈ rs, FineR r) → (rs.map rowLn).foldl stL (some s) = some ⟨s.g, s.r ++ rs.map nR, s.b⟩
  | [], s, _ => by simp
  | r :: rs, s, h => by
    rw [List.map_cons, List.foldl_cons, stL, Option.bind_some, rdLine_row (h r (by simp)), rd_rows (fun x hx => h x (by simp [hx]))]; simp
theorem rd_bonds : ∀ {bs : List Bd} {s : Stt}, (∀ b ∈ bs, FineB b) → (bs.map bondLn).foldl stL (some s) = some ⟨s.g, s.r, s.b ++ bs⟩
  | [], s, _ => by simp
  | b :: bs, s, h => by
    rw [List.map_cons, List.foldl_cons, stL, Option.bind_some, rdLine_bond (h b (by simp)), rd_bonds (fun x hx => h x (by simp [hx]))]; simp
theorem no10_num {n : Int} : (10 : UInt8) ∉ numW n := by simp [numW, itoa_no]
theorem no10_ln {w : List UInt8} {ns : List Int} (h : (10 : UInt8) ∉ w) : (10 : UInt8) ∉ lnW w ns := by
  simp [lnW, h, List.mem_flatMap, no10_num]
theorem lns_no10 {g : List Int} {rs : List Rw} {bs : List Bd} : ∀ l ∈ lnsT g rs bs, (10 : UInt8) ∉ l := by
  intro l hl
  rcases List.mem_cons.1 hl with rfl | hl
  · exact no10_ln (by decide)
  rcases List.mem_append.1 hl with hl | hl
  · obtain ⟨r, -, rfl⟩ := List.mem_map.1 hl
    simp only [rowLn, List.mem_append, List.mem_flatMap, not_or, not_exists, not_and]
    refine ⟨no10_ln (by decide), fun k _ => ?_⟩
    simp [kvW, no10_num, itoa_no]
  · obtain ⟨b, -, rfl⟩ := List.mem_map.1 hl
    exact no10_ln (by decide)
theorem jn_lines : ∀ {ls : List (List UInt8)}, ls ≠ [] → (ls.flatMap fun l => l ++ [10]) = jn 10 ls ++ [10]
  | [x], _ => by simp [jn]
  | x :: y :: r, _ => by
    have := jn_lines (ls := y :: r) (by simp)
    rw [List.flatMap_cons, this, jn]; simp
theorem suffix_snoc (l : List UInt8) (c : UInt8) : Lib.hasSuffix (l ++ [c]) [c] = true ∧ Lib.trimSuffix (l ++ [c]) [c] = l := by
  have h : Lib.hasSuffix (l ++ [c]) [c] = true := by simp [Lib.hasSuffix]
  exact ⟨h, by rw [Lib.trimSuffix, if_pos h]; simp⟩
theorem suffix_of {l : List UInt8} {c : UInt8} (h : Lib.hasSuffix l [c] = true) : l = Lib.trimSuffix l [c] ++ [c] := by
  obtain ⟨m, rfl⟩ : ∃ m, m ++ [c] = l := by simpa [Lib.hasSuffix, List.IsSuffix] using h
  rw [(suffix_snoc m c).2]
/-- a state that may be written -/
structure Fine (g : List Int) (rs : List Rw) (bs : List Bd) : Prop where
  gi : ∀ n ∈ g, J9 n
  ri : ∀ r ∈ rs, FineR r
  bi : ∀ b ∈ bs, FineB b
theorem rdT_text {g : List Int} {rs : List Rw} {bs : List Bd} (h : Fine g rs bs) : rdT (textT g rs bs) = some ⟨g, rs.map nR, bs⟩ := by
  have hne : lnsT g rs bs ≠ [] := by simp [lnsT]
  rw [rdT, textT, jn_lines hne, if_pos (suffix_snoc _ _).1, (suffix_snoc _ _).2, spl_jn hne lns_no10, lnsT, List.foldl_cons, stL, Option.bind_some, rdLine_gens (fun n hn => (h.gi n hn).i64), List.foldl_append, rd_rows h.ri, rd_bonds h.bi]
  simp [sttZ]
theorem rowLn_nR (r : Rw) : rowLn (nR r) = rowLn r := by
  have : (kinds r.m).flatMap (kvW (nR r).f) = (kinds r.m).flatMap (kvW r.f) := by
    rw [List.flatMap_def, List.flatMap_def]
    refine congrArg List.flatten (List.map_congr_left fun k hk => ?_)
    obtain ⟨j, hj, rfl, ht⟩ := mem_kindsTo.1 hk
    simp [kvW, nR, hj, ht]
  rw [rowLn, rowLn, show kinds (nR r).m = kinds r.m from rfl, this]; rfl
theorem text_nR (g : List Int) (rs : List Rw) (bs : List Bd) : textT g (rs.map nR) bs = textT g rs bs := by
  rw [textT, textT, lnsT, lnsT, List.map_map]
  rw [show rowLn ∘ nR = rowLn from funext rowLn_nR]
end Go.Proofs.YtndhomjfjhohoaaGreatDoor

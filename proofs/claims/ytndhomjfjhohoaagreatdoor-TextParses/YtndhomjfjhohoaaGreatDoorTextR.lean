
/- The reference's reading of a text over plain lists: what it takes is the text of the state that it returns; what was written it takes. No Go in sight. -/
import Derived.Test.YtndhomjfjhohoaaGreatDoorTextM
import Derived.Lib.Atoi
namespace Go.Proofs.YtndhomjfjhohoaaGreatDoor
open Go

def bodyD (w : List UInt8) : List UInt8 := if Lib.hasPrefix w [45] then w.drop 1 else w
def signD (w : List UInt8) : Int := if Lib.hasPrefix w [45] then -1 else 1
def numR (w : List UInt8) : Option Int := if 1 ≤ (bodyD w).length ∧ (bodyD w).length ≤ 10 then (Lib.decFrom 0 (bodyD w)).bind fun m => if Lib.itoa (signD w * (m : Int)) = w then some (signD w * (m : Int)) else none else none
def stW (row : Bool) (x : Option (List Int)) (y : List UInt8) : Option (List Int) := x.bind fun n =>
  if (Lib.cut y [61]).2.2 && (row && (decide (2 ≤ n.length) && (n.length % 2 == 0))) then
    (numR (Lib.cut y [61]).1).bind fun k => (numR (Lib.cut y [61]).2.1).bind fun v => if isK k then some (n ++ [k, v]) else none
  else (numR y).bind fun k => if row && decide (2 ≤ n.length) then none else some (n ++ [k])
def hasK (m : Int) (k : Int) : Bool := tb m k.toNat
def addK : List Int → Int → (Nat → Int) → Option (Int × (Nat → Int))
  | k :: v :: l, m, f => if hasK m k || decide ((2 : Int) ^ k.toNat ≤ m) then none else addK l (m + 2 ^ k.toNat) (upd f k.toNat v)
  | _, m, f => some (m, f)
def rfWords (line : List UInt8) : Option (List Int) := (spl 32 line).tail.foldl (stW (decide ((spl 32 line).headD [] = rowW))) (some [])
def rfLine (i : Nat) (s : Stt) (line : List UInt8) : Option Stt := (rfWords line).bind fun n =>
  if i = 0 ∧ (spl 32 line).headD [] = gensW then some ⟨n, s.r, s.b⟩
  else if 0 < i ∧ (spl 32 line).headD [] = rowW ∧ 2 ≤ n.length ∧ s.b = [] then (addK (n.drop 2) 0 (fun _ => 0)).map fun b => ⟨s.g, s.r ++ [⟨n.getD 0 0, n.getD 1 0, b.1, b.2⟩], s.b⟩
  else if 0 < i ∧ (spl 32 line).headD [] = bondW ∧ n.length = 4 then some ⟨s.g, s.r, s.b ++ [((n.getD 0 0, n.getD 1 0), (n.getD 2 0, n.getD 3 0))]⟩
  else none
def rfLines : Nat → Stt → List (List UInt8) → Option Stt
  | _, s, [] => some s
  | i, s, l :: ls => (rfLine i s l).bind fun s' => rfLines (i + 1) s' ls

theorem stW_none (row) (y) : stW row none y = none := rfl
theorem itoa_neg {n : Int} (h : n < 0) : Lib.itoa n = 45 :: Lib.decDigits n.natAbs := by rw [Lib.itoa, if_pos h]
theorem itoa_pos {n : Int} (h : ¬ n < 0) : Lib.itoa n = Lib.decDigits n.toNat := by rw [Lib.itoa, if_neg h]
theorem dec_app : ∀ (l m : List UInt8) (a : Nat), Lib.decFrom a (l ++ m) = (Lib.decFrom a l).bind fun v => Lib.decFrom v m
  | [], m, a => rfl
  | c :: l, m, a => by
    simp only [List.cons_append, Lib.decFrom]
    cases Lib.digitVal c with
    | none => rfl
    | some d => exact dec_app l m _
theorem digit_ok {d : Nat} (h : d < 10) : Lib.digitVal (UInt8.ofNat (48 + d)) = some d := by
  rw [Lib.digitVal, dig_byte h, if_pos (by omega)]; congr 1; omega
theorem dec_dec (u : Nat) : Lib.decFrom 0 (Lib.decDigits u) = some u := by
  induction u using Nat.strongRecOn with
  | _ u ih =>
    by_cases h : u < 10
    · rw [Lib.decDigits_one h, Lib.decFrom, digit_ok h]; simp [Lib.decFrom]
    · rw [Lib.decDigits, dif_neg h, dec_app, ih (u / 10) (by omega)]
      simp only [Option.bind_some, Lib.decFrom]
      rw [digit_ok (by omega)]
      simp only; congr 1; omega
theorem numR_itoa {n : Int} (h : J9 n) : numR (Lib.itoa n) = some n := by
  obtain ⟨h0, h1⟩ := h
  by_cases hn : n < 0
  · have e := itoa_neg hn
    have hb : bodyD (Lib.itoa n) = Lib.decDigits n.natAbs := by rw [e]; simp [bodyD, Lib.hasPrefix]
    have hs : signD (Lib.itoa n) = -1 := by rw [e]; simp [signD, Lib.hasPrefix]
    have hl := dec_len (u := n.natAbs) (k := 9) (by omega)
    have hp := Lib.nDigits_pos n.natAbs
    rw [numR, hb, hs, Lib.decDigits_length] at *
    rw [if_pos ⟨hp, by omega⟩, dec_dec, Option.bind_some, show (-1 : Int) * (n.natAbs : Int) = n by omega, if_pos rfl]
  · have e := itoa_pos hn
    obtain ⟨c, r, hc⟩ := dec_cons n.toNat
    have hcb := dec_bytes n.toNat c (by rw [hc]; simp)
    have hne : ¬ (45 : UInt8) = c := fun q => by subst q; simp at hcb
    have hpre : Lib.hasPrefix (Lib.itoa n) [45] = false := by rw [e, hc]; simp [Lib.hasPrefix, List.isPrefixOf, hne]
    have hb : bodyD (Lib.itoa n) = Lib.decDigits n.toNat := by rw [bodyD, hpre, e]; rfl
    have hs : signD (Lib.itoa n) = 1 := by rw [signD, hpre]; rfl
    have hl := dec_len (u := n.toNat) (k := 9) (by omega)
    have hp := Lib.nDigits_pos n.toNat
    rw [numR, hb, hs, Lib.decDigits_length] at *
    rw [if_pos ⟨hp, by omega⟩, dec_dec, Option.bind_some, show (1 : Int) * (n.toNat : Int) = n by omega, if_pos rfl]
theorem numR_some {w : List UInt8} {n : Int} (h : numR w = some n) : Lib.itoa n = w := by
  unfold numR at h
  split at h
  · cases hd : Lib.decFrom 0 (bodyD w) with
    | none => rw [hd] at h; cases h
    | some m =>
      rw [hd, Option.bind_some] at h
      split at h
      · rename_i e; cases h; exact e
      · cases h
  · cases h
/-! what it takes -/
theorem stW_num {ws : List (List UInt8)} : ∀ {l0 l : List Int}, ws.foldl (stW false) (some l0) = some l → ∃ l', l = l0 ++ l' ∧ ws = l'.map Lib.itoa := by
  induction ws with
  | nil => intro l0 l h; simp at h; exact ⟨[], by simp [h], rfl⟩
  | cons w ws ih =>
    intro l0 l h
    rw [List.foldl_cons] at h
    cases hn : numR w with
    | none => rw [show stW false (some l0) w = none by simp [stW, hn], fold_none (stW_none false)] at h; cases h
    | some n =>
      rw [show stW false (some l0) w = some (l0 ++ [n]) by simp [stW, hn]] at h
      obtain ⟨l', rfl, rfl⟩ := ih h
      exact ⟨n :: l', by simp, by simp [numR_some hn]⟩
/-- pairs -/
def prs : List (Int × Int) → List Int
  | [] => []
  | (k, v) :: l => k :: v :: prs l
theorem prs_app (a b : List (Int × Int)) : prs (a ++ b) = prs a ++ prs b := by
  induction a with
  | nil => rfl
  | cons x a ih => simp [prs, ih]
theorem prs_len (a : List (Int × Int)) : (prs a).length = 2 * a.length := by
  induction a with
  | nil => rfl
  | cons x a ih => simp [prs, ih]; omega
def kvP (p : Int × Int) : List UInt8 := Lib.itoa p.1 ++ 61 :: Lib.itoa p.2
theorem stW_row {ws : List (List UInt8)} : ∀ {s g : Int} {l0 : List (Int × Int)} {l : List Int}, ws.foldl (stW true) (some (s :: g :: prs l0)) = some l → ∃ l', l = s :: g :: prs (l0 ++ l') ∧ ws = l'.map kvP ∧ ∀ p ∈ l', isK p.1 = true := by
  induction ws with
  | nil => intro s g l0 l h; simp at h; exact ⟨[], by simp [h], rfl, by simp⟩
  | cons w ws ih =>
    intro s g l0 l h
    rw [List.foldl_cons] at h
    have hc : (true && (decide (2 ≤ (s :: g :: prs l0).length) && ((s :: g :: prs l0).length % 2 == 0))) = true := by
      simp only [List.length_cons, prs_len, Bool.true_and, Bool.and_eq_true, decide_eq_true_eq, beq_iff_eq]; omega
    have hc2 : (true && decide (2 ≤ (s :: g :: prs l0).length)) = true := by simp
    rcases cut_one 61 w with ⟨hn, e⟩ | ⟨x, y, rfl, hx, e⟩
    · rw [show stW true (some (s :: g :: prs l0)) w = none by
        rw [stW, Option.bind_some, e]; simp only [Bool.false_and, Bool.false_eq_true, if_false, hc2, if_true]; cases numR w <;> rfl, fold_none (stW_none true)] at h
      cases h
    · have hstep : stW true (some (s :: g :: prs l0)) (x ++ 61 :: y) = (numR x).bind fun k => (numR y).bind fun v => if isK k then some ((s :: g :: prs l0) ++ [k, v]) else none := by
        rw [stW, Option.bind_some, e]; simp only [Bool.true_and] at hc ⊢; rw [if_pos hc]
      rw [hstep] at h
      cases hk : numR x with
      | none => rw [hk, Option.bind_none, fold_none (stW_none true)] at h; cases h
      | some k =>
        cases hv : numR y with
        | none => rw [hk, hv, Option.bind_some, Option.bind_none, fold_none (stW_none true)] at h; cases h
        | some v =>
          rw [hk, hv, Option.bind_some, Option.bind_some] at h
          cases hi : isK k with
          | false => rw [hi, if_neg (by simp), fold_none (stW_none true)] at h; cases h
          | true =>
            rw [hi, if_pos rfl, show (s :: g :: prs l0) ++ [k, v] = s :: g :: prs (l0 ++ [(k, v)]) by simp [prs_app, prs]] at h
            obtain ⟨l', rfl, rfl, h3⟩ := ih h
            exact ⟨(k, v) :: l', by simp, by simp [kvP, numR_some hk, numR_some hv], fun p hp => (List.mem_cons.1 hp).elim (fun e => e ▸ hi) (h3 p)⟩
end Go.Proofs.YtndhomjfjhohoaaGreatDoor


/- Lists of bytes: cut at each c, joined again; numerals and their reading; against the words of the library. No Go in sight. -/
import Derived.Lib.SplitLaws
import Derived.Lib.CutLaws
import Derived.Lib.ItoaLen
import Derived.Lib.AtoiAllCases
namespace Go.Proofs.YtndhomjfjhohoaaGreatDoor
open Go

/-! pieces -/
def spl (c : UInt8) : List UInt8 → List (List UInt8)
  | [] => [[]]
  | b :: l => if b = c then [] :: spl c l else ((b :: (spl c l).headD []) :: (spl c l).tail)
def jn (c : UInt8) : List (List UInt8) → List UInt8
  | [] => []
  | [x] => x
  | x :: y :: r => x ++ c :: jn c (y :: r)
theorem spl_cons (c : UInt8) (l : List UInt8) : spl c l = (spl c l).headD [] :: (spl c l).tail := by
  cases l with
  | nil => rfl
  | cons b l => unfold spl; split <;> rfl
theorem spl_ne (c : UInt8) (l : List UInt8) : spl c l ≠ [] := by rw [spl_cons]; simp
theorem spl_app {c : UInt8} : ∀ {x : List UInt8} (l : List UInt8), c ∉ x → spl c (x ++ c :: l) = x :: spl c l
  | [], l, _ => by simp [spl]
  | b :: x, l, h => by
    have hb : ¬ b = c := fun e => h (by simp [e])
    rw [List.cons_append, spl, if_neg hb, spl_app l (fun m => h (by simp [m]))]; rfl
theorem spl_one {c : UInt8} : ∀ {x : List UInt8}, c ∉ x → spl c x = [x]
  | [], _ => rfl
  | b :: x, h => by
    have hb : ¬ b = c := fun e => h (by simp [e])
    rw [spl, if_neg hb, spl_one (fun m => h (by simp [m]))]; rfl
theorem spl_jn {c : UInt8} : ∀ {xs : List (List UInt8)}, xs ≠ [] → (∀ x ∈ xs, c ∉ x) → spl c (jn c xs) = xs
  | [x], _, h => spl_one (h x (by simp))
  | x :: y :: r, _, h => by rw [jn, spl_app _ (h x (by simp)), spl_jn (by simp) (fun z hz => h z (by simp [hz]))]
theorem jn_cons {c : UInt8} (x : List UInt8) {r : List (List UInt8)} (h : r ≠ []) : jn c (x :: r) = x ++ c :: jn c r := by
  cases r with
  | nil => exact absurd rfl h
  | cons y r => rfl
theorem jn_spl (c : UInt8) : ∀ l : List UInt8, jn c (spl c l) = l
  | [] => rfl
  | b :: l => by
    have ih := jn_spl c l
    rw [spl]
    split
    · rename_i e; subst e; rw [jn_cons _ (spl_ne _ _), ih]; rfl
    · generalize hs : spl c l = s at ih
      have hne := spl_ne c l
      rw [hs] at hne
      match s, hne with
      | [x], _ => simpa [jn] using ih
      | x :: y :: r, _ => simp only [List.headD_cons, List.tail_cons]; rw [jn] at ih ⊢; rw [List.cons_append, ih]
theorem spl_len (c : UInt8) : ∀ l : List UInt8, (spl c l).length = l.count c + 1
  | [] => rfl
  | b :: l => by
    rw [spl]
    have ih := spl_len c l
    split
    · rename_i e; subst e; simp [ih]
    · rename_i hb; simp only [List.length_cons, List.length_tail, ih]; rw [List.count_cons_of_ne hb]; omega
/-- Every piece is no longer than the whole. -/
theorem spl_le {c : UInt8} : ∀ {l : List UInt8} {x : List UInt8}, x ∈ spl c l → x.length ≤ l.length
  | [], x, h => by simp [spl] at h; subst h; simp
  | b :: l, x, h => by
    rw [spl] at h
    split at h
    · rcases List.mem_cons.1 h with rfl | h
      · simp
      · have := spl_le h; simp; omega
    · rcases List.mem_cons.1 h with rfl | h
      · have := spl_le (l := l) (x := (spl c l).headD []) (by rw [spl_cons]; simp)
        simp only [List.length_cons]; omega
      · have := spl_le (c := c) (l := l) (x := x) (by rw [spl_cons]; exact List.mem_cons_of_mem _ h); simp; omega

/-! the library's words for the same -/
theorem index_cases (c : UInt8) : ∀ l : List UInt8, (Lib.index l [c] = -1 ∧ c ∉ l) ∨ ∃ x y, l = x ++ c :: y ∧ c ∉ x ∧ Lib.index l [c] = (x.length : Int)
  | [] => .inl ⟨rfl, by simp⟩
  | b :: l => by
    rw [Lib.index_one]
    unfold Lib.indexByte
    by_cases hb : b = c
    · subst hb; exact .inr ⟨[], l, rfl, by simp, by simp⟩
    · rw [if_neg (by simpa using hb), ← Lib.index_one]
      rcases index_cases c l with ⟨e, h⟩ | ⟨x, y, rfl, h, e⟩
      · rw [e]; exact .inl ⟨rfl, by simp [h, Ne.symm hb]⟩
      · refine .inr ⟨b :: x, y, rfl, by simp [h, Ne.symm hb], ?_⟩
        rw [e, if_neg (by simp)]; simp
theorem splitK_spl (c : UInt8) : ∀ (k : Nat) (l : List UInt8), l.count c = k → Lib.splitK [c] 0 k l = spl c l
  | 0, l, h => by rw [spl_one (by simpa [List.count_eq_zero] using h)]; rfl
  | k + 1, l, h => by
    rcases index_cases c l with ⟨_, hn⟩ | ⟨x, y, rfl, hx, e⟩
    · rw [List.count_eq_zero.2 hn] at h; omega
    · rw [Lib.splitK, e, if_neg (by simp), spl_app _ hx]
      have hc : y.count c = k := by simpa [List.count_eq_zero.2 hx] using h
      have e2 : (x ++ c :: y).drop (((x.length : Nat) : Int).toNat + [c].length) = y := by
        simp [List.drop_append]
      rw [e2, splitK_spl c k y hc]; simp
theorem split_spl (c : UInt8) (s : ByteArray) : (Lib.splitB ⟨#[c]⟩ 0 (Lib.countB s ⟨#[c]⟩) s).map Value.string = (spl c s.data.toList).map fun l => Value.string ⟨l.toArray⟩ := by
  have h1 := Lib.splitB_data ⟨#[c]⟩ 0 (Lib.countB s ⟨#[c]⟩) s
  have h2 : Lib.countB s ⟨#[c]⟩ = s.data.toList.count c := Lib.count_one c _
  rw [h2] at h1 ⊢
  have h3 : Lib.splitK [c] 0 (s.data.toList.count c) s.data.toList = spl c s.data.toList := splitK_spl c _ _ rfl
  rw [← h3]
  rw [show (ByteArray.mk #[c]).data.toList = [c] from rfl] at h1
  rw [← h1, List.map_map]
  refine List.map_congr_left fun a _ => ?_
  simp only [Function.comp]
theorem countB_spl (c : UInt8) (s : ByteArray) : Lib.countB s ⟨#[c]⟩ + 1 = (spl c s.data.toList).length := by
  rw [spl_len]; exact congrArg (· + 1) (Lib.count_one c _)
/-- a cut at the first c -/
theorem cut_one (c : UInt8) (l : List UInt8) : (c ∉ l ∧ Lib.cut l [c] = (l, [], false)) ∨ ∃ x y, l = x ++ c :: y ∧ c ∉ x ∧ Lib.cut l [c] = (x, y, true) := by
  rcases index_cases c l with ⟨e, h⟩ | ⟨x, y, rfl, h, e⟩
  · refine .inl ⟨h, ?_⟩
    rw [Lib.cut, e, if_neg (by decide)]
  · refine .inr ⟨x, y, rfl, h, ?_⟩
    rw [Lib.cut, e, if_pos (by omega)]
    simp [List.drop_append]

/-! numerals -/
theorem parse_app : ∀ (l m : List UInt8) (a : Nat), Lib.parseUint10 a (l ++ m) = (match Lib.parseUint10 a l with | .ok v => Lib.parseUint10 v m | x => x)
  | [], m, a => rfl
  | c :: l, m, a => by
    simp only [List.cons_append, Lib.parseUint10]
    split
    · split
      · rfl
      · split
        · rfl
        · exact parse_app l m _
    · rfl
theorem dig_byte {d : Nat} (h : d < 10) : (UInt8.ofNat (48 + d)).toNat = 48 + d := by simp; omega
theorem parse_dec : ∀ (u : Nat), u < 18446744073709551616 → Lib.parseUint10 0 (Lib.decDigits u) = .ok u := fun u => by
  induction u using Nat.strongRecOn with
  | _ u ih =>
    intro hu
    by_cases h : u < 10
    · rw [Lib.decDigits_one h, Lib.parseUint10, dig_byte h, if_pos (by omega), if_neg (by omega), if_neg (by omega)]
      simp [Lib.parseUint10]
    · rw [Lib.decDigits, dif_neg h, parse_app, ih (u / 10) (by omega) (by omega)]
      simp only [Lib.parseUint10]
      rw [dig_byte (by omega), if_pos (by omega), if_neg (by omega), if_neg (by omega)]
      congr 1; omega
theorem dec_bytes (u : Nat) : ∀ b ∈ Lib.decDigits u, 48 ≤ b.toNat ∧ b.toNat ≤ 57 := by
  induction u using Nat.strongRecOn with
  | _ u ih =>
    intro b hb
    by_cases h : u < 10
    · rw [Lib.decDigits_one h, List.mem_singleton] at hb; subst hb; rw [dig_byte h]; omega
    · rw [Lib.decDigits, dif_neg h] at hb
      rcases List.mem_append.1 hb with hb | hb
      · exact ih _ (by omega) b hb
      · rw [List.mem_singleton] at hb; subst hb; rw [dig_byte (by omega)]; omega
theorem dec_cons (u : Nat) : ∃ c r, Lib.decDigits u = c :: r := by
  have := Lib.decDigits_length u
  cases h : Lib.decDigits u with
  | nil => rw [h] at this; simp at this; have := Lib.nDigits_pos u; omega
  | cons c r => exact ⟨c, r, rfl⟩
theorem itoa_bytes {n : Int} : ∀ b ∈ Lib.itoa n, b.toNat = 45 ∨ (48 ≤ b.toNat ∧ b.toNat ≤ 57) := by
  intro b hb
  unfold Lib.itoa at hb
  split at hb
  · rcases List.mem_cons.1 hb with rfl | hb
    · exact .inl rfl
    · exact .inr (dec_bytes _ b hb)
  · exact .inr (dec_bytes _ b hb)
theorem itoa_no {n : Int} (c : UInt8) (h : c = 10 ∨ c = 32 ∨ c = 61) : c ∉ Lib.itoa n := fun m => by
  have := itoa_bytes c m
  rcases h with rfl | rfl | rfl <;> simp at this
theorem atoi_itoa {n : Int} (h0 : -9223372036854775808 ≤ n) (h1 : n ≤ 9223372036854775807) : Lib.atoiAll (Lib.itoa n) = .ok n := by
  unfold Lib.itoa
  split
  · rename_i hn
    rw [Lib.atoiAll_minus]
    obtain ⟨c, r, hd⟩ := dec_cons n.natAbs
    have hp := parse_dec n.natAbs (by omega)
    rw [hd] at hp ⊢
    rw [Lib.parseMag, if_neg (by simp), hp]
    simp only [Lib.signed]
    rw [if_neg (by omega)]; congr 1; omega
  · rename_i hn
    obtain ⟨c, r, hd⟩ := dec_cons n.toNat
    have hc := dec_bytes n.toNat c (by rw [hd]; simp)
    have hp := parse_dec n.toNat (by omega)
    rw [hd] at hp ⊢
    rw [Lib.atoiAll_plain _ _ (by omega) (by omega), Lib.parseMag, if_neg (by simp), hp]
    simp only [Lib.signless]
    rw [if_neg (by omega)]; congr 1; omega
/-- small numbers, short numerals -/
theorem dec_len {u k : Nat} (h : u < 10 ^ (k + 1)) : (Lib.decDigits u).length ≤ k + 1 := by
  rw [Lib.decDigits_length]
  induction k generalizing u with
  | zero => rw [Lib.nDigits_small (by simpa using h)]; omega
  | succ k ih =>
    by_cases h1 : u < 10
    · rw [Lib.nDigits_small h1]; omega
    · rw [Lib.nDigits_big h1]
      have := ih (u := u / 10) (by rw [Nat.pow_succ] at h; omega)
      omega
end Go.Proofs.YtndhomjfjhohoaaGreatDoor

/- The contracts of Row, Remove, Set and Column of the reference's table. -/
import Derived.Test.YtdlbljheobkfaaaRefTable
import Derived.Test.YtdlbljheobkfaaaTableSet
namespace Go.Proofs.Ytdlbljheobkfaaa
open Go.RowKit

theorem len_pred {α : Type} {xs : List α} {i : Nat} (h : i < xs.length) : inB (i : Int) 0 (xs.length - 1) = true := by simp [inB]; omega

set_option maxHeartbeats 2000000 in
theorem refRow_any (q : Nat) (G : Nat → Prop) (m : Int) (rows : List Rw) (i : Int) (r : Rw) (x : Int) (w : World) (h : RefTab w q G m rows) (hr : rowR rows i = r) (hx : rowE rows i = x) :
    Calls Try.prog 15 #[.pointer (some ⟨q, 0, none⟩), .int .i64 i] w fun e w' => e = .returned (.tuple #[.agg #[.int .i64 r.s, .int .i64 r.g, .int .i64 r.m, .int .i64 (r.f 0), .int .i64 (r.f 1), .int .i64 (r.f 2), .int .i64 (r.f 3), .int .i64 (r.f 4), .int .i64 (r.f 5), .int .i64 (r.f 6), .int .i64 (r.f 7)], .int .i64 x]) ∧ Below w.heap.size w w' := by
  obtain ⟨v, hc, -⟩ := h
  have hql := hc.lt
  have cq := hc.cell
  obtain ⟨a, cap, hv, _, hcm, _⟩ := hc.own.reads
  have hll : rows.length ≤ maxLen := by omega
  unfold maxLen at hll
  cases hi : inB i 0 (rows.length - 1)
  · obtain ⟨h1, h2⟩ := rowR_out hi
    rw [h1] at hr; rw [h2] at hx
    subst hr hx hv
    have HI := Lib.hid hi
    clear hc hi h1 h2
    go_enter Try.func15, Try.ntmps15
    go_wp2_with fail
    refine (outside_any _ _ _ _).mono ?_
    rintro e w' ⟨rfl, rfl⟩
    rw [HI.out]
    go_wp2
    refine bodyPost_ret (v := .tuple #[.agg #[.int .i64 rowZ.s, .int .i64 rowZ.g, .int .i64 rowZ.m, .int .i64 (rowZ.f 0), .int .i64 (rowZ.f 1), .int .i64 (rowZ.f 2), .int .i64 (rowZ.f 3), .int .i64 (rowZ.f 4), .int .i64 (rowZ.f 5), .int .i64 (rowZ.f 6), .int .i64 (rowZ.f 7)], .int .i64 5]) (by simp [results, Try.results15, go_sem, rowZ]) rfl ⟨rfl, nb_alloc (Below.refl _ _) _⟩
  · obtain ⟨b1, b2⟩ := inB_t hi
    obtain ⟨k, rfl⟩ := Int.eq_ofNat_of_zero_le b1
    have hk : k < rows.length := by omega
    obtain ⟨h1, h2⟩ := rowR_in hk
    rw [h1] at hr; rw [h2] at hx
    subst hx
    obtain ⟨g, cap', rfl, _, hgl, hlc, hcm', -, hcc⟩ := hc.own.at11 (by omega)
    have hck := hcc k hk
    rw [hr] at hck
    have c0 : w.cell? ⟨g, k * 11, none⟩ = some (.int .i64 r.s) := hck 0 (by decide)
    have c1 : w.cell? ⟨g, k * 11 + 1, none⟩ = some (.int .i64 r.g) := hck 1 (by decide)
    have c2 : w.cell? ⟨g, k * 11 + 2, none⟩ = some (.int .i64 r.m) := hck 2 (by decide)
    have c3 : w.cell? ⟨g, k * 11 + 3, none⟩ = some (.int .i64 (r.f 0)) := hck 3 (by decide)
    have c4 : w.cell? ⟨g, k * 11 + 4, none⟩ = some (.int .i64 (r.f 1)) := hck 4 (by decide)
    have c5 : w.cell? ⟨g, k * 11 + 5, none⟩ = some (.int .i64 (r.f 2)) := hck 5 (by decide)
    have c6 : w.cell? ⟨g, k * 11 + 6, none⟩ = some (.int .i64 (r.f 3)) := hck 6 (by decide)
    have c7 : w.cell? ⟨g, k * 11 + 7, none⟩ = some (.int .i64 (r.f 4)) := hck 7 (by decide)
    have c8 : w.cell? ⟨g, k * 11 + 8, none⟩ = some (.int .i64 (r.f 5)) := hck 8 (by decide)
    have c9 : w.cell? ⟨g, k * 11 + 9, none⟩ = some (.int .i64 (r.f 6)) := hck 9 (by decide)
    have c10 : w.cell? ⟨g, k * 11 + 10, none⟩ = some (.int .i64 (r.f 7)) := hck 10 (by decide)
    have HI := Lib.hid hi
    have hwg : ¬ w.heap.size = g := by omega
    have hgw : ¬ g = w.heap.size := by omega
    clear hc hi h1 h2 hcc hck hr hv
    unfold maxLen at hcm'
    go_enter Try.func15, Try.ntmps15
    go_wp2_with fail
    refine (outside_any _ _ _ _).mono ?_
    rintro e w' ⟨rfl, rfl⟩
    rw [HI.out]
    go_wp2
    refine bodyPost_ret (v := .tuple #[.agg #[.int .i64 r.s, .int .i64 r.g, .int .i64 r.m, .int .i64 (r.f 0), .int .i64 (r.f 1), .int .i64 (r.f 2), .int .i64 (r.f 3), .int .i64 (r.f 4), .int .i64 (r.f 5), .int .i64 (r.f 6), .int .i64 (r.f 7)], .int .i64 0]) (by simp [results, Try.results15, go_sem]) rfl ⟨rfl, nb_alloc (Below.refl _ _) _⟩

theorem row_at (r : Rw) (j : Nat) (h : j < 8) : (#[.int .i64 r.s, .int .i64 r.g, .int .i64 r.m, .int .i64 (r.f 0), .int .i64 (r.f 1), .int .i64 (r.f 2), .int .i64 (r.f 3), .int .i64 (r.f 4), .int .i64 (r.f 5), .int .i64 (r.f 6), .int .i64 (r.f 7)] : Array Value)[3 + j]? = some (.int .i64 (r.f j)) := by
  obtain rfl | rfl | rfl | rfl | rfl | rfl | rfl | rfl : j = 0 ∨ j = 1 ∨ j = 2 ∨ j = 3 ∨ j = 4 ∨ j = 5 ∨ j = 6 ∨ j = 7 := by omega
  all_goals rfl

def RRemPost (w : World) (q : Nat) (G : Nat → Prop) (m : Int) (rows : List Rw) (i : Int) (r : Rw) (x : Int) (e : Ending) (w' : World) : Prop :=
  e = .returned (.tuple #[.agg #[.int .i64 r.s, .int .i64 r.g, .int .i64 r.m, .int .i64 (r.f 0), .int .i64 (r.f 1), .int .i64 (r.f 2), .int .i64 (r.f 3), .int .i64 (r.f 4), .int .i64 (r.f 5), .int .i64 (r.f 6), .int .i64 (r.f 7)], .int .i64 x]) ∧ ∃ G', RefTab w' q G' m (remL rows i) ∧ Kept G w w' ∧ Moves w G G'

def RSetPost (w : World) (q : Nat) (G : Nat → Prop) (m : Int) (rows : List Rw) (i k n : Int) (e : Ending) (w' : World) : Prop :=
  e = .returned (.int .i64 (setE m rows i k n)) ∧ ∃ G', RefTab w' q G' m (setL m rows i k n) ∧ Kept G w w' ∧ Moves w G G'

set_option maxHeartbeats 2000000 in
theorem refColumn_any (q : Nat) (G : Nat → Prop) (m : Int) (rows : List Rw) (k : Int) (w : World) (h : RefTab w q G m rows) (hl : rows.length * 88 ≤ 140737488355328) :
    Calls Try.prog 17 #[.pointer (some ⟨q, 0, none⟩), .int .i64 k] w fun e w' => ∃ v, e = .returned (.tuple #[v, .int .i64 (colE m k)]) ∧ OwnsF elInt w' w.heap.size 3 v (colL m rows k) ∧ Below w.heap.size w w' := by
  obtain ⟨i0, hi0, hz0, hz1, hz2⟩ := info_parts infoInt
  obtain ⟨v, hc, -⟩ := h
  have hql := hc.lt
  have cq := hc.cell
  have c0 := RefTab.cell0 hc
  cases hk : inB k 0 7
  · have hE : colE m k = 1 := by rw [colE, hk]; rfl
    have HP : Hid (∃ v, Ending.returned (.tuple #[.slice none 0 0, .int .i64 1]) = .returned (.tuple #[v, .int .i64 (colE m k)]) ∧ OwnsF elInt w w.heap.size 3 v (colL m rows k) ∧ Below w.heap.size w w) := Lib.hid ⟨.slice none 0 0, by rw [hE], by rw [colL, hE]; exact OwnsF.nil _ _ _ _, Below.refl _ _⟩
    have HI := Lib.hid hk
    clear hc hk hE
    go_enter Try.func17, Try.ntmps17
    go_wp2_with fail
    refine (outside_any _ _ _ _).mono ?_
    rintro e w' ⟨rfl, rfl⟩
    rw [HI.out]
    go_wp2
    go_ret2
    exact HP.out
  · obtain ⟨b1, b2⟩ := inB_t hk
    obtain ⟨j, rfl⟩ := Int.eq_ofNat_of_zero_le b1
    cases ht : tb m j
    · have hE : colE m j = 5 := by rw [colE, hk, Int.toNat_natCast, ht]; rfl
      have HP : Hid (∃ v, Ending.returned (.tuple #[.slice none 0 0, .int .i64 5]) = .returned (.tuple #[v, .int .i64 (colE m j)]) ∧ OwnsF elInt w w.heap.size 3 v (colL m rows j) ∧ Below w.heap.size w w) := Lib.hid ⟨.slice none 0 0, by rw [hE], by rw [colL, hE]; exact OwnsF.nil _ _ _ _, Below.refl _ _⟩
      have HI := Lib.hid hk
      have HTB := Lib.hid ht
      clear hc hk hE ht
      go_enter Try.func17, Try.ntmps17
      go_wp2_with fail
      refine (outside_any _ _ _ _).mono ?_
      rintro e w' ⟨rfl, rfl⟩
      rw [HI.out]
      go_wp2_with fail
      refine (refHasKind_any _ _ _ (by omega) (by omega)).mono ?_
      rintro e w' ⟨rfl, rfl⟩
      rw [Int.toNat_natCast, HTB.out]
      go_wp2
      go_ret2
      exact HP.out
    · have hE : colE m j = 0 := by rw [colE, hk, Int.toNat_natCast, ht]; rfl
      have HP : Hid (∀ v w', OwnsF elInt w' w.heap.size 3 v (colOf rows j) → Below w.heap.size w w' → ∃ v', Ending.returned (.tuple #[v, .int .i64 0]) = .returned (.tuple #[v', .int .i64 (colE m j)]) ∧ OwnsF elInt w' w.heap.size 3 v' (colL m rows j) ∧ Below w.heap.size w w') := Lib.hid (fun v w' ho hb => ⟨v, by rw [hE], by rw [colL, if_pos hE, Int.toNat_natCast]; exact ho, hb⟩)
      have HI := Lib.hid hk
      have HTB := Lib.hid ht
      obtain ⟨hm, hop⟩ := hc.own.reads.open
      unfold maxLen at hm
      clear hc hk hE ht
      generalize hn : rows.length = n at *
      have HN := Lib.hid hn
      clear hn
      have hj7 : j < 8 := by omega
      rcases hop with ⟨a, cap, rfl, hz⟩ | ⟨b, off, cap, rfl, hb, hlc, hcm, hcc⟩
      all_goals
        go_enter Try.func17, Try.ntmps17
        go_wp2_with fail
        refine (outside_any _ _ _ _).mono ?_
        rintro e w' ⟨rfl, rfl⟩
        rw [HI.out]
        go_wp2_with fail
        refine (refHasKind_any _ _ _ (by omega) (by omega)).mono ?_
        rintro e w' ⟨rfl, rfl⟩
        rw [Int.toNat_natCast, HTB.out]
        go_wp2
        go_loopw [6, 23] (fun u i wr => ∃ t : Nat, t ≤ n ∧ i = .int .i64 t ∧ Hid (OwnsF elInt wr w.heap.size 3 u (colOf (rows.take t) j)) ∧ Hid (Below w.heap.size w wr)) (fun _ i _ => n - (intOf i).toNat)
        case atStart => exact ⟨0, by omega, rfl, OwnsF.nil _ _ _ _, Below.refl _ _⟩
        case round =>
          obtain ⟨t, htn, rfl, hO, hB⟩ := hrel
          by_cases hlt : t < n
          · first
              | omega
              | (have hck := hcc t hlt
                 have hcr : ∀ jj, jj < 11 → wr.cell? ⟨b, off + t * 11 + jj, none⟩ = (elRow.enc (rows.getD t rowZ))[jj]? := fun jj hjj => by rw [hB.out.cell (p := ⟨b, _, none⟩) hb]; exact hck jj hjj
                 have HTK : Hid (colOf (rows.take (t + 1)) j = colOf (rows.take t) j ++ [(rows.getD t rowZ).f j]) := Lib.hid (by
                   have hlt' : t < rows.length := by rw [HN.out]; exact hlt
                   rw [List.take_add_one, List.getElem?_eq_getElem hlt', List.getD_eq_getElem?_getD, List.getElem?_eq_getElem hlt', Option.toList_some, colOf_snoc]; rfl)
                 have HLEN : Hid ((colOf (rows.take t) j).length = t) := Lib.hid (by rw [colOf_len, List.length_take, HN.out]; omega)
                 generalize rows.getD t rowZ = r at *
                 have c0' : wr.cell? ⟨b, off + t * 11, none⟩ = some (.int .i64 r.s) := hcr 0 (by decide)
                 have c1' : wr.cell? ⟨b, off + t * 11 + 1, none⟩ = some (.int .i64 r.g) := hcr 1 (by decide)
                 have c2' : wr.cell? ⟨b, off + t * 11 + 2, none⟩ = some (.int .i64 r.m) := hcr 2 (by decide)
                 have c3' : wr.cell? ⟨b, off + t * 11 + 3, none⟩ = some (.int .i64 (r.f 0)) := hcr 3 (by decide)
                 have c4' : wr.cell? ⟨b, off + t * 11 + 4, none⟩ = some (.int .i64 (r.f 1)) := hcr 4 (by decide)
                 have c5' : wr.cell? ⟨b, off + t * 11 + 5, none⟩ = some (.int .i64 (r.f 2)) := hcr 5 (by decide)
                 have c6' : wr.cell? ⟨b, off + t * 11 + 6, none⟩ = some (.int .i64 (r.f 3)) := hcr 6 (by decide)
                 have c7' : wr.cell? ⟨b, off + t * 11 + 7, none⟩ = some (.int .i64 (r.f 4)) := hcr 7 (by decide)
                 have c8' : wr.cell? ⟨b, off + t * 11 + 8, none⟩ = some (.int .i64 (r.f 5)) := hcr 8 (by decide)
                 have c9' : wr.cell? ⟨b, off + t * 11 + 9, none⟩ = some (.int .i64 (r.f 6)) := hcr 9 (by decide)
                 have c10' : wr.cell? ⟨b, off + t * 11 + 10, none⟩ = some (.int .i64 (r.f 7)) := hcr 10 (by decide)
                 have hbw : b < wr.heap.size := Nat.lt_of_lt_of_le hb hB.out.size
                 have hv8 := row_at r j hj7
                 have hcv : (wr.alloc (.cells #[.int .i64 r.s, .int .i64 r.g, .int .i64 r.m, .int .i64 (r.f 0), .int .i64 (r.f 1), .int .i64 (r.f 2), .int .i64 (r.f 3), .int .i64 (r.f 4), .int .i64 (r.f 5), .int .i64 (r.f 6), .int .i64 (r.f 7)] 41)).cell? ⟨wr.heap.size, 3 + j, none⟩ = some (.int .i64 (r.f j)) := by rw [cell_of_row _ _ _ _ _ _ (heap_alloc_new wr _)]; exact hv8
                 clear hcc hck hcr hv8
                 go_wp2_with (first | (at_builtin; refine wpList_append_own _ rfl _ _ 45 rfl w.heap.size 3 i0 (.int .i64 0) 1 8 Try.underlying45 hi0 hz0 hz1 hz2 rfl (by decide) _ _ _ rfl (World.ownsRow.alloc (World.ownsRow.alloc hO.out _) _) ⟨wr.heap.size + 1, 0, none⟩ 1 1 [.int .i64 (r.f j)] rfl rfl (by exact World.news_of_block (heap_alloc2_new wr _ _)) (by intro u hu; simp at hu; subst hu; rfl) (by rw [HLEN.out]; unfold maxLen; omega) (by rw [HLEN.out]; omega) (by have := hB.out.size; simp; omega) ?_))
                 intro v' w2 hown hgr _
                 have HO2 : Hid (OwnsF elInt w2 w.heap.size 3 v' (colOf (rows.take t) j ++ [r.f j])) := Lib.hid (OwnsF.snoc (x := r.f j) hown)
                 have HB2 : Hid (Below w.heap.size w w2) := Lib.hid ((nb_alloc (nb_alloc hB.out _) _).grown hgr (by have := hB.out.size; simp; omega) (fun jj hjj => hO.out.ge hjj))
                 clear hown hgr
                 go_wp2
                 go_roundw
                 case rel => exact ⟨t + 1, by omega, by go_num, by rw [HTK.out]; exact HO2, HB2⟩
                 case measure => simp [intOf]; omega)
          · obtain rfl : t = n := by omega
            have HALL : Hid (colOf (rows.take t) j = colOf rows j) := Lib.hid (by rw [List.take_of_length_le (by rw [HN.out]; exact Nat.le_refl _)])
            go_wp2
            go_ret2
            exact HP.out _ _ (by rw [← HALL.out]; exact hO.out) hB.out
end Go.Proofs.Ytdlbljheobkfaaa

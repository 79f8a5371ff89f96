/- The contracts of maps.Clone and maps.Copy at maps of entities, of rows of package diff. -/
import Derived.Shelf.SlMaps.Clone
import Derived.Test.YtnmlapoiilckhaaDoorDiffProg
import Derived.Test.YtnmlapoiilckhaaDoorDiffSort
namespace Go.Proofs.YtnmlapoiilckhaaDoor
set_option maxRecDepth 8000
open Go.RowKit Go.Maps Go.ChangeMaps Go.Shelf

def cloneLay_ren : Go.Shelf.Ren := ⟨fun | 5 => 19 | 7 => 36 | n => n, fun | 4 => 4 | 20 => 20 | 23 => 46 | 25 => 28 | 3 => 31 | n => n, fun | n => n⟩
theorem cloneLay : Go.Proofs.SlLaysW.n5 Tryd.prog cloneLay_ren := {
  mixed := by kernel_rfl
  f5 := ⟨Tryd.f19.name, by decide, Tryd.func19.trans (congrArg some (by kernel_rfl))⟩
  f7 := Tryd.func36.trans (congrArg some (by kernel_rfl))
  t4 := Tryd.underlying4
  a4 := Tryd.isAgg4
  z4 := Tryd.sizeOf4
  v4 := Tryd.zeroValue4
  t20 := Tryd.underlying20
  a20 := Tryd.isAgg20
  z20 := Tryd.sizeOf20
  v20 := Tryd.zeroValue20
  t23 := Tryd.underlying46
  a23 := Tryd.isAgg46
  z23 := Tryd.sizeOf46
  v23 := Tryd.zeroValue46 }
theorem clone_any (b n : Nat) (M : Hd → Be) (w : World) (h : MapF w b n M) :
    Calls Tryd.prog 19 #[.map (some b)] w fun e w' => e = .returned (.map (some w.heap.size)) ∧ MapF w' w.heap.size n M ∧ Below w.heap.size w w' := by
  obtain ⟨ks, f, ⟨D, ho, rest⟩, r2⟩ := h
  have hcon := AnyW.maps_Clone_owns cloneLay 28 heldR b ks.length D w ho
  change Calls Tryd.prog 19 _ _ _ at hcon
  exact hcon.mono fun e w' ⟨he, h1, _, h3⟩ => ⟨he, ⟨ks, f, ⟨D, h1, rest⟩, r2⟩, h3⟩
theorem MapIs.lenB {k t e : TypeId} {α : Type} {K : KeyEnc α k} {w : World} {b n : Nat} {ks : List α} {f : α → Value} (h : MapIs K w b n ks f) (ht : Tryd.prog.underlying t = some (.map k e)) (ty : TypeId) : (Builtin.len_ #[t] ty #[.map (some b)]).run Tryd.prog w = .ok (.int .i64 (ks.length : Int)) w := by
  obtain ⟨D, ho, _, _, _, _, hs⟩ := h
  rw [ho.len ht ty, hs]
set_option maxHeartbeats 4000000 in
theorem copyM_any (d s nd ns : Nat) (M N : Hd → Be) (w : World) (hd : MapF w d nd M) (hs : MapF w s ns N) (hne : d ≠ s) (hroom : nd + ns < maxLen) :
    Calls Tryd.prog 20 #[.map (some d), .map (some s)] w fun e w' => e = .returned (.tuple #[]) ∧ MapF w' d (nd + ns) (fun h => if N h = noB then M h else N h) ∧ Kept (fun q => q = d) w w' := by
  have hdl := hd.lt
  obtain ⟨ks, f, hm, hkn, hp, hf⟩ := hs
  have hsl := hm.lt
  have HM := Lib.hid hm
  have HD := Lib.hid hd
  have HP := Lib.hid hp
  have HF := Lib.hid hf
  obtain ⟨nk, hnk⟩ : ∃ nk, ks.length = nk := ⟨_, rfl⟩
  have HNK := Lib.hid hnk
  rw [hnk] at hkn
  clear hm hd hp hf hnk
  go_enter Tryd.func20, Tryd.ntmps20
  go_wp2_with (first | (at_range; refine wpList_range_is (K := kHand) _ rfl _ 46 rfl _ Tryd.underlying46 rfl HM.out ?_))
  intro w2 hrg hb2 hsz2
  have HRG := Lib.hid hrg
  have HB2 := Lib.hid hb2
  have HD2 : Hid (MapF w2 d nd (fun h => if h ∈ ks ∧ ¬ h ∈ ks then N h else M h)) := Lib.hid ((HD.out.later hb2).congr (fun x => by rw [if_neg (fun h => h.2 h.1)]))
  have HS2 : Hid (w.heap.size < w2.heap.size) := Lib.hid (by omega)
  have HK2 : Hid (Kept (fun q => q = d) w w2) := Lib.hid (Kept.ofBelow hb2)
  clear hrg hb2 hsz2
  go_wp2
  go_loopw [8] (fun _ wr => ∃ (todo : List Hd) (cnt cm : Nat), cm + cnt ≤ nd + nk ∧ Hid (RangeIs kHand wr s w.heap.size ks.length ks f todo cnt) ∧ Hid (MapF wr d cm (fun h => if h ∈ ks ∧ ¬ h ∈ todo then N h else M h)) ∧ Hid (Kept (fun q => q = d) w wr)) (fun _ wr => wr.rangeLeft s w.heap.size)
  case atStart => exact ⟨ks, ks.length, nd, by rw [HNK.out]; exact Nat.le_refl _, HRG, HD2, HK2⟩
  case round =>
    obtain ⟨todo, cnt, cm, hmc, hR, hD, hK⟩ := hrel
    go_wp2_with (first | (at_next; refine wpList_next_is (K := kHand) _ rfl _ rfl rfl hR.out ?_ ?_))
    case refine_1 =>
      rintro rfl
      have HE : Hid (MapF wr d (nd + ns) (fun h => if N h = noB then M h else N h)) := Lib.hid ((hD.out.mono (by omega)).congr (fun x => by
        by_cases e : x ∈ ks
        · rw [if_pos ⟨e, by simp⟩, if_neg ((HP.out x).1 e)]
        · rw [if_neg (fun h => e h.1), if_pos (Decidable.byContradiction fun h => e ((HP.out x).2 h))]))
      clear HRG HD2 HK2
      go_wp2
      go_end0
      exact ⟨rfl, HE.out, hK.out⟩
    case refine_2 =>
      intro k1 k2 w4 cnt' hkt hkm hrg hlt hkp hsz4 hen
      obtain ⟨y, hy⟩ : ∃ y, N (k1, k2) = y := ⟨_, rfl⟩
      have hfk := HF.out (k1, k2) hkm
      have hyn := (HP.out (k1, k2)).1 hkm
      rw [hy] at hfk hyn
      rw [hfk] at hen ⊢
      have hkok : kHand.ok (k1, k2) := HM.out.okAt hkm
      obtain ⟨m, a0, a1, a2, a3, a4, a5, a6, a7⟩ := y
      have hszw := hkp.size
      have hD4 := hD.out.kept hkp (by omega : ¬ d = w.heap.size)
      have HRG4 := Lib.hid hrg
      have HK4 : Hid (Kept (fun q => q = d) w w4) := Lib.hid (hK.out.trans hkp (fun i e => .inr (by omega)))
      have HLT := Lib.hid hlt
      have HD4 := Lib.hid hD4
      have HY := Lib.hid hy
      have HYN := Lib.hid hyn
      have HKOK := Lib.hid hkok
      have HKM := Lib.hid hkm
      have HDX : Hid (∀ o o', MapF ((w4.alloc o).alloc o') d cm (fun h => if h ∈ ks ∧ ¬ h ∈ todo then N h else M h)) := Lib.hid (fun o o' => HD4.out.later (nb_alloc (nb_alloc (Below.refl _ _) _) _))
      have HRX : Hid (∀ o o', RangeIs kHand ((w4.alloc o).alloc o') s w.heap.size ks.length ks f _ cnt') := Lib.hid (fun o o' => HRG4.out.later (nb_alloc (nb_alloc (Below.refl _ _) _) _))
      have HKX : Hid (∀ o o', Kept (fun q => q = d) w ((w4.alloc o).alloc o')) := Lib.hid (fun o o' => HK4.out.trans (Kept.ofBelow (nb_alloc (nb_alloc (Below.refl _ _) _) _)) (fun i e => .inl e))
      replace hen : (Instr.entry (.pointer (some ⟨w.heap.size, 0, none⟩))).run Tryd.prog w4 = .ok (.tuple #[.agg #[.int .i64 k1, .int .i64 k2], .agg #[.int .i64 m, .int .i64 a0, .int .i64 a1, .int .i64 a2, .int .i64 a3, .int .i64 a4, .int .i64 a5, .int .i64 a6, .int .i64 a7]]) w4 := hen
      simp only [show kHand.val (k1, k2) = .agg #[.int .i64 k1, .int .i64 k2] from rfl]
      clear hrg hlt hD4 hkp hsz4 hfk hyn hy HRG HD2 HK2 hkok hkm HRG4 HD4 HK4
      go_wp2_with (at_mapUpdate; refine wpList_putF _ rfl _ _ _ 46 rfl 31 Tryd.underlying46 rfl (HDX.out _ _) (by omega) (k1, k2) HKOK.out (m, a0, a1, a2, a3, a4, a5, a6, a7) HYN.out rfl rfl ?_)
      intro w6 hM6 hk6
      have hRX := (HRX.out _ _).kept hk6 (by omega) (by omega)
      have hKX := (HKX.out _ _).trans hk6 (fun i e => .inl e)
      have HRN := Lib.hid hRX
      have HKN := Lib.hid hKX
      have HMN := Lib.hid (hM6.congr (N := fun h => if h ∈ ks ∧ ¬ h ∈ todo.filter (fun y => !decide (y = (k1, k2))) then N h else M h) (fun x => by
        by_cases e : x = (k1, k2)
        · subst e
          rw [if_pos rfl, if_pos ⟨HKM.out, fun h => by simp at h⟩, HY.out]
        · rw [if_neg e]
          by_cases e2 : x ∈ ks ∧ ¬ x ∈ todo
          · rw [if_pos e2, if_pos ⟨e2.1, fun h => e2.2 (List.mem_filter.1 h).1⟩]
          · rw [if_neg e2, if_neg (fun h => e2 ⟨h.1, fun h3 => h.2 (List.mem_filter.2 ⟨h3, by simpa using e⟩)⟩)]))
      clear hM6 hk6 hRX hKX
      go_wp2
      go_roundw
      case rel => exact ⟨_, cnt', cm + 1, by have := HLT.out; omega, HRN, HMN, HKN⟩
      case measure => rw [HRN.out.left_eq, hR.out.left_eq]; exact HLT.out

/-- the rows that have been met in a loop over a map -/
def Got (ks : List Hd) (M : Hd → Be) (todo : List Hd) (ys : List Ro) : Prop := (ys.map (·.1)).Nodup ∧ ∀ r : Ro, r ∈ ys ↔ (r.1 ∈ ks ∧ ¬ r.1 ∈ todo ∧ r.2 = M r.1)
theorem Got.start (ks : List Hd) (M : Hd → Be) : Got ks M ks [] := ⟨by simp, fun r => by simp; intro h1 h2; exact absurd h1 h2⟩
theorem Got.next {ks todo : List Hd} {M : Hd → Be} {ys : List Ro} {x : Hd} (h : Got ks M todo ys) (ht : x ∈ todo) (hk : x ∈ ks) : Got ks M (todo.filter (fun y => !decide (y = x))) (ys ++ [(x, M x)]) := by
  obtain ⟨h1, h2⟩ := h
  have hmem : ∀ y, y ∈ todo.filter (fun y => !decide (y = x)) ↔ y ∈ todo ∧ y ≠ x := fun y => by rw [List.mem_filter]; simp
  refine ⟨?_, fun r => ?_⟩
  · rw [List.map_append, List.nodup_append]
    refine ⟨h1, by simp, fun a ha b hb e => ?_⟩
    simp at hb
    subst hb
    obtain ⟨r, hr, rfl⟩ := List.mem_map.1 ha
    exact ((h2 r).1 hr).2.1 (e ▸ ht)
  · rw [List.mem_append, h2, List.mem_singleton, hmem]
    constructor
    · rintro (⟨a, b, c⟩ | rfl)
      · exact ⟨a, fun h => b h.1, c⟩
      · exact ⟨hk, fun h => h.2 rfl, rfl⟩
    · rintro ⟨a, b, c⟩
      by_cases e : r.1 = x
      · exact .inr (Prod.ext e (by rw [c, e]))
      · exact .inl ⟨a, fun h => b ⟨h, e⟩, c⟩
theorem Got.done {ks : List Hd} {M : Hd → Be} {ys zs l : List Ro} (h : Got ks M [] ys) (hp : zs.Perm ys) (hz : zs.Pairwise (fun x y => ¬ hlt y.1 x.1)) (hk : ∀ h, h ∈ ks ↔ M h ≠ noB) (hu : Ups l) (hs : Some' l) (hl : ∀ x, atB l x = M x) : zs = l := by
  refine Ups.ext (Ups.ofPerm ((hp.map _).nodup_iff.2 h.1) hz) hu (fun r => ?_)
  rw [hp.mem_iff, h.2, hk, show r = (r.1, r.2) from rfl, mem_iff hu hs, hl]
  constructor
  · rintro ⟨a, -, c⟩
    exact ⟨c.symm, by rw [c]; exact a⟩
  · rintro ⟨a, c⟩
    exact ⟨by rw [a]; exact c, by simp, a.symm⟩
theorem heap3_new (w : World) (a b c : Obj) : (((w.alloc a).alloc b).alloc c).heap[w.heap.size + 1 + 1]? = some c := by
  have := heap_alloc_new ((w.alloc a).alloc b) c
  simpa using this
set_option maxHeartbeats 4000000 in
theorem rows_any (b n : Nat) (M : Hd → Be) (l : List Ro) (w : World) (h : MapF w b n M) (hn : n ≤ 1000) (hu : Ups l) (hs : Some' l) (hl : ∀ x, atB l x = M x) :
    Calls Tryd.prog 29 #[.map (some b)] w fun e w' => ∃ v, e = .returned v ∧ OwnsF elRo w' w.heap.size 33 v l ∧ Below w.heap.size w w' := by
  obtain ⟨i0, hi, hz0, hz1, hz2⟩ := info_parts infoRo
  obtain ⟨ks, f, hm, hkn, hp, hf⟩ := h
  have hbl := hm.lt
  have hlen := fun ty => hm.lenB (t := 46) Tryd.underlying46 ty
  obtain ⟨nk, hnk⟩ : ∃ nk, ks.length = nk := ⟨_, rfl⟩
  rw [hnk] at hkn hlen
  have HNK := Lib.hid hnk
  have HM := Lib.hid hm
  have HF := Lib.hid hf
  have HDN := Lib.hid (fun (ys zs : List Ro) (h : Got ks M [] ys) (h1 : zs.Perm ys) h2 => Got.done (l := l) h h1 h2 hp hu hs hl)
  clear hm hf hnk hp hu hs hl
  go_enter Tryd.func29, Tryd.ntmps29
  go_wp2_with (first | (at_make; refine wpList_make_own _ rfl _ _ 22 rfl w.heap.size 33 i0 (roV roZ) 11 Tryd.underlying22 hi hz0 hz1 .i64 .i64 _ nk rfl rfl rfl ?c1 ?c2 ?c3 ?_))
  case c1 => rw [hz2]; omega
  case c2 => unfold maxLen; omega
  case c3 => exact Nat.le_refl _
  intro w1 hown hgr
  have hb1 : Below w.heap.size w w1 := (Below.refl _ _).grown hgr (Nat.le_refl _) (fun k hk => by cases hk)
  have HO1 : Hid (OwnsF elRo w1 w.heap.size 33 (.slice (some ⟨w.heap.size, 0, none⟩) (([] : List Ro).length) nk) []) := Lib.hid hown
  have HM1 := Lib.hid (HM.out.later hb1)
  have HB1 := Lib.hid hb1
  have hgl : w.heap.size < w1.heap.size := HO1.out.lt rfl
  clear hown hgr hb1 hlen
  go_wp2_with (first | (at_range; refine wpList_range_is (K := kHand) _ rfl _ 46 rfl _ Tryd.underlying46 rfl HM1.out ?_))
  intro w2 hrg hb2 hsz2
  have HRG := Lib.hid hrg
  have HB2 := Lib.hid (nb_trans HB1.out hb2)
  have HO2 := Lib.hid (HO1.out.later hb2)
  have HS2 : Hid (w1.heap.size < w2.heap.size) := Lib.hid (by omega)
  clear hrg hb2 hsz2
  go_wp2
  go_loopw [3] (fun v wr => ∃ (todo : List Hd) (cnt : Nat) (ys : List Ro) (gg cap : Nat), v = .slice (some ⟨gg, 0, none⟩) ys.length cap ∧ gg ≠ w1.heap.size ∧ ys.length + cnt ≤ nk ∧ Hid (RangeIs kHand wr b w1.heap.size ks.length ks f todo cnt) ∧ Hid (Got ks M todo ys) ∧ Hid (OwnsF elRo wr w.heap.size 33 (.slice (some ⟨gg, 0, none⟩) ys.length cap) ys) ∧ Hid (Below w.heap.size w wr) ∧ Hid (w1.heap.size < wr.heap.size)) (fun _ wr => wr.rangeLeft b w1.heap.size)
  case atStart => exact ⟨ks, ks.length, [], _, _, rfl, by omega, by rw [HNK.out]; simp, HRG, Lib.hid (Got.start _ _), HO2, HB2, HS2⟩
  case round =>
    obtain ⟨todo, cnt, ys, gg, cap, rfl, hgg, hyc, hR, hG, hO, hB, hS⟩ := hrel
    go_wp2_with (first | (at_next; refine wpList_next_is (K := kHand) _ rfl _ rfl rfl hR.out ?_ ?_))
    case refine_1 =>
      rintro rfl
      clear HRG HO1 HM1 HB1 HB2 HO2 HS2
      go_wp2_with fail
      refine (sortRo_any w.heap.size _ ys _ hO.out (by omega)).mono ?_
      rintro e w5 ⟨rfl, zs, hp, hs, ho, hk5⟩
      have hzl := HDN.out ys zs hG.out hp hs
      subst hzl
      have HO5 := Lib.hid ho
      have HB5 : Hid (Below w.heap.size w w5) := Lib.hid (hB.out.trans (hk5.below hB.out.size (fun k e => hO.out.ge e)))
      clear hp hs ho hk5
      go_wp2
      go_ret
      exact ⟨_, rfl, HO5.out, HB5.out⟩
    case refine_2 =>
      intro k1 k2 w4 cnt' hkt hkm hrg hlt hkp hsz4 hen
      obtain ⟨y, hy⟩ : ∃ y, M (k1, k2) = y := ⟨_, rfl⟩
      have hfk := HF.out (k1, k2) hkm
      have hgn := hG.out.next hkt hkm
      rw [hy] at hfk hgn
      rw [hfk] at hen ⊢
      obtain ⟨m, a0, a1, a2, a3, a4, a5, a6, a7⟩ := y
      have hszw := hkp.size
      have hB4 : Below w.heap.size w w4 := hB.out.trans (hkp.below hB.out.size (fun k e => by omega))
      have hO4 := hO.out.kept hkp (fun k e => by simp [Value.ownBlock] at e; omega)
      have hS4 := hS.out
      have HRG4 := Lib.hid hrg
      have HLT := Lib.hid hlt
      have HB4 := Lib.hid hB4
      have HO4 := Lib.hid hO4
      have HGN := Lib.hid hgn
      have HS4 : Hid (w1.heap.size < w4.heap.size) := Lib.hid (by omega)
      have HW4 := Lib.hid hB4.size
      have HRX : Hid (∀ o o' o'', RangeIs kHand (((w4.alloc o).alloc o').alloc o'') b w1.heap.size ks.length ks f _ cnt') := Lib.hid (fun o o' o'' => HRG4.out.later (nb_alloc (nb_alloc (nb_alloc (Below.refl _ _) _) _) _))
      have HBX : Hid (∀ o o' o'', Below w.heap.size w (((w4.alloc o).alloc o').alloc o'')) := Lib.hid (fun o o' o'' => nb_alloc (nb_alloc (nb_alloc HB4.out _) _) _)
      replace hen : (Instr.entry (.pointer (some ⟨w1.heap.size, 0, none⟩))).run Tryd.prog w4 = .ok (.tuple #[.agg #[.int .i64 k1, .int .i64 k2], .agg #[.int .i64 m, .int .i64 a0, .int .i64 a1, .int .i64 a2, .int .i64 a3, .int .i64 a4, .int .i64 a5, .int .i64 a6, .int .i64 a7]]) w4 := hen
      simp only [show kHand.val (k1, k2) = .agg #[.int .i64 k1, .int .i64 k2] from rfl]
      clear hrg hlt hB4 hO4 hkt hkm hkp hsz4 hfk hgn hy HRG HO1 HM1 HB1 HB2 HO2 HS2 hS4
      go_wp2_with (first | (at_builtin; refine wpList_append_lies _ rfl _ _ 22 rfl w.heap.size 33 i0 (roV roZ) 11 88 Tryd.underlying22 hi hz0 hz1 hz2 rfl (by decide) _ _ _ rfl (World.ownsRow.alloc (World.ownsRow.alloc (World.ownsRow.alloc HO4.out _) _) _) ⟨w4.heap.size + 1 + 1, 0, none⟩ 1 1 [.int .i64 k1, .int .i64 k2, .int .i64 m, .int .i64 a0, .int .i64 a1, .int .i64 a2, .int .i64 a3, .int .i64 a4, .int .i64 a5, .int .i64 a6, .int .i64 a7] rfl rfl ?d1 ?d2 (by decide) ?d3 ?d4 ?d5 _ rfl ?_))
      case d1 => exact World.news_of_block (heap3_new _ _ _ _)
      case d2 => exact elRo.one ((k1, k2), m, a0, a1, a2, a3, a4, a5, a6, a7)
      case d3 => unfold maxLen; omega
      case d4 => omega
      case d5 => have := HW4.out; simp; omega
      intro g' cap' w6 hown hgr hat hg'
      have hge : w.heap.size ≤ gg := HO4.out.ge rfl
      have hF : ∀ k, (Value.slice (some ⟨gg, 0, none⟩) ys.length cap).ownBlock = some k → k = gg := fun k e => by simp [Value.ownBlock] at e; omega
      have HRN := Lib.hid ((HRX.out _ _ _).kept (F := fun q => q = gg) (Kept.grown hgr hF) (by omega) (by omega))
      have HBN := Lib.hid ((HBX.out _ _ _).grown hgr (by have := HW4.out; simp; omega) (fun k e => by have := hF k e; omega))
      have HGG : Hid (g' ≠ w1.heap.size) := Lib.hid (by
        have := HS4.out
        rcases hat with e | e
        · have := hF g' e; omega
        · omega)
      have HON : Hid (OwnsF elRo w6 w.heap.size 33 (.slice (some ⟨g', 0, none⟩) (ys ++ [((k1, k2), m, a0, a1, a2, a3, a4, a5, a6, a7)]).length cap') (ys ++ [((k1, k2), m, a0, a1, a2, a3, a4, a5, a6, a7)])) := Lib.hid (by
        rw [List.length_append]
        exact OwnsF.snoc hown)
      have HSZ6 : Hid (w1.heap.size < w6.heap.size) := Lib.hid (by have := HS4.out; have := hgr.size; simp at this; omega)
      clear hown hgr hat hg' hge hF
      go_wp2
      go_roundw
      case rel => exact ⟨_, cnt', ys ++ [((k1, k2), m, a0, a1, a2, a3, a4, a5, a6, a7)], g', cap', by simp, HGG.out, by have := HLT.out; simp; omega, HRN, HGN, HON, HBN, HSZ6⟩
      case measure => rw [HRN.out.left_eq, hR.out.left_eq]; exact HLT.out
end Go.Proofs.YtnmlapoiilckhaaDoor

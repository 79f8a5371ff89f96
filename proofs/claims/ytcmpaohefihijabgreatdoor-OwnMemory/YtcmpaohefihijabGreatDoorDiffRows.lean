/- The contracts of maps.Clone and maps.Copy at maps of entities, of rows of package diff. -/
import Derived.Shelf.SlMaps.Clone
import Derived.Test.YtcmpaohefihijabGreatDoorDiffProg
import Derived.Test.YtcmpaohefihijabGreatDoorDiffSort
namespace Go.Proofs.YtcmpaohefihijabGreatDoor
set_option maxRecDepth 8000
open Go.RowKit Go.Maps Go.ChangeMaps Go.Shelf

def cloneLay_ren : Go.Shelf.Ren := ⟨fun | 5 => 29 | 7 => 50 | n => n, fun | 4 => 4 | 20 => 20 | 23 => 91 | 25 => 34 | 3 => 37 | n => n, fun | n => n⟩
theorem cloneLay : Go.Proofs.SlLaysW.n5 Tryz.prog cloneLay_ren := {
  mixed := by kernel_rfl
  f5 := ⟨Tryz.f29.name, by decide, Tryz.func29.trans (congrArg some (by kernel_rfl))⟩
  f7 := Tryz.func50.trans (congrArg some (by kernel_rfl))
  t4 := Tryz.underlying4
  a4 := Tryz.isAgg4
  z4 := Tryz.sizeOf4
  v4 := Tryz.zeroValue4
  t20 := Tryz.underlying20
  a20 := Tryz.isAgg20
  z20 := Tryz.sizeOf20
  v20 := Tryz.zeroValue20
  t23 := Tryz.underlying91
  a23 := Tryz.isAgg91
  z23 := Tryz.sizeOf91
  v23 := Tryz.zeroValue91 }
theorem clone_any (b n : Nat) (M : Hd → Be) (w : World) (h : MapF w b n M) :
    Calls Tryz.prog 29 #[.map (some b)] w fun e w' => e = .returned (.map (some w.heap.size)) ∧ MapF w' w.heap.size n M ∧ Below w.heap.size w w' := by
  obtain ⟨ks, f, ⟨D, ho, rest⟩, r2⟩ := h
  have hcon := AnyW.maps_Clone_owns cloneLay 34 heldR b ks.length D w ho
  change Calls Tryz.prog 29 _ _ _ at hcon
  exact hcon.mono fun e w' ⟨he, h1, _, h3⟩ => ⟨he, ⟨ks, f, ⟨D, h1, rest⟩, r2⟩, h3⟩
theorem MapIs.lenB {k t e : TypeId} {α : Type} {K : KeyEnc α k} {w : World} {b n : Nat} {ks : List α} {f : α → Value} (h : MapIs K w b n ks f) (ht : Tryz.prog.underlying t = some (.map k e)) (ty : TypeId) : (Builtin.len_ #[t] ty #[.map (some b)]).run Tryz.prog w = .ok (.int .i64 (ks.length : Int)) w := by
  obtain ⟨D, ho, _, _, _, _, hs⟩ := h
  rw [ho.len ht ty, hs]
set_option maxHeartbeats 4000000 in
theorem copyM_any (d s nd ns : Nat) (M N : Hd → Be) (w : World) (hd : MapF w d nd M) (hs : MapF w s ns N) (hne : d ≠ s) (hroom : nd + ns < maxLen) :
    Calls Tryz.prog 30 #[.map (some d), .map (some s)] w fun e w' => e = .returned (.tuple #[]) ∧ MapF w' d (nd + ns) (fun h => if N h = noB then M h else N h) ∧ Kept (fun q => q = d) w w' := by
  have hdl := hd.lt
  obtain ⟨ks, f, hm, hkn, hp, hf⟩ := hs
  have hsl := hm.lt
  have HM := Lib.hid hm
  have HD := Lib.hid hd
  have HP := Lib.hid hp
  have HF := Lib.hid hf
  obtain ⟨nk, hnk⟩ : ∃ nk, ks.length = nk := ⟨_, rfl⟩
  have HNK := Lib.hid hnk
  rw [hnk] at hkn
  clear hm hd hp hf hnk
  go_enter Tryz.func30, Tryz.ntmps30
  go_wp2_with (first | (at_range; refine wpList_range_is (K := kHand) _ rfl _ 91 rfl _ Tryz.underlying91 rfl HM.out ?_))
  intro w2 hrg hb2 hsz2
  have HRG := Lib.hid hrg
  have HB2 := Lib.hid hb2
  have HD2 : Hid (MapF w2 d nd (fun h => if h ∈ ks ∧ ¬ h ∈ ks then N h else M h)) := Lib.hid ((HD.out.later hb2).congr (fun x => by rw [if_neg (fun h => h.2 h.1)]))
  have HS2 : Hid (w.heap.size < w2.heap.size) := Lib.hid (by omega)
  have HK2 : Hid (Kept (fun q => q = d) w w2) := Lib.hid (Kept.ofBelow hb2)
  clear hrg hb2 hsz2
  go_wp2
  go_loopw [8] (fun _ wr => ∃ (todo : List Hd) (cnt cm : Nat), cm + cnt ≤ nd + nk ∧ Hid (RangeIs kHand wr s w.heap.size ks.length ks f todo cnt) ∧ Hid (MapF wr d cm (fun h => if h ∈ ks ∧ ¬ h ∈ todo then N h else M h)) ∧ Hid (Kept (fun q => q = d) w wr)) (fun _ wr => wr.rangeLeft s w.heap.size)
  case atStart => exact ⟨ks, ks.length, nd, by rw [HNK.out]; exact Nat.le_refl _, HRG, HD2, HK2⟩
  case round =>
    obtain ⟨todo, cnt, cm, hmc, hR, hD, hK⟩ := hrel
    go_wp2_with (first | (at_next; refine wpList_next_is (K := kHand) _ rfl _ rfl rfl hR.out ?_ ?_))
    case refine_1 =>
      rintro rfl
      have HE : Hid (MapF wr d (nd + ns) (fun h => if N h = noB then M h else N h)) := Lib.hid ((hD.out.mono (by omega)).congr (fun x => by
        by_cases e : x ∈ ks
        · rw [if_pos ⟨e, by simp⟩, if_neg ((HP.out x).1 e)]
        · rw [if_neg (fun h => e h.1), if_pos (Decidable.byContradiction fun h => e ((HP.out x).2 h))]))
      clear HRG HD2 HK2
      go_wp2
      go_end0
      exact ⟨rfl, HE.out, hK.out⟩
    case refine_2 =>
      intro k1 k2 w4 cnt' hkt hkm hrg hlt hkp hsz4 hen
      obtain ⟨y, hy⟩ : ∃ y, N (k1, k2) = y := ⟨_, rfl⟩
      have hfk := HF.out (k1, k2) hkm
      have hyn := (HP.out (k1, k2)).1 hkm
      rw [hy] at hfk hyn
      rw [hfk] at hen ⊢
      have hkok : kHand.ok (k1, k2) := HM.out.okAt hkm
      obtain ⟨m, a0, a1, a2, a3, a4, a5, a6, a7⟩ := y
      have hszw := hkp.size
      have hD4 := hD.out.kept hkp (by omega : ¬ d = w.heap.size)
      have HRG4 := Lib.hid hrg
      have HK4 : Hid (Kept (fun q => q = d) w w4) := Lib.hid (hK.out.trans hkp (fun i e => .inr (by omega)))
      have HLT := Lib.hid hlt
      have HD4 := Lib.hid hD4
      have HY := Lib.hid hy
      have HYN := Lib.hid hyn
      have HKOK := Lib.hid hkok
      have HKM := Lib.hid hkm
      have HDX : Hid (∀ o o', MapF ((w4.alloc o).alloc o') d cm (fun h => if h ∈ ks ∧ ¬ h ∈ todo then N h else M h)) := Lib.hid (fun o o' => HD4.out.later (nb_alloc (nb_alloc (Below.refl _ _) _) _))
      have HRX : Hid (∀ o o', RangeIs kHand ((w4.alloc o).alloc o') s w.heap.size ks.length ks f _ cnt') := Lib.hid (fun o o' => HRG4.out.later (nb_alloc (nb_alloc (Below.refl _ _) _) _))
      have HKX : Hid (∀ o o', Kept (fun q => q = d) w ((w4.alloc o).alloc o')) := Lib.hid (fun o o' => HK4.out.trans (Kept.ofBelow (nb_alloc (nb_alloc (Below.refl _ _) _) _)) (fun i e => .inl e))
      replace hen : (Instr.entry (.pointer (some ⟨w.heap.size, 0, none⟩))).run Tryz.prog w4 = .ok (.tuple #[.agg #[.int .i64 k1, .int .i64 k2], .agg #[.int .i64 m, .int .i64 a0, .int .i64 a1, .int .i64 a2, .int .i64 a3, .int .i64 a4, .int .i64 a5, .int .i64 a6, .int .i64 a7]]) w4 := hen
      simp only [show kHand.val (k1, k2) = .agg #[.int .i64 k1, .int .i64 k2] from rfl]
      clear hrg hlt hD4 hkp hsz4 hfk hyn hy HRG HD2 HK2 hkok hkm HRG4 HD4 HK4
      go_wp2_with (at_mapUpdate; refine wpList_putF _ rfl _ _ _ 91 rfl 37 Tryz.underlying91 rfl (HDX.out _ _) (by omega) (k1, k2) HKOK.out (m, a0, a1, a2, a3, a4, a5, a6, a7) HYN.out rfl rfl ?_)
      intro w6 hM6 hk6
      have hRX := (HRX.out _ _).kept hk6 (by omega) (by omega)
      have hKX := (HKX.out _ _).trans hk6 (fun i e => .inl e)
      have HRN := Lib.hid hRX
      have HKN := Lib.hid hKX
      have HMN := Lib.hid (hM6.congr (N := fun h => if h ∈ ks ∧ ¬ h ∈ todo.filter (fun y => !decide (y = (k1, k2))) then N h else M h) (fun x => by
        by_cases e : x = (k1, k2)
        · subst e
          rw [if_pos rfl, if_pos ⟨HKM.out, fun h => by simp at h⟩, HY.out]
        · rw [if_neg e]
          by_cases e2 : x ∈ ks ∧ ¬ x ∈ todo
          · rw [if_pos e2, if_pos ⟨e2.1, fun h => e2.2 (List.mem_filter.1 h).1⟩]
          · rw [if_neg e2, if_neg (fun h => e2 ⟨h.1, fun h3 => h.2 (List.mem_filter.2 ⟨h3, by simpa using e⟩)⟩)]))
      clear hM6 hk6 hRX hKX
      go_wp2
      go_roundw
      case rel => exact ⟨_, cnt', cm + 1, by have := HLT.out; omega, HRN, HMN, HKN⟩
      case measure => rw [HRN.out.left_eq, hR.out.left_eq]; exact HLT.out

/-- the rows that have been met in a loop over a map -/
def Got (ks : List Hd) (M : Hd → Be) (todo : List Hd) (ys : List Ro) : Prop := (ys.map (·.1)).Nodup ∧ ∀ r : Ro, r ∈ ys ↔ (r.1 ∈ ks ∧ ¬ r.1 ∈ todo ∧ r.2 = M r.1)
theorem Got.start (ks : List Hd) (M : Hd → Be) : Got ks M ks [] := ⟨by simp, fun r => by simp; intro h1 h2; exact absurd h1 h2⟩
theorem Got.next {ks todo : List Hd} {M : Hd → Be} {ys : List Ro} {x : Hd} (h : Got ks M todo ys) (ht : x ∈ todo) (hk : x ∈ ks) : Got ks M (todo.filter (fun y => !decide (y = x))) (ys ++ [(x, M x)]) := by
  obtain ⟨h1, h2⟩ := h
  have hmem : ∀ y, y ∈ todo.filter (fun y => !decide (y = x)) ↔ y ∈ todo ∧ y ≠ x := fun y => by rw [List.mem_filter]; simp
  refine ⟨?_, fun r => ?_⟩
  · rw [List.map_append, List.nodup_append]
    refine ⟨h1, by simp, fun a ha b hb e => ?_⟩
    simp at hb
    subst hb
    obtain ⟨r, hr, rfl⟩ := List.mem_map.1 ha
    exact ((h2 r).1 hr).2.1 (e ▸ ht)
  · rw [List.mem_append, h2, List.mem_singleton, hmem]
    constructor
    · rintro (⟨a, b, c⟩ | rfl)
      · exact ⟨a, fun h => b h.1, c⟩
      · exact ⟨hk, fun h => h.2 rfl, rfl⟩
    · rintro ⟨a, b, c⟩
      by_cases e : r.1 = x
      · exact .inr (Prod.ext e (by rw [c, e]))
      · exact .inl ⟨a, fun h => b ⟨h, e⟩, c⟩
theorem Got.done {ks : List Hd} {M : Hd → Be} {ys zs l : List Ro} (h : Got ks M [] ys) (hp : zs.Perm ys) (hz : zs.Pairwise (fun x y => ¬ hlt y.1 x.1)) (hk : ∀ h, h ∈ ks ↔ M h ≠ noB) (hu : Ups l) (hs : Some' l) (hl : ∀ x, atB l x = M x) : zs = l := by
  refine Ups.ext (Ups.ofPerm ((hp.map _).nodup_iff.2 h.1) hz) hu (fun r => ?_)
  rw [hp.mem_iff, h.2, hk, show r = (r.1, r.2) from rfl, mem_iff hu hs, hl]
  constructor
  · rintro ⟨a, -, c⟩
    exact ⟨c.symm, by rw [c]; exact a⟩
  · rintro ⟨a, c⟩
    exact ⟨by rw [a]; exact c, by simp, a.symm⟩
theorem heap3_new (w : World) (a b c : Obj) : (((w.alloc a).alloc b).alloc c).heap[w.heap.size + 1 + 1]? = some c := by
  have := heap_alloc_new ((w.alloc a).alloc b) c
  simpa using this
end Go.Proofs.YtcmpaohefihijabGreatDoor

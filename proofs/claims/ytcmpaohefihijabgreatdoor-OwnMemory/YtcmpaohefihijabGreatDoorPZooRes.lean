/- resolve of package zoo. -/
import Derived.Test.YtcmpaohefihijabGreatDoorPZooResA
import Derived.Test.YtcmpaohefihijabGreatDoorPZooResB
import Derived.Test.YtcmpaohefihijabGreatDoorPZooResC
namespace Go.Proofs.YtcmpaohefihijabGreatDoor
set_option maxRecDepth 8000
set_option maxRecDepth 8000
open Go.RowKit

theorem hofE_cases (sp : List Hd) (h : Hd) : hofE sp h = 0 ∨ hofE sp h = 5 := by
  by_cases h0 : hofE sp h = 0
  · exact .inl h0
  · exact .inr (hofE_none h0).2
theorem resolve_any (v : Value) (sp : List Hd) (o : Opm) (w : World) (hr : Reads elHand w v sp) (hn : sp.length ≤ 80) :
    Calls Tryz.prog 25 #[.agg #[.int .i64 o.d, .int .i64 o.m, .int .i64 (o.f 0), .int .i64 (o.f 1), .int .i64 (o.f 2), .int .i64 (o.f 3), .int .i64 (o.f 4), .int .i64 (o.f 5), .int .i64 (o.f 6), .int .i64 (o.f 7), .int .i64 o.a, .int .i64 o.b, .int .i64 o.ta, .int .i64 o.tb, .int .i64 o.k, .int .i64 o.n], v] w (ResPost sp o w) := by
  obtain ⟨⟨x1, x2⟩, hx⟩ : ∃ x, hofH sp (o.a, o.b) = x := ⟨_, rfl⟩
  obtain ⟨⟨y1, y2⟩, hy⟩ : ∃ x, hofH sp (o.ta, o.tb) = x := ⟨_, rfl⟩
  cases h2 : (o.d == 2)
  · cases h3 : (o.d == 3)
    · cases h4 : (o.d == 4)
      · cases h5 : (o.d == 5)
        · cases h6 : (o.d == 6)
          · exact resolve_no v sp o w hr hn h2 h3 h4 h5 h6
          · rcases hofE_cases sp (o.a, o.b) with he | he
            · exact resolve_6a v sp o w hr hn h2 h3 h4 h5 h6 x1 x2 hx he
            · exact resolve_6b v sp o w hr hn h2 h3 h4 h5 h6 x1 x2 hx he
        · rcases hofE_cases sp (o.a, o.b) with he | he
          · rcases hofE_cases sp (o.ta, o.tb) with he2 | he2
            · exact resolve_5a v sp o w hr hn h2 h3 h4 h5 x1 x2 hx he y1 y2 hy he2
            · exact resolve_5c v sp o w hr hn h2 h3 h4 h5 x1 x2 hx he y1 y2 hy he2
          · exact resolve_5b v sp o w hr hn h2 h3 h4 h5 x1 x2 hx he
      · rcases hofE_cases sp (o.a, o.b) with he | he
        · exact resolve_4a v sp o w hr hn h2 h3 h4 x1 x2 hx he
        · exact resolve_4b v sp o w hr hn h2 h3 h4 x1 x2 hx he
    · rcases hofE_cases sp (o.a, o.b) with he | he
      · exact resolve_3a v sp o w hr hn h2 h3 x1 x2 hx he
      · exact resolve_3b v sp o w hr hn h2 h3 x1 x2 hx he
  · rcases hofE_cases sp (o.a, o.b) with he | he
    · exact resolve_2a v sp o w hr hn h2 x1 x2 hx he
    · exact resolve_2b v sp o w hr hn h2 x1 x2 hx he
end Go.Proofs.YtcmpaohefihijabGreatDoor

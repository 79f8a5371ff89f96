
/- Do of the reference's zoo. -/
import Derived.Test.YtlaahlphfkadjaaGreatRefDoB
import Derived.Test.YtlaahlphfkadjaaGreatRefDoC
namespace Go.Proofs.YtlaahlphfkadjaaGreat
set_option maxRecDepth 8000
theorem zfDo_any (q : Nat) (G : Nat → Prop) (s : Zs) (o : Opm) (w : World) (h : ZfAt w q G s) (ok : ZOk s) :
    Calls Tryz.prog 20 #[.pointer (some ⟨q, 0, none⟩), .agg #[.int .i64 o.d, .int .i64 o.m, .int .i64 (o.f 0), .int .i64 (o.f 1), .int .i64 (o.f 2), .int .i64 (o.f 3), .int .i64 (o.f 4), .int .i64 (o.f 5), .int .i64 (o.f 6), .int .i64 (o.f 7), .int .i64 o.a, .int .i64 o.b, .int .i64 o.ta, .int .i64 o.tb, .int .i64 o.k, .int .i64 o.n]] w (ZfPost w q G (.tuple #[.agg #[.int .i64 (doH s o).1, .int .i64 (doH s o).2], .int .i64 (doE s o)]) (doZ s o)) := by
  by_cases h1 : o.d = 1
  · exact refDo_1 q G s o w h ok h1
  by_cases h2 : o.d = 2
  · exact refDo_2 q G s o w h ok h1 h2
  by_cases h3 : o.d = 3
  · exact refDo_3 q G s o w h ok h1 h2 h3
  by_cases h4 : o.d = 4
  · exact refDo_4 q G s o w h ok h1 h2 h3 h4
  by_cases h5 : o.d = 5
  · exact refDo_5 q G s o w h ok h1 h2 h3 h4 h5
  by_cases h6 : o.d = 6
  · exact refDo_6 q G s o w h ok h1 h2 h3 h4 h5 h6
  exact refDo_no q G s o w h ok h1 h2 h3 h4 h5 h6
end Go.Proofs.YtlaahlphfkadjaaGreat


/- Rest of the reference, for greater bounds. -/
import Derived.Test.YtlaahlphfkadjaaGreatKeptZoo
namespace Go.Proofs.YtlaahlphfkadjaaGreat
set_option maxRecDepth 8000
open Go.RowKit

set_option maxRecDepth 8000 in
set_option maxHeartbeats 400000 in
theorem restB_any (n m : Int) (w : World) (hm : 0 < m) (hm' : m ≤ 2000000000000) :
    Calls Tryz.prog 14 #[.int .i64 n, .int .i64 m] w fun e w' => e = .returned (.int .i64 (n % m)) ∧ w = w' := by
  obtain ⟨r1, r2, b1, b2⟩ := rest_eq (n := n) hm
  have R1 := Lib.hid r1
  have R2 := Lib.hid r2
  clear r1 r2
  go_enter Tryz.func14, Tryz.ntmps14
  go_wp2
  all_goals go_ret
  · exact ⟨ret_int (R1.out ‹_›), rfl⟩
  · exact ⟨ret_int (R2.out ‹_›), rfl⟩
end Go.Proofs.YtlaahlphfkadjaaGreat

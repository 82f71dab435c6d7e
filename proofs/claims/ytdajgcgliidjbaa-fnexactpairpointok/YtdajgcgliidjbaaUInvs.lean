import Derived.Test.YtdajgcgliidjbaaUOps
import Derived.Test.YtdajgcgliidjbaaILow
/-
  The contracts of spec's l07Inverse and InversePair.
-/
namespace Go.Proofs.Ytdajgcgliidjbaa
open Go.RowKit
def inv7 (x : Pn) (n : Nat) : Pn := if Nat.gcd n (normP n x) = 1 then invP n x (invN (normP n x) n) else (0, 0)
end Go.Proofs.Ytdajgcgliidjbaa
/-
  The contract of spec's InversePair.
-/
namespace Go.Proofs.Ytdajgcgliidjbaa
open Go.RowKit
theorem inv7_in {x : Pn} {n : Nat} (h : 0 < n) : InP2 n (inv7 x n) := by
  unfold inv7
  split
  · exact invP_in h _ _
  · exact zero_in h
end Go.Proofs.Ytdajgcgliidjbaa
/-
  The contract of spec's PowPair.
-/
namespace Go.Proofs.Ytdajgcgliidjbaa
open Go.RowKit
theorem PairX.setRow {w : World} {v : Value} {x : Pn} {g : Nat} {C C' : Array Value} {t : TypeId} (h : PairX w v x) (hg : w.heap[g]? = some (.cells C t (0, 0))) (ht : t ≠ 3) : PairX (w.setRow g C') v x := by
  obtain ⟨a, b, e, h1, h2⟩ := h
  exact ⟨a, b, e, h1.setRow hg ht, h2.setRow hg ht⟩
end Go.Proofs.Ytdajgcgliidjbaa

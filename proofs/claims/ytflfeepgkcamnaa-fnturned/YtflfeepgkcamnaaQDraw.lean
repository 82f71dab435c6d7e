/-
  The draws of chapter 6.
-/
import Derived.Test.YtflfeepgkcamnaaQMath
namespace Go.Proofs.Ytflfeepgkcamnaa
open Go.RowKit

def OnePost (w : World) (e : Ending) (w' : World) : Prop := ∃ p : ByteArray, e = .returned (.string p) ∧ Below w.heap.size w w'
end Go.Proofs.Ytflfeepgkcamnaa

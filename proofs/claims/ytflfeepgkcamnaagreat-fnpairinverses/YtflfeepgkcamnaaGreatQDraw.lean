/-
  The draws of chapter 6.
-/
import Derived.Test.YtflfeepgkcamnaaGreatQMath
namespace Go.Proofs.YtflfeepgkcamnaaGreat
open Go.RowKit

def OnePost (w : World) (e : Ending) (w' : World) : Prop := ∃ p : ByteArray, e = .returned (.string p) ∧ Below w.heap.size w w'
end Go.Proofs.YtflfeepgkcamnaaGreat

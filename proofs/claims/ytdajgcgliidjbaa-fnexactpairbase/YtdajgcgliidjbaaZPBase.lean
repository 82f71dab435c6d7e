import Derived.Test.YtdajgcgliidjbaaZPLaw
/-
  The base points over pairs are right.
-/
namespace Go.Proofs.Ytdajgcgliidjbaa
open Go.RowKit
def pbaseT (id : Int) : Tq := (false, bpX id, bpY id)
end Go.Proofs.Ytdajgcgliidjbaa

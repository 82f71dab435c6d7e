import Derived.Test.YtdajgcgliidjbaaYCurve
import Derived.Test.YtdajgcgliidjbaaUBase
import Derived.Test.YtdajgcgliidjbaaEPair
import Derived.Test.YtdajgcgliidjbaaJTri
import Derived.Deep.MidRow
import Derived.LoopN
import Derived.Test.YtdajgcgliidjbaaRDraw
import Derived.Test.YtdajgcgliidjbaaMAll
import Derived.Maps.AppendAt
import Derived.Laws.AppendOwnNone
import Derived.Deep.LoopGhost
/-
  Points over pairs, as texts: what sums of right ones are.
-/
namespace Go.Proofs.Ytdajgcgliidjbaa
open Go.RowKit
abbrev Tq := Bool × Pt × Pt
def tqT (q : Tq) : Array Value := #[.bool q.1, .string q.2.1.1, .string q.2.1.2, .string q.2.2.1, .string q.2.2.2]
def noQ : Tq := (false, noP, noP)
end Go.Proofs.Ytdajgcgliidjbaa

import Derived.Test.YtdajgcgliidjbaaJRow
import Derived.Test.YtdajgcgliidjbaaRDraw
import Derived.Test.YtdajgcgliidjbaaMAll
import Derived.Maps.AppendAt
import Derived.Laws.AppendOwnNone
import Derived.Test.YtdajgcgliidjbaaILow
import Derived.RegionTactic
import Derived.BigRegion
import Derived.Deep.RegionHeld3
import Derived.Deep.DrawnRows
import Derived.Deep.RegionLaw
import Derived.Test.YtdajgcgliidjbaaNKn
import Derived.Deep.LoopGhost
import Derived.Deep.CutBlock
import Derived.Deep.DeepCutAuto
import Derived.StillTailTactics
import Derived.Lib.Bytealg
/-
  The contracts of impl's AddRest, SubRest, MulRest, NegRest and PowRest.
-/
namespace Go.Proofs.Ytdajgcgliidjbaa
open Go.RowKit
end Go.Proofs.Ytdajgcgliidjbaa
/-
  The contract of impl's HalfRest.
-/
namespace Go.Proofs.Ytdajgcgliidjbaa
open Go.RowKit
theorem Row1.put {w : World} {g c c' : Nat} {l l' : List Nat} (h : RowI w g l c) (hl : l'.length = 81) : RowI (w.setRow g (rowC l' c')) g l' c' := h.stored hl
end Go.Proofs.Ytdajgcgliidjbaa

import Derived.Test.YtdajgcgliidjbaaRows
import Derived.WalkKit
import Derived.ProofKit
import Derived.Deep.AppendLies
import Derived.Lib.UnsafeStr
import Derived.Laws.IdiomStrings
import Derived.Laws.BytesArg
import Derived.Handy
import Derived.Lib.Hide
import Derived.Outline
import Derived.Deep.QuietTactic
import Derived.BigQuiet
import Derived.Laws.OwnMore
import Derived.OpenShut
import Derived.Test.YtdajgcgliidjbaaNArith
import Derived.Test.YtdajgcgliidjbaaNKn
import Derived.Deep.LoopGhost
import Derived.Deep.CutBlock
import Derived.Deep.DeepCutAuto
import Derived.StillTailTactics
import Derived.Test.YtdajgcgliidjbaaMAll
import Derived.Laws.Rows
import Derived.Laws.Tables
namespace Go.Proofs.Ytdajgcgliidjbaa
open Go.RowKit
def cvB (id : Int) : Bool := decide (1 ≤ id) && decide (id ≤ 4)
theorem below_setRow2 {B : Nat} {w wr : World} (h : Below B w wr) {g : Nat} (hg : B ≤ g) (cs : Array Value) : Below B w (wr.setRow g cs) :=
  ⟨h.os, h.tape, h.output, by rw [size_setRow]; exact h.size, fun i hi => (setRow_other wr g i cs (by omega)).trans (h.block i hi)⟩
end Go.Proofs.Ytdajgcgliidjbaa

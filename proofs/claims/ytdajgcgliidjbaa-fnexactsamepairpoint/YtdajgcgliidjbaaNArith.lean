import Derived.Test.YtdajgcgliidjbaaRows
import Derived.Test.YtdajgcgliidjbaaGreatW
import Derived.Handy
import Derived.Lib.Hide
import Derived.Outline
import Derived.Laws.OwnMore
import Derived.Deep.QuietTactic
import Derived.BigQuiet
/-
  The contracts of spec.l02Cmp, l02Add, l02Sub.
-/
namespace Go.Proofs.Ytdajgcgliidjbaa
open Go.RowKit
end Go.Proofs.Ytdajgcgliidjbaa
/-
  The contracts of spec.l02Add and spec.l02Sub.
-/
namespace Go.Proofs.Ytdajgcgliidjbaa
open Go.RowKit
end Go.Proofs.Ytdajgcgliidjbaa
/-
  The contracts of spec.l02Add at every two rows, and of spec.l02Sub.
-/
namespace Go.Proofs.Ytdajgcgliidjbaa
open Go.RowKit
end Go.Proofs.Ytdajgcgliidjbaa
/-
  The contract of spec.l02Mul.
-/
namespace Go.Proofs.Ytdajgcgliidjbaa
open Go.RowKit
end Go.Proofs.Ytdajgcgliidjbaa
/-
  The contracts of spec.l02Bound, CompareGreat, AddGreat, SubGreat, MulGreat.
-/
namespace Go.Proofs.Ytdajgcgliidjbaa
open Go.RowKit
theorem bt {w w1 w2 : World} (h : Below w.heap.size w w1) (k : Below w1.heap.size w1 w2) : Below w.heap.size w w2 := h.trans (k.mono h.size)
end Go.Proofs.Ytdajgcgliidjbaa
/-
  The contracts of spec.GreatOf, GreatInt, BitsOf, BitOf.
-/
namespace Go.Proofs.Ytdajgcgliidjbaa
open Go.RowKit
end Go.Proofs.Ytdajgcgliidjbaa
/-
  The contracts of spec.GreatInt, BitsOf, BitOf.
-/
namespace Go.Proofs.Ytdajgcgliidjbaa
open Go.RowKit
end Go.Proofs.Ytdajgcgliidjbaa

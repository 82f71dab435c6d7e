import Derived.Test.YtdajgcgliidjbaaJWork
import Derived.Test.YtdajgcgliidjbaaILow
/-
  The contracts of impl's AddRest, SubRest, MulRest, NegRest and PowRest.
-/
namespace Go.Proofs.Ytdajgcgliidjbaa
open Go.RowKit
end Go.Proofs.Ytdajgcgliidjbaa
/-
  The contract of impl's HalfRest.
-/
namespace Go.Proofs.Ytdajgcgliidjbaa
open Go.RowKit
theorem Row1.put {w : World} {g c c' : Nat} {l l' : List Nat} (h : RowI w g l c) (hl : l'.length = 81) : RowI (w.setRow g (rowC l' c')) g l' c' := h.stored hl
end Go.Proofs.Ytdajgcgliidjbaa

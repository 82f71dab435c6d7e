import Derived.Test.YtdajgcgliidjbaaGreatJWork
import Derived.Test.YtdajgcgliidjbaaGreatILow
namespace Go.Proofs.YtdajgcgliidjbaaGreat
open Go.RowKit
end Go.Proofs.YtdajgcgliidjbaaGreat
namespace Go.Proofs.YtdajgcgliidjbaaGreat
open Go.RowKit
theorem Row1.put {w : World} {g c c' : Nat} {l l' : List Nat} (h : RowI w g l c) (hl : l'.length = 81) : RowI (w.setRow g (rowC l' c')) g l' c' := h.stored hl
end Go.Proofs.YtdajgcgliidjbaaGreat

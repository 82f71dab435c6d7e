import Derived.Test.YtdajgcgliidjbaaJHalf
import Derived.Deep.LoopGhost
namespace Go.Proofs.Ytdajgcgliidjbaa
open Go.RowKit
theorem RowA.storedApart {w : World} {g g' c : Nat} {l : List Nat} {cs : Array Value} (h : RowA w g l c) (hne : g ≠ g') : RowA (w.setRow g' cs) g l c := h.other (setRow_other w g' g cs hne)
end Go.Proofs.Ytdajgcgliidjbaa

import Derived.Test.YtdajgcgliidjbaaILow
import Derived.RegionTactic
import Derived.BigRegion
import Derived.Deep.RegionHeld3
import Derived.Deep.DrawnRows
import Derived.Deep.RegionLaw
import Derived.Test.YtdajgcgliidjbaaGreatW
namespace Go.Proofs.Ytdajgcgliidjbaa
open Go.RowKit
theorem below_new (w : World) (o : Obj) : Below w.heap.size w (w.alloc o) := (Below.refl _ _).alloc (Nat.le_refl _) _
theorem RowI.alloc {w : World} {g c : Nat} {l : List Nat} (h : RowI w g l c) (o : Obj) : RowI (w.alloc o) g l c := h.below (below_new w o) h.lt
end Go.Proofs.Ytdajgcgliidjbaa

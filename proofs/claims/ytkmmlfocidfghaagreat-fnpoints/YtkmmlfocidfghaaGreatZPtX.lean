import Derived.Test.YtkmmlfocidfghaaGreatXPairs
import Derived.Test.YtkmmlfocidfghaaGreatZPoint
namespace Go.Proofs.YtkmmlfocidfghaaGreat
open Go.RowKit
theorem zero_pt (w : World) : (zeroValue 25).run Tryz.prog w = .ok (.agg (tpT noT)) w := by kernel_rfl
end Go.Proofs.YtkmmlfocidfghaaGreat

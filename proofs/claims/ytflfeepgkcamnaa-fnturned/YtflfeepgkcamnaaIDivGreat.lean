/-
  The contract of impl.DivGreat.
-/
import Derived.Test.YtflfeepgkcamnaaIDivR
import Derived.Test.YtflfeepgkcamnaaNDivs
namespace Go.Proofs.Ytflfeepgkcamnaa
open Go.RowKit

end Go.Proofs.Ytflfeepgkcamnaa

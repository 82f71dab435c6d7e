/-
  The contract of impl.DivGreat.
-/
import Derived.Test.YtflfeepgkcamnaaGreatIDivR
import Derived.Test.YtflfeepgkcamnaaGreatNDivs
namespace Go.Proofs.YtflfeepgkcamnaaGreat
open Go.RowKit

end Go.Proofs.YtflfeepgkcamnaaGreat

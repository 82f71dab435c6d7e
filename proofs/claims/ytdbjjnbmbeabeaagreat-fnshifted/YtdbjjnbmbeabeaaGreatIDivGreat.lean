/-
  The contract of impl.DivGreat.
-/
import Derived.Test.YtdbjjnbmbeabeaaGreatIDivR
import Derived.Test.YtdbjjnbmbeabeaaGreatNDivs
namespace Go.Proofs.YtdbjjnbmbeabeaaGreat
open Go.RowKit

end Go.Proofs.YtdbjjnbmbeabeaaGreat

/-
  The contract of impl.DivGreat.
-/
import Derived.Test.YtdbjjnbmbeabeaaIDivR
import Derived.Test.YtdbjjnbmbeabeaaNDivs
namespace Go.Proofs.Ytdbjjnbmbeabeaa
open Go.RowKit

end Go.Proofs.Ytdbjjnbmbeabeaa

/-
  The contract of impl.DivGreat.
-/
import Derived.Test.YtpgcnopdbdlahaaIDivR
import Derived.Test.YtpgcnopdbdlahaaNDivs
namespace Go.Proofs.Ytpgcnopdbdlahaa
open Go.RowKit

end Go.Proofs.Ytpgcnopdbdlahaa

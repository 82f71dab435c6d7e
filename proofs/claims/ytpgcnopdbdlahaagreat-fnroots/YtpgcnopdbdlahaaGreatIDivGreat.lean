/-
  The contract of impl.DivGreat.
-/
import Derived.Test.YtpgcnopdbdlahaaGreatIDivR
import Derived.Test.YtpgcnopdbdlahaaGreatNDivs
namespace Go.Proofs.YtpgcnopdbdlahaaGreat
open Go.RowKit

end Go.Proofs.YtpgcnopdbdlahaaGreat

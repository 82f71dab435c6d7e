import Derived.Test.YtdajgcgliidjbaaSeqC
import Derived.Test.YtdajgcgliidjbaaJPairF
import Derived.Test.YtdajgcgliidjbaaUInvs
import Derived.Test.YtdajgcgliidjbaaQMath
import Derived.Test.YtdajgcgliidjbaaXPairs
namespace Go.Proofs.Ytdajgcgliidjbaa
open Go.RowKit
theorem built_pair0 : Try.prog.built 28 [] = some (aggT noP) := by
  cases hq : structParts Try.prog 28 with
  | none => have e := Try.partsPair; rw [hq] at e; cases e
  | some q =>
    obtain ⟨z, pl⟩ := q
    have e := Try.partsPair
    rw [hq] at e
    simp only [Option.map_some, Option.some.injEq, Prod.mk.injEq] at e
    obtain ⟨e1, rfl⟩ := e
    rw [built_parts hq, Instr.fill]
    exact congrArg some (Array.ext' e1)
end Go.Proofs.Ytdajgcgliidjbaa

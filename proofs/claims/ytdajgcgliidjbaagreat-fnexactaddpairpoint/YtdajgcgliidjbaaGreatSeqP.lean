import Derived.Test.YtdajgcgliidjbaaGreatSeqC
import Derived.Test.YtdajgcgliidjbaaGreatJPairF
import Derived.Test.YtdajgcgliidjbaaGreatUInvs
import Derived.Test.YtdajgcgliidjbaaGreatQMath
import Derived.Test.YtdajgcgliidjbaaGreatXPairs
namespace Go.Proofs.YtdajgcgliidjbaaGreat
open Go.RowKit
theorem built_pair0 : Tryz.prog.built 25 [] = some (aggT noP) := by
 cases hq : structParts Tryz.prog 25 with
 | none => have e := Tryz.partsPair; rw [hq] at e; cases e
 | some q =>
  obtain ⟨z, pl⟩ := q
  have e := Tryz.partsPair
  rw [hq] at e
  simp only [Option.map_some, Option.some.injEq, Prod.mk.injEq] at e
  obtain ⟨e1, rfl⟩ := e
  rw [built_parts hq, Instr.fill]
  exact congrArg some (Array.ext' e1)
end Go.Proofs.YtdajgcgliidjbaaGreat

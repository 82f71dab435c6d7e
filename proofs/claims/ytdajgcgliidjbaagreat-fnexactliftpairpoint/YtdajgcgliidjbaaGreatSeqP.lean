import Derived.Test.YtdajgcgliidjbaaGreatSeqC
import Derived.Test.YtdajgcgliidjbaaGreatJPairF
import Derived.Test.YtdajgcgliidjbaaGreatUInvs
import Derived.Test.YtdajgcgliidjbaaGreatQMath
import Derived.Test.YtdajgcgliidjbaaGreatJTri
namespace Go.Proofs.YtdajgcgliidjbaaGreat
open Go.RowKit
theorem built_pair0 : Tryz.prog.built 25 [] = some (aggT noP) := by
 cases hq : structParts Tryz.prog 25 with
 | none => have e := Tryz.partsPair; rw [hq] at e; cases e
 | some q =>
  obtain ⟨z, pl⟩ := q
  have e := Tryz.partsPair
  rw [hq] at e
  simp only [Option.map_some, Option.some.injEq, Prod.mk.injEq] at e
  obtain ⟨e1, rfl⟩ := e
  rw [built_parts hq, Instr.fill]
  exact congrArg some (Array.ext' e1)
theorem built_pairB (b : ByteArray) : Tryz.prog.built 25 [(1, .string b)] = some (aggT (⟨#[]⟩, b)) := by
 cases hq : structParts Tryz.prog 25 with
 | none => have e := Tryz.partsPair; rw [hq] at e; cases e
 | some q =>
  obtain ⟨z, pl⟩ := q
  have e := Tryz.partsPair
  rw [hq] at e
  simp only [Option.map_some, Option.some.injEq, Prod.mk.injEq] at e
  obtain ⟨e1, rfl⟩ := e
  rw [built_parts hq]
  have ez : z.cells = #[.string ⟨#[]⟩] ++ #[.string ⟨#[]⟩] ++ #[] := Array.ext' (by rw [e1]; rfl)
  rw [ez, fill_step (R := #[.string b]) (off := 1) (n := 1) rfl rfl rfl rfl rfl]
  simp [Instr.fill, aggT]
end Go.Proofs.YtdajgcgliidjbaaGreat

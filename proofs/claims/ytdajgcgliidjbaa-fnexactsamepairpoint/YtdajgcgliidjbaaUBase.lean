import Derived.Test.YtdajgcgliidjbaaRDraw
import Derived.Test.YtdajgcgliidjbaaMAll
import Derived.Maps.AppendAt
import Derived.Laws.AppendOwnNone
import Derived.Deep.RegionHeld3
import Derived.OrdersHeld
import Derived.Laws.Tables
/-
  What chapter 7 answers, as plain functions of numbers and texts, and plain facts of them.
-/
namespace Go.Proofs.Ytdajgcgliidjbaa
end Go.Proofs.Ytdajgcgliidjbaa
/-
  What chapter 7 answers, as plain functions of the texts, and what its laws ask of them.
-/
namespace Go.Proofs.Ytdajgcgliidjbaa
abbrev Pt := ByteArray × ByteArray
def noP : Pt := (⟨#[]⟩, ⟨#[]⟩)
end Go.Proofs.Ytdajgcgliidjbaa
/-
  The contracts of spec's functions of chapter 7.
-/
namespace Go.Proofs.Ytdajgcgliidjbaa
open Go.RowKit
def aggT (x : Pt) : Array Value := #[.string x.1, .string x.2]
end Go.Proofs.Ytdajgcgliidjbaa
/-
  The contracts of spec's l07In and l07Out.
-/
namespace Go.Proofs.Ytdajgcgliidjbaa
open Go.RowKit
theorem Try.infoP : (Try.prog.info? 28).map (·.size) = some 2 := by kernel_rfl
end Go.Proofs.Ytdajgcgliidjbaa

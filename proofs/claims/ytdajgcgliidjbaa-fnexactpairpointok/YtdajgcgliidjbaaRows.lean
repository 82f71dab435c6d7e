/-
  No cell of these rows narrows 'for every input' (looked for: loops, veiled, ifaces, maps, wideKeys, modest, calm, conditions, laid).
  DERIVED. THE GIVEN ROWS OF THIS SEAT. 4 by the template 'for every input the law returns true; each argument reads behind the call as it read before'; 0 by the template 'total and deterministic' (their statements: YtdajgcgliidjbaaTotals.lean).
  GIVEN WITH THE SEED: the statements are not yours to turn. If you find one false, say at which input.
  Laid BY PROGRAM, IN A SANDBOX (cutbox-rows.mjs): the forced cells as the released guide's own fill.sh prints them over the translation 7bc3574a141f823b… (all of the seat's roots in one cut). By AI agents, Wed Nov 11 2026. No macro, syntax, notation, axiom, sorry.
-/
import Derived.Test.YtdajgcgliidjbaaChecked
import GoSem.Claim
import GoSem.ClaimJoined
import GoSem.ClaimMapViews
import Derived.JoinedTies
import Derived.KernelRfl
namespace Go.Proofs.Ytdajgcgliidjbaa
/- THE CELL 'sum', in the pinned program and in every row, IS THE sha256 OF THE DUMP (.gsa) THAT YtdajgcgliidjbaaProg.lean LOADS. Nothing in Lean hashes anything: it is a label: what it is worth is what the hold of that sum in a sandbox is worth. -/
noncomputable def Try.pinned : Pinned := { name := "ytdajgcgliidjbaa", sum := "7bc3574a141f823bea6b0865ca42a466631141b2d50982fddcae27efd6d33f24", checked := Try.checked }
namespace Rows
def none {H : Type} : Left H := { results := [], args := [] }

/-- 'laws.FnExactPairPointOk': WHATEVER THE INPUT: true; the input reads as it did. -/
def fnExactPairPointOkSpec : ChangeSpec := { name := "fnExactPairPointOk", fn := fun _ => fun
  | [d1, d2] => { results := [.lit (.bool true)], args := [d1, d2] }
  | _ => none }
def fnExactPairPointOkRow : OpenClaim := { program := "ytdajgcgliidjbaa", sum := "7bc3574a141f823bea6b0865ca42a466631141b2d50982fddcae27efd6d33f24", func := "loop.example/g00970/laws.FnExactPairPointOk", spec := "fnExactPairPointOk", inPlace := ["internal/bytealg.abigen_runtime_cmpstring"], recurses := true, named := ["math/bits.overflowError"], apart := false }
def FnExactPairPointOkSaid : Prop := fnExactPairPointOkRow.holds Try.pinned (OpenSpec.ofChange fnExactPairPointOkSpec)

/-- ITS FALSE NEIGHBOUR: 'it returns false'. Refute it at one input. -/
def fnExactPairPointOkWrong : ChangeSpec := { name := "fnExactPairPointOk", fn := fun _ => fun
  | [d1, d2] => { results := [.lit (.bool false)], args := [d1, d2] }
  | _ => none }
def FnExactPairPointOkWrongFalsely : Prop := fnExactPairPointOkRow.holds Try.pinned (OpenSpec.ofChange fnExactPairPointOkWrong)

/-- 'laws.FnExactPairBase': WHATEVER THE INPUT: true; the input reads as it did. -/
def fnExactPairBaseSpec : ChangeSpec := { name := "fnExactPairBase", fn := fun _ => fun
  | [d] => { results := [.lit (.bool true)], args := [d] }
  | _ => none }
def fnExactPairBaseRow : OpenClaim := { program := "ytdajgcgliidjbaa", sum := "7bc3574a141f823bea6b0865ca42a466631141b2d50982fddcae27efd6d33f24", func := "loop.example/g00970/laws.FnExactPairBase", spec := "fnExactPairBase", apart := false }
def FnExactPairBaseSaid : Prop := fnExactPairBaseRow.holds Try.pinned (OpenSpec.ofChange fnExactPairBaseSpec)

/-- ITS FALSE NEIGHBOUR: 'it returns false'. Refute it at one input. -/
def fnExactPairBaseWrong : ChangeSpec := { name := "fnExactPairBase", fn := fun _ => fun
  | [d] => { results := [.lit (.bool false)], args := [d] }
  | _ => none }
def FnExactPairBaseWrongFalsely : Prop := fnExactPairBaseRow.holds Try.pinned (OpenSpec.ofChange fnExactPairBaseWrong)

/-- 'laws.FnExactNegPairPoint': WHATEVER THE INPUT: true; the input reads as it did. -/
def fnExactNegPairPointSpec : ChangeSpec := { name := "fnExactNegPairPoint", fn := fun _ => fun
  | [d1, d2] => { results := [.lit (.bool true)], args := [d1, d2] }
  | _ => none }
def fnExactNegPairPointRow : OpenClaim := { program := "ytdajgcgliidjbaa", sum := "7bc3574a141f823bea6b0865ca42a466631141b2d50982fddcae27efd6d33f24", func := "loop.example/g00970/laws.FnExactNegPairPoint", spec := "fnExactNegPairPoint", inPlace := ["internal/bytealg.abigen_runtime_cmpstring"], recurses := true, named := ["math/bits.overflowError"], apart := false }
def FnExactNegPairPointSaid : Prop := fnExactNegPairPointRow.holds Try.pinned (OpenSpec.ofChange fnExactNegPairPointSpec)

/-- ITS FALSE NEIGHBOUR: 'it returns false'. Refute it at one input. -/
def fnExactNegPairPointWrong : ChangeSpec := { name := "fnExactNegPairPoint", fn := fun _ => fun
  | [d1, d2] => { results := [.lit (.bool false)], args := [d1, d2] }
  | _ => none }
def FnExactNegPairPointWrongFalsely : Prop := fnExactNegPairPointRow.holds Try.pinned (OpenSpec.ofChange fnExactNegPairPointWrong)

/-- 'laws.FnExactSamePairPoint': WHATEVER THE INPUT: true; the input reads as it did. -/
def fnExactSamePairPointSpec : ChangeSpec := { name := "fnExactSamePairPoint", fn := fun _ => fun
  | [d1, d2] => { results := [.lit (.bool true)], args := [d1, d2] }
  | _ => none }
def fnExactSamePairPointRow : OpenClaim := { program := "ytdajgcgliidjbaa", sum := "7bc3574a141f823bea6b0865ca42a466631141b2d50982fddcae27efd6d33f24", func := "loop.example/g00970/laws.FnExactSamePairPoint", spec := "fnExactSamePairPoint", apart := false }
def FnExactSamePairPointSaid : Prop := fnExactSamePairPointRow.holds Try.pinned (OpenSpec.ofChange fnExactSamePairPointSpec)

/-- ITS FALSE NEIGHBOUR: 'it returns false'. Refute it at one input. -/
def fnExactSamePairPointWrong : ChangeSpec := { name := "fnExactSamePairPoint", fn := fun _ => fun
  | [d1, d2] => { results := [.lit (.bool false)], args := [d1, d2] }
  | _ => none }
def FnExactSamePairPointWrongFalsely : Prop := fnExactSamePairPointRow.holds Try.pinned (OpenSpec.ofChange fnExactSamePairPointWrong)

/- THE SECOND FORM. 'bulk': how many values and letters a reading holds, each counted each time it is reached (what is shared counts as often as it is met; a slice's spare places count too). A statement '..UptoSaid' is the law's where the arguments, and the package variables that the reading takes, are together of bulk at most 1048576: NARROWER than '..Said'. Prove '..Said' where nothing that the law and all that it calls make is longer than what came in: it says more and counts as full. Else prove '..UptoSaid'. A law counts once. -/
mutual
def uptoBulk {H : Type} : DataW H → Nat
  | .lit (.string bytes) => bytes.length + 1
  | .lit _ => 1
  | .nil => 1
  | .ptr d => uptoBulk d + 1
  | .slice elems spare => uptoBulkAll elems + uptoBulkAll spare + 1
  | .agg parts => uptoBulkAll parts + 1
  | .iface _ d => uptoBulk d + 1
  | .map entries => uptoBulkEntries entries + 1
  | .held _ => 1
def uptoBulkAll {H : Type} : List (DataW H) → Nat
  | [] => 0
  | d :: r => uptoBulk d + uptoBulkAll r
def uptoBulkEntries {H : Type} : List (Lit × DataW H) → Nat
  | [] => 0
  | x :: r => uptoBulkEntry x + uptoBulkEntries r
def uptoBulkEntry {H : Type} : Lit × DataW H → Nat
  | (.string bytes, d) => bytes.length + uptoBulk d + 1
  | (_, d) => uptoBulk d + 1
 end
def uptoSmall : (H : Type) → List (DataW H) → Bool := fun _ ds => decide (uptoBulkAll ds ≤ 1048576)
def OpenSpec.upto (s : _root_.Go.ChangeSpec) : _root_.Go.OpenSpec := { _root_.Go.OpenSpec.ofChange s with cond := some uptoSmall }

/-- 'laws.FnExactPairPointOk', WHERE WHAT IT READS IS OF BULK AT MOST 1048576: true; the input reads as it did. -/
def fnExactPairPointOkUptoRow : OpenClaim := { program := "ytdajgcgliidjbaa", sum := "7bc3574a141f823bea6b0865ca42a466631141b2d50982fddcae27efd6d33f24", func := "loop.example/g00970/laws.FnExactPairPointOk", spec := "fnExactPairPointOk", inPlace := ["internal/bytealg.abigen_runtime_cmpstring"], recurses := true, named := ["math/bits.overflowError"], apart := false, narrowed := true }
def FnExactPairPointOkUptoSaid : Prop := fnExactPairPointOkUptoRow.holds Try.pinned (OpenSpec.upto fnExactPairPointOkSpec)

/-- 'laws.FnExactPairBase', WHERE WHAT IT READS IS OF BULK AT MOST 1048576: true; the input reads as it did. -/
def fnExactPairBaseUptoRow : OpenClaim := { program := "ytdajgcgliidjbaa", sum := "7bc3574a141f823bea6b0865ca42a466631141b2d50982fddcae27efd6d33f24", func := "loop.example/g00970/laws.FnExactPairBase", spec := "fnExactPairBase", apart := false, narrowed := true }
def FnExactPairBaseUptoSaid : Prop := fnExactPairBaseUptoRow.holds Try.pinned (OpenSpec.upto fnExactPairBaseSpec)

/-- 'laws.FnExactNegPairPoint', WHERE WHAT IT READS IS OF BULK AT MOST 1048576: true; the input reads as it did. -/
def fnExactNegPairPointUptoRow : OpenClaim := { program := "ytdajgcgliidjbaa", sum := "7bc3574a141f823bea6b0865ca42a466631141b2d50982fddcae27efd6d33f24", func := "loop.example/g00970/laws.FnExactNegPairPoint", spec := "fnExactNegPairPoint", inPlace := ["internal/bytealg.abigen_runtime_cmpstring"], recurses := true, named := ["math/bits.overflowError"], apart := false, narrowed := true }
def FnExactNegPairPointUptoSaid : Prop := fnExactNegPairPointUptoRow.holds Try.pinned (OpenSpec.upto fnExactNegPairPointSpec)

/-- 'laws.FnExactSamePairPoint', WHERE WHAT IT READS IS OF BULK AT MOST 1048576: true; the input reads as it did. -/
def fnExactSamePairPointUptoRow : OpenClaim := { program := "ytdajgcgliidjbaa", sum := "7bc3574a141f823bea6b0865ca42a466631141b2d50982fddcae27efd6d33f24", func := "loop.example/g00970/laws.FnExactSamePairPoint", spec := "fnExactSamePairPoint", apart := false, narrowed := true }
def FnExactSamePairPointUptoSaid : Prop := fnExactSamePairPointUptoRow.holds Try.pinned (OpenSpec.upto fnExactSamePairPointSpec)

end Rows
end Go.Proofs.Ytdajgcgliidjbaa

/-
  No cell of these rows narrows 'for every input' (looked for: loops, veiled, ifaces, maps, wideKeys, modest, calm, conditions, laid).
  DERIVED. THE GIVEN ROWS OF THIS SEAT. 7 by the template 'for every input the law returns true; each argument reads behind the call as it read before'; 0 by the template 'total and deterministic' (their statements: YtmbhodhghgdbhaaTotals.lean).
  GIVEN WITH THE SEED: the statements are not yours to turn. If you find one false, say at which input.
  Laid BY PROGRAM, IN A SANDBOX (cutbox-rows.mjs): the forced cells as the released guide's own fill.sh prints them over the translation 45da6d4f97936ab3… (all of the seat's roots in one cut). By AI agents, Wed Nov 11 2026. No macro, syntax, notation, axiom, sorry.
-/
import Derived.Test.YtmbhodhghgdbhaaChecked
import GoSem.Claim
import GoSem.ClaimJoined
import GoSem.ClaimMapViews
import Derived.JoinedTies
import Derived.KernelRfl
namespace Go.Proofs.Ytmbhodhghgdbhaa
/- THE CELL 'sum', in the pinned program and in every row, IS THE sha256 OF THE DUMP (.gsa) THAT YtmbhodhghgdbhaaProg.lean LOADS. Nothing in Lean hashes anything: it is a label: what it is worth is what the hold of that sum in a sandbox is worth. -/
noncomputable def Try.pinned : Pinned := { name := "ytmbhodhghgdbhaa", sum := "45da6d4f97936ab3759e39c35cbf24ad3e08800a2af3803fd62c8b3c7bae6124", checked := Try.checked }
namespace Rows
def none {H : Type} : Left H := { results := [], args := [] }

/-- 'laws.FnCurves': WHATEVER THE INPUT: true; the input reads as it did. -/
def fnCurvesSpec : ChangeSpec := { name := "fnCurves", fn := fun _ => fun
  | [d] => { results := [.lit (.bool true)], args := [d] }
  | _ => none }
def fnCurvesRow : OpenClaim := { program := "ytmbhodhghgdbhaa", sum := "45da6d4f97936ab3759e39c35cbf24ad3e08800a2af3803fd62c8b3c7bae6124", func := "loop.example/g00970/laws.FnCurves", spec := "fnCurves", inPlace := ["internal/bytealg.abigen_runtime_cmpstring"], unfollowed := true, recurses := true, named := ["math/bits.overflowError"], apart := false }
def FnCurvesSaid : Prop := fnCurvesRow.holds Try.pinned (OpenSpec.ofChange fnCurvesSpec)

/-- ITS FALSE NEIGHBOUR: 'it returns false'. Refute it at one input. -/
def fnCurvesWrong : ChangeSpec := { name := "fnCurves", fn := fun _ => fun
  | [d] => { results := [.lit (.bool false)], args := [d] }
  | _ => none }
def FnCurvesWrongFalsely : Prop := fnCurvesRow.holds Try.pinned (OpenSpec.ofChange fnCurvesWrong)

/-- 'laws.FnExactCurveOf': WHATEVER THE INPUT: true; the input reads as it did. -/
def fnExactCurveOfSpec : ChangeSpec := { name := "fnExactCurveOf", fn := fun _ => fun
  | [d] => { results := [.lit (.bool true)], args := [d] }
  | _ => none }
def fnExactCurveOfRow : OpenClaim := { program := "ytmbhodhghgdbhaa", sum := "45da6d4f97936ab3759e39c35cbf24ad3e08800a2af3803fd62c8b3c7bae6124", func := "loop.example/g00970/laws.FnExactCurveOf", spec := "fnExactCurveOf", apart := false }
def FnExactCurveOfSaid : Prop := fnExactCurveOfRow.holds Try.pinned (OpenSpec.ofChange fnExactCurveOfSpec)

/-- ITS FALSE NEIGHBOUR: 'it returns false'. Refute it at one input. -/
def fnExactCurveOfWrong : ChangeSpec := { name := "fnExactCurveOf", fn := fun _ => fun
  | [d] => { results := [.lit (.bool false)], args := [d] }
  | _ => none }
def FnExactCurveOfWrongFalsely : Prop := fnExactCurveOfRow.holds Try.pinned (OpenSpec.ofChange fnExactCurveOfWrong)

/-- 'laws.FnExactCurveNamed': WHATEVER THE INPUT: true; the input reads as it did. -/
def fnExactCurveNamedSpec : ChangeSpec := { name := "fnExactCurveNamed", fn := fun _ => fun
  | [d] => { results := [.lit (.bool true)], args := [d] }
  | _ => none }
def fnExactCurveNamedRow : OpenClaim := { program := "ytmbhodhghgdbhaa", sum := "45da6d4f97936ab3759e39c35cbf24ad3e08800a2af3803fd62c8b3c7bae6124", func := "loop.example/g00970/laws.FnExactCurveNamed", spec := "fnExactCurveNamed", apart := false }
def FnExactCurveNamedSaid : Prop := fnExactCurveNamedRow.holds Try.pinned (OpenSpec.ofChange fnExactCurveNamedSpec)

/-- ITS FALSE NEIGHBOUR: 'it returns false'. Refute it at one input. -/
def fnExactCurveNamedWrong : ChangeSpec := { name := "fnExactCurveNamed", fn := fun _ => fun
  | [d] => { results := [.lit (.bool false)], args := [d] }
  | _ => none }
def FnExactCurveNamedWrongFalsely : Prop := fnExactCurveNamedRow.holds Try.pinned (OpenSpec.ofChange fnExactCurveNamedWrong)

/-- 'laws.FnExactCubeAnd': WHATEVER THE INPUT: true; the input reads as it did. -/
def fnExactCubeAndSpec : ChangeSpec := { name := "fnExactCubeAnd", fn := fun _ => fun
  | [d1, d2] => { results := [.lit (.bool true)], args := [d1, d2] }
  | _ => none }
def fnExactCubeAndRow : OpenClaim := { program := "ytmbhodhghgdbhaa", sum := "45da6d4f97936ab3759e39c35cbf24ad3e08800a2af3803fd62c8b3c7bae6124", func := "loop.example/g00970/laws.FnExactCubeAnd", spec := "fnExactCubeAnd", inPlace := ["internal/bytealg.abigen_runtime_cmpstring"], unfollowed := true, recurses := true, named := ["math/bits.overflowError"], apart := false }
def FnExactCubeAndSaid : Prop := fnExactCubeAndRow.holds Try.pinned (OpenSpec.ofChange fnExactCubeAndSpec)

/-- ITS FALSE NEIGHBOUR: 'it returns false'. Refute it at one input. -/
def fnExactCubeAndWrong : ChangeSpec := { name := "fnExactCubeAnd", fn := fun _ => fun
  | [d1, d2] => { results := [.lit (.bool false)], args := [d1, d2] }
  | _ => none }
def FnExactCubeAndWrongFalsely : Prop := fnExactCubeAndRow.holds Try.pinned (OpenSpec.ofChange fnExactCubeAndWrong)

/-- 'laws.FnExactCubeAndPair': WHATEVER THE INPUT: true; the input reads as it did. -/
def fnExactCubeAndPairSpec : ChangeSpec := { name := "fnExactCubeAndPair", fn := fun _ => fun
  | [d1, d2] => { results := [.lit (.bool true)], args := [d1, d2] }
  | _ => none }
def fnExactCubeAndPairRow : OpenClaim := { program := "ytmbhodhghgdbhaa", sum := "45da6d4f97936ab3759e39c35cbf24ad3e08800a2af3803fd62c8b3c7bae6124", func := "loop.example/g00970/laws.FnExactCubeAndPair", spec := "fnExactCubeAndPair", inPlace := ["internal/bytealg.abigen_runtime_cmpstring"], recurses := true, named := ["math/bits.overflowError"], apart := false }
def FnExactCubeAndPairSaid : Prop := fnExactCubeAndPairRow.holds Try.pinned (OpenSpec.ofChange fnExactCubeAndPairSpec)

/-- ITS FALSE NEIGHBOUR: 'it returns false'. Refute it at one input. -/
def fnExactCubeAndPairWrong : ChangeSpec := { name := "fnExactCubeAndPair", fn := fun _ => fun
  | [d1, d2] => { results := [.lit (.bool false)], args := [d1, d2] }
  | _ => none }
def FnExactCubeAndPairWrongFalsely : Prop := fnExactCubeAndPairRow.holds Try.pinned (OpenSpec.ofChange fnExactCubeAndPairWrong)

/-- 'laws.FnExactScalarOk': WHATEVER THE INPUT: true; the input reads as it did. -/
def fnExactScalarOkSpec : ChangeSpec := { name := "fnExactScalarOk", fn := fun _ => fun
  | [d1, d2] => { results := [.lit (.bool true)], args := [d1, d2] }
  | _ => none }
def fnExactScalarOkRow : OpenClaim := { program := "ytmbhodhghgdbhaa", sum := "45da6d4f97936ab3759e39c35cbf24ad3e08800a2af3803fd62c8b3c7bae6124", func := "loop.example/g00970/laws.FnExactScalarOk", spec := "fnExactScalarOk", inPlace := ["internal/bytealg.abigen_runtime_cmpstring"], apart := false }
def FnExactScalarOkSaid : Prop := fnExactScalarOkRow.holds Try.pinned (OpenSpec.ofChange fnExactScalarOkSpec)

/-- ITS FALSE NEIGHBOUR: 'it returns false'. Refute it at one input. -/
def fnExactScalarOkWrong : ChangeSpec := { name := "fnExactScalarOk", fn := fun _ => fun
  | [d1, d2] => { results := [.lit (.bool false)], args := [d1, d2] }
  | _ => none }
def FnExactScalarOkWrongFalsely : Prop := fnExactScalarOkRow.holds Try.pinned (OpenSpec.ofChange fnExactScalarOkWrong)

/-- 'laws.FnExactSpareBits': WHATEVER THE INPUT: true; the input reads as it did. -/
def fnExactSpareBitsSpec : ChangeSpec := { name := "fnExactSpareBits", fn := fun _ => fun
  | [d] => { results := [.lit (.bool true)], args := [d] }
  | _ => none }
def fnExactSpareBitsRow : OpenClaim := { program := "ytmbhodhghgdbhaa", sum := "45da6d4f97936ab3759e39c35cbf24ad3e08800a2af3803fd62c8b3c7bae6124", func := "loop.example/g00970/laws.FnExactSpareBits", spec := "fnExactSpareBits", apart := false }
def FnExactSpareBitsSaid : Prop := fnExactSpareBitsRow.holds Try.pinned (OpenSpec.ofChange fnExactSpareBitsSpec)

/-- ITS FALSE NEIGHBOUR: 'it returns false'. Refute it at one input. -/
def fnExactSpareBitsWrong : ChangeSpec := { name := "fnExactSpareBits", fn := fun _ => fun
  | [d] => { results := [.lit (.bool false)], args := [d] }
  | _ => none }
def FnExactSpareBitsWrongFalsely : Prop := fnExactSpareBitsRow.holds Try.pinned (OpenSpec.ofChange fnExactSpareBitsWrong)

/- THE SECOND FORM. 'bulk': how many values and letters a reading holds, each counted each time it is reached (what is shared counts as often as it is met; a slice's spare places count too). A statement '..UptoSaid' is the law's where the arguments, and the package variables that the reading takes, are together of bulk at most 1048576: NARROWER than '..Said'. Prove '..Said' where nothing that the law and all that it calls make is longer than what came in: it says more and counts as full. Else prove '..UptoSaid'. A law counts once. -/
mutual
def uptoBulk {H : Type} : DataW H → Nat
  | .lit (.string bytes) => bytes.length + 1
  | .lit _ => 1
  | .nil => 1
  | .ptr d => uptoBulk d + 1
  | .slice elems spare => uptoBulkAll elems + uptoBulkAll spare + 1
  | .agg parts => uptoBulkAll parts + 1
  | .iface _ d => uptoBulk d + 1
  | .map entries => uptoBulkEntries entries + 1
  | .held _ => 1
def uptoBulkAll {H : Type} : List (DataW H) → Nat
  | [] => 0
  | d :: r => uptoBulk d + uptoBulkAll r
def uptoBulkEntries {H : Type} : List (Lit × DataW H) → Nat
  | [] => 0
  | x :: r => uptoBulkEntry x + uptoBulkEntries r
def uptoBulkEntry {H : Type} : Lit × DataW H → Nat
  | (.string bytes, d) => bytes.length + uptoBulk d + 1
  | (_, d) => uptoBulk d + 1
 end
def uptoSmall : (H : Type) → List (DataW H) → Bool := fun _ ds => decide (uptoBulkAll ds ≤ 1048576)
def OpenSpec.upto (s : _root_.Go.ChangeSpec) : _root_.Go.OpenSpec := { _root_.Go.OpenSpec.ofChange s with cond := some uptoSmall }

/-- 'laws.FnCurves', WHERE WHAT IT READS IS OF BULK AT MOST 1048576: true; the input reads as it did. -/
def fnCurvesUptoRow : OpenClaim := { program := "ytmbhodhghgdbhaa", sum := "45da6d4f97936ab3759e39c35cbf24ad3e08800a2af3803fd62c8b3c7bae6124", func := "loop.example/g00970/laws.FnCurves", spec := "fnCurves", inPlace := ["internal/bytealg.abigen_runtime_cmpstring"], unfollowed := true, recurses := true, named := ["math/bits.overflowError"], apart := false, narrowed := true }
def FnCurvesUptoSaid : Prop := fnCurvesUptoRow.holds Try.pinned (OpenSpec.upto fnCurvesSpec)

/-- 'laws.FnExactCurveOf', WHERE WHAT IT READS IS OF BULK AT MOST 1048576: true; the input reads as it did. -/
def fnExactCurveOfUptoRow : OpenClaim := { program := "ytmbhodhghgdbhaa", sum := "45da6d4f97936ab3759e39c35cbf24ad3e08800a2af3803fd62c8b3c7bae6124", func := "loop.example/g00970/laws.FnExactCurveOf", spec := "fnExactCurveOf", apart := false, narrowed := true }
def FnExactCurveOfUptoSaid : Prop := fnExactCurveOfUptoRow.holds Try.pinned (OpenSpec.upto fnExactCurveOfSpec)

/-- 'laws.FnExactCurveNamed', WHERE WHAT IT READS IS OF BULK AT MOST 1048576: true; the input reads as it did. -/
def fnExactCurveNamedUptoRow : OpenClaim := { program := "ytmbhodhghgdbhaa", sum := "45da6d4f97936ab3759e39c35cbf24ad3e08800a2af3803fd62c8b3c7bae6124", func := "loop.example/g00970/laws.FnExactCurveNamed", spec := "fnExactCurveNamed", apart := false, narrowed := true }
def FnExactCurveNamedUptoSaid : Prop := fnExactCurveNamedUptoRow.holds Try.pinned (OpenSpec.upto fnExactCurveNamedSpec)

/-- 'laws.FnExactCubeAnd', WHERE WHAT IT READS IS OF BULK AT MOST 1048576: true; the input reads as it did. -/
def fnExactCubeAndUptoRow : OpenClaim := { program := "ytmbhodhghgdbhaa", sum := "45da6d4f97936ab3759e39c35cbf24ad3e08800a2af3803fd62c8b3c7bae6124", func := "loop.example/g00970/laws.FnExactCubeAnd", spec := "fnExactCubeAnd", inPlace := ["internal/bytealg.abigen_runtime_cmpstring"], unfollowed := true, recurses := true, named := ["math/bits.overflowError"], apart := false, narrowed := true }
def FnExactCubeAndUptoSaid : Prop := fnExactCubeAndUptoRow.holds Try.pinned (OpenSpec.upto fnExactCubeAndSpec)

/-- 'laws.FnExactCubeAndPair', WHERE WHAT IT READS IS OF BULK AT MOST 1048576: true; the input reads as it did. -/
def fnExactCubeAndPairUptoRow : OpenClaim := { program := "ytmbhodhghgdbhaa", sum := "45da6d4f97936ab3759e39c35cbf24ad3e08800a2af3803fd62c8b3c7bae6124", func := "loop.example/g00970/laws.FnExactCubeAndPair", spec := "fnExactCubeAndPair", inPlace := ["internal/bytealg.abigen_runtime_cmpstring"], recurses := true, named := ["math/bits.overflowError"], apart := false, narrowed := true }
def FnExactCubeAndPairUptoSaid : Prop := fnExactCubeAndPairUptoRow.holds Try.pinned (OpenSpec.upto fnExactCubeAndPairSpec)

/-- 'laws.FnExactScalarOk', WHERE WHAT IT READS IS OF BULK AT MOST 1048576: true; the input reads as it did. -/
def fnExactScalarOkUptoRow : OpenClaim := { program := "ytmbhodhghgdbhaa", sum := "45da6d4f97936ab3759e39c35cbf24ad3e08800a2af3803fd62c8b3c7bae6124", func := "loop.example/g00970/laws.FnExactScalarOk", spec := "fnExactScalarOk", inPlace := ["internal/bytealg.abigen_runtime_cmpstring"], apart := false, narrowed := true }
def FnExactScalarOkUptoSaid : Prop := fnExactScalarOkUptoRow.holds Try.pinned (OpenSpec.upto fnExactScalarOkSpec)

/-- 'laws.FnExactSpareBits', WHERE WHAT IT READS IS OF BULK AT MOST 1048576: true; the input reads as it did. -/
def fnExactSpareBitsUptoRow : OpenClaim := { program := "ytmbhodhghgdbhaa", sum := "45da6d4f97936ab3759e39c35cbf24ad3e08800a2af3803fd62c8b3c7bae6124", func := "loop.example/g00970/laws.FnExactSpareBits", spec := "fnExactSpareBits", apart := false, narrowed := true }
def FnExactSpareBitsUptoSaid : Prop := fnExactSpareBitsUptoRow.holds Try.pinned (OpenSpec.upto fnExactSpareBitsSpec)

end Rows
end Go.Proofs.Ytmbhodhghgdbhaa

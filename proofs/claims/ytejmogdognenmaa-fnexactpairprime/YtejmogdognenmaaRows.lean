/-
  No cell of these rows narrows 'for every input' (looked for: loops, veiled, ifaces, maps, wideKeys, modest, calm, conditions, laid).
  DERIVED. THE GIVEN ROWS OF THIS SEAT. 3 by the template 'for every input the law returns true; each argument reads behind the call as it read before'; 0 by the template 'total and deterministic' (their statements: YtejmogdognenmaaTotals.lean).
  GIVEN WITH THE SEED: the statements are not yours to turn. If you find one false, say at which input.
  Laid BY PROGRAM, IN A SANDBOX (cutbox-rows.mjs): the forced cells as the released guide's own fill.sh prints them over the translation 3eee3c86f8e9f67c… (all of the seat's roots in one cut). By AI agents, Wed Nov 11 2026. No macro, syntax, notation, axiom, sorry.
-/
import Derived.Test.YtejmogdognenmaaChecked
import GoSem.Claim
import GoSem.ClaimJoined
import GoSem.ClaimMapViews
import Derived.JoinedTies
import Derived.KernelRfl
namespace Go.Proofs.Ytejmogdognenmaa
/- THE CELL 'sum', in the pinned program and in every row, IS THE sha256 OF THE DUMP (.gsa) THAT YtejmogdognenmaaProg.lean LOADS. Nothing in Lean hashes anything: it is a label: what it is worth is what the hold of that sum in a sandbox is worth. -/
noncomputable def Try.pinned : Pinned := { name := "ytejmogdognenmaa", sum := "3eee3c86f8e9f67cf54c60e54cbecb7d8eff36077c27128feb16f66b9e581ea0", checked := Try.checked }
namespace Rows
def none {H : Type} : Left H := { results := [], args := [] }

/-- 'laws.FnExactPairPrime': WHATEVER THE INPUT: true; the input reads as it did. -/
def fnExactPairPrimeSpec : ChangeSpec := { name := "fnExactPairPrime", fn := fun _ => fun
  | [d] => { results := [.lit (.bool true)], args := [d] }
  | _ => none }
def fnExactPairPrimeRow : OpenClaim := { program := "ytejmogdognenmaa", sum := "3eee3c86f8e9f67cf54c60e54cbecb7d8eff36077c27128feb16f66b9e581ea0", func := "loop.example/g00970/laws.FnExactPairPrime", spec := "fnExactPairPrime", apart := false }
def FnExactPairPrimeSaid : Prop := fnExactPairPrimeRow.holds Try.pinned (OpenSpec.ofChange fnExactPairPrimeSpec)

/-- ITS FALSE NEIGHBOUR: 'it returns false'. Refute it at one input. -/
def fnExactPairPrimeWrong : ChangeSpec := { name := "fnExactPairPrime", fn := fun _ => fun
  | [d] => { results := [.lit (.bool false)], args := [d] }
  | _ => none }
def FnExactPairPrimeWrongFalsely : Prop := fnExactPairPrimeRow.holds Try.pinned (OpenSpec.ofChange fnExactPairPrimeWrong)

/-- 'laws.FnExactPairGreater': WHATEVER THE INPUT: true; the input reads as it did. -/
def fnExactPairGreaterSpec : ChangeSpec := { name := "fnExactPairGreater", fn := fun _ => fun
  | [d1, d2] => { results := [.lit (.bool true)], args := [d1, d2] }
  | _ => none }
def fnExactPairGreaterRow : OpenClaim := { program := "ytejmogdognenmaa", sum := "3eee3c86f8e9f67cf54c60e54cbecb7d8eff36077c27128feb16f66b9e581ea0", func := "loop.example/g00970/laws.FnExactPairGreater", spec := "fnExactPairGreater", inPlace := ["internal/bytealg.abigen_runtime_cmpstring"], unfollowed := true, recurses := true, named := ["math/bits.overflowError"], apart := false }
def FnExactPairGreaterSaid : Prop := fnExactPairGreaterRow.holds Try.pinned (OpenSpec.ofChange fnExactPairGreaterSpec)

/-- ITS FALSE NEIGHBOUR: 'it returns false'. Refute it at one input. -/
def fnExactPairGreaterWrong : ChangeSpec := { name := "fnExactPairGreater", fn := fun _ => fun
  | [d1, d2] => { results := [.lit (.bool false)], args := [d1, d2] }
  | _ => none }
def FnExactPairGreaterWrongFalsely : Prop := fnExactPairGreaterRow.holds Try.pinned (OpenSpec.ofChange fnExactPairGreaterWrong)

/-- 'laws.FnExactPairSquare': WHATEVER THE INPUT: true; the input reads as it did. -/
def fnExactPairSquareSpec : ChangeSpec := { name := "fnExactPairSquare", fn := fun _ => fun
  | [d1, d2] => { results := [.lit (.bool true)], args := [d1, d2] }
  | _ => none }
def fnExactPairSquareRow : OpenClaim := { program := "ytejmogdognenmaa", sum := "3eee3c86f8e9f67cf54c60e54cbecb7d8eff36077c27128feb16f66b9e581ea0", func := "loop.example/g00970/laws.FnExactPairSquare", spec := "fnExactPairSquare", inPlace := ["internal/bytealg.abigen_runtime_cmpstring"], recurses := true, named := ["math/bits.overflowError"], apart := false }
def FnExactPairSquareSaid : Prop := fnExactPairSquareRow.holds Try.pinned (OpenSpec.ofChange fnExactPairSquareSpec)

/-- ITS FALSE NEIGHBOUR: 'it returns false'. Refute it at one input. -/
def fnExactPairSquareWrong : ChangeSpec := { name := "fnExactPairSquare", fn := fun _ => fun
  | [d1, d2] => { results := [.lit (.bool false)], args := [d1, d2] }
  | _ => none }
def FnExactPairSquareWrongFalsely : Prop := fnExactPairSquareRow.holds Try.pinned (OpenSpec.ofChange fnExactPairSquareWrong)

/- THE SECOND FORM. 'bulk': how many values and letters a reading holds, each counted each time it is reached (what is shared counts as often as it is met; a slice's spare places count too). A statement '..UptoSaid' is the law's where the arguments, and the package variables that the reading takes, are together of bulk at most 1048576: NARROWER than '..Said'. Prove '..Said' where nothing that the law and all that it calls make is longer than what came in: it says more and counts as full. Else prove '..UptoSaid'. A law counts once. -/
mutual
def uptoBulk {H : Type} : DataW H → Nat
  | .lit (.string bytes) => bytes.length + 1
  | .lit _ => 1
  | .nil => 1
  | .ptr d => uptoBulk d + 1
  | .slice elems spare => uptoBulkAll elems + uptoBulkAll spare + 1
  | .agg parts => uptoBulkAll parts + 1
  | .iface _ d => uptoBulk d + 1
  | .map entries => uptoBulkEntries entries + 1
  | .held _ => 1
def uptoBulkAll {H : Type} : List (DataW H) → Nat
  | [] => 0
  | d :: r => uptoBulk d + uptoBulkAll r
def uptoBulkEntries {H : Type} : List (Lit × DataW H) → Nat
  | [] => 0
  | x :: r => uptoBulkEntry x + uptoBulkEntries r
def uptoBulkEntry {H : Type} : Lit × DataW H → Nat
  | (.string bytes, d) => bytes.length + uptoBulk d + 1
  | (_, d) => uptoBulk d + 1
 end
def uptoSmall : (H : Type) → List (DataW H) → Bool := fun _ ds => decide (uptoBulkAll ds ≤ 1048576)
def OpenSpec.upto (s : _root_.Go.ChangeSpec) : _root_.Go.OpenSpec := { _root_.Go.OpenSpec.ofChange s with cond := some uptoSmall }

/-- 'laws.FnExactPairPrime', WHERE WHAT IT READS IS OF BULK AT MOST 1048576: true; the input reads as it did. -/
def fnExactPairPrimeUptoRow : OpenClaim := { program := "ytejmogdognenmaa", sum := "3eee3c86f8e9f67cf54c60e54cbecb7d8eff36077c27128feb16f66b9e581ea0", func := "loop.example/g00970/laws.FnExactPairPrime", spec := "fnExactPairPrime", apart := false, narrowed := true }
def FnExactPairPrimeUptoSaid : Prop := fnExactPairPrimeUptoRow.holds Try.pinned (OpenSpec.upto fnExactPairPrimeSpec)

/-- 'laws.FnExactPairGreater', WHERE WHAT IT READS IS OF BULK AT MOST 1048576: true; the input reads as it did. -/
def fnExactPairGreaterUptoRow : OpenClaim := { program := "ytejmogdognenmaa", sum := "3eee3c86f8e9f67cf54c60e54cbecb7d8eff36077c27128feb16f66b9e581ea0", func := "loop.example/g00970/laws.FnExactPairGreater", spec := "fnExactPairGreater", inPlace := ["internal/bytealg.abigen_runtime_cmpstring"], unfollowed := true, recurses := true, named := ["math/bits.overflowError"], apart := false, narrowed := true }
def FnExactPairGreaterUptoSaid : Prop := fnExactPairGreaterUptoRow.holds Try.pinned (OpenSpec.upto fnExactPairGreaterSpec)

/-- 'laws.FnExactPairSquare', WHERE WHAT IT READS IS OF BULK AT MOST 1048576: true; the input reads as it did. -/
def fnExactPairSquareUptoRow : OpenClaim := { program := "ytejmogdognenmaa", sum := "3eee3c86f8e9f67cf54c60e54cbecb7d8eff36077c27128feb16f66b9e581ea0", func := "loop.example/g00970/laws.FnExactPairSquare", spec := "fnExactPairSquare", inPlace := ["internal/bytealg.abigen_runtime_cmpstring"], recurses := true, named := ["math/bits.overflowError"], apart := false, narrowed := true }
def FnExactPairSquareUptoSaid : Prop := fnExactPairSquareUptoRow.holds Try.pinned (OpenSpec.upto fnExactPairSquareSpec)

end Rows
end Go.Proofs.Ytejmogdognenmaa

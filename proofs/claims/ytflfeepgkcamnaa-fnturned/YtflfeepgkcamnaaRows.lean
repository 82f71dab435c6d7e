/-
  No cell of these rows narrows 'for every input' (looked for: loops, veiled, ifaces, maps, wideKeys, modest, calm, conditions, laid).
  DERIVED. THE GIVEN ROWS OF THIS SEAT. 11 by the template 'for every input the law returns true; each argument reads behind the call as it read before'; 0 by the template 'total and deterministic' (their statements: YtflfeepgkcamnaaTotals.lean).
  GIVEN WITH THE SEED: the statements are not yours to turn. If you find one false, say at which input.
  Laid BY PROGRAM, IN A SANDBOX (cutbox-rows.mjs): the forced cells as the released guide's own fill.sh prints them over the translation 5d6a84b75b374d9e… (all of the seat's roots in one cut). By AI agents, Wed Nov 11 2026. No macro, syntax, notation, axiom, sorry.
-/
import Derived.Test.YtflfeepgkcamnaaChecked
import GoSem.Claim
import GoSem.ClaimJoined
import GoSem.ClaimMapViews
import Derived.JoinedTies
import Derived.KernelRfl
namespace Go.Proofs.Ytflfeepgkcamnaa
/- THE CELL 'sum', in the pinned program and in every row, IS THE sha256 OF THE DUMP (.gsa) THAT YtflfeepgkcamnaaProg.lean LOADS. Nothing in Lean hashes anything: it is a label: what it is worth is what the hold of that sum in a sandbox is worth. -/
noncomputable def Try.pinned : Pinned := { name := "ytflfeepgkcamnaa", sum := "5d6a84b75b374d9eb0a7ca135ca062e8515d441b7174b46c80c67f222a8cc0cf", checked := Try.checked }
namespace Rows
def none {H : Type} : Left H := { results := [], args := [] }

/-- 'laws.FnPairs': WHATEVER THE INPUT: true; the input reads as it did. -/
def fnPairsSpec : ChangeSpec := { name := "fnPairs", fn := fun _ => fun
  | [d] => { results := [.lit (.bool true)], args := [d] }
  | _ => none }
def fnPairsRow : OpenClaim := { program := "ytflfeepgkcamnaa", sum := "5d6a84b75b374d9eb0a7ca135ca062e8515d441b7174b46c80c67f222a8cc0cf", func := "loop.example/g00970/laws.FnPairs", spec := "fnPairs", inPlace := ["internal/bytealg.abigen_runtime_cmpstring"], unfollowed := true, recurses := true, named := ["math/bits.overflowError"], apart := false }
def FnPairsSaid : Prop := fnPairsRow.holds Try.pinned (OpenSpec.ofChange fnPairsSpec)

/-- ITS FALSE NEIGHBOUR: 'it returns false'. Refute it at one input. -/
def fnPairsWrong : ChangeSpec := { name := "fnPairs", fn := fun _ => fun
  | [d] => { results := [.lit (.bool false)], args := [d] }
  | _ => none }
def FnPairsWrongFalsely : Prop := fnPairsRow.holds Try.pinned (OpenSpec.ofChange fnPairsWrong)

/-- 'laws.FnTurned': WHATEVER THE INPUT: true; the input reads as it did. -/
def fnTurnedSpec : ChangeSpec := { name := "fnTurned", fn := fun _ => fun
  | [d] => { results := [.lit (.bool true)], args := [d] }
  | _ => none }
def fnTurnedRow : OpenClaim := { program := "ytflfeepgkcamnaa", sum := "5d6a84b75b374d9eb0a7ca135ca062e8515d441b7174b46c80c67f222a8cc0cf", func := "loop.example/g00970/laws.FnTurned", spec := "fnTurned", inPlace := ["internal/bytealg.abigen_runtime_cmpstring"], named := ["math/bits.overflowError"], apart := false }
def FnTurnedSaid : Prop := fnTurnedRow.holds Try.pinned (OpenSpec.ofChange fnTurnedSpec)

/-- ITS FALSE NEIGHBOUR: 'it returns false'. Refute it at one input. -/
def fnTurnedWrong : ChangeSpec := { name := "fnTurned", fn := fun _ => fun
  | [d] => { results := [.lit (.bool false)], args := [d] }
  | _ => none }
def FnTurnedWrongFalsely : Prop := fnTurnedRow.holds Try.pinned (OpenSpec.ofChange fnTurnedWrong)

/-- 'laws.FnExactPairOk': WHATEVER THE INPUT: true; the input reads as it did. -/
def fnExactPairOkSpec : ChangeSpec := { name := "fnExactPairOk", fn := fun _ => fun
  | [d1, d2] => { results := [.lit (.bool true)], args := [d1, d2] }
  | _ => none }
def fnExactPairOkRow : OpenClaim := { program := "ytflfeepgkcamnaa", sum := "5d6a84b75b374d9eb0a7ca135ca062e8515d441b7174b46c80c67f222a8cc0cf", func := "loop.example/g00970/laws.FnExactPairOk", spec := "fnExactPairOk", inPlace := ["internal/bytealg.abigen_runtime_cmpstring"], apart := false }
def FnExactPairOkSaid : Prop := fnExactPairOkRow.holds Try.pinned (OpenSpec.ofChange fnExactPairOkSpec)

/-- ITS FALSE NEIGHBOUR: 'it returns false'. Refute it at one input. -/
def fnExactPairOkWrong : ChangeSpec := { name := "fnExactPairOk", fn := fun _ => fun
  | [d1, d2] => { results := [.lit (.bool false)], args := [d1, d2] }
  | _ => none }
def FnExactPairOkWrongFalsely : Prop := fnExactPairOkRow.holds Try.pinned (OpenSpec.ofChange fnExactPairOkWrong)

/-- 'laws.FnExactAddPair': WHATEVER THE INPUT: true; the input reads as it did. -/
def fnExactAddPairSpec : ChangeSpec := { name := "fnExactAddPair", fn := fun _ => fun
  | [d1, d2, d3] => { results := [.lit (.bool true)], args := [d1, d2, d3] }
  | _ => none }
def fnExactAddPairRow : OpenClaim := { program := "ytflfeepgkcamnaa", sum := "5d6a84b75b374d9eb0a7ca135ca062e8515d441b7174b46c80c67f222a8cc0cf", func := "loop.example/g00970/laws.FnExactAddPair", spec := "fnExactAddPair", inPlace := ["internal/bytealg.abigen_runtime_cmpstring"], recurses := true, apart := false }
def FnExactAddPairSaid : Prop := fnExactAddPairRow.holds Try.pinned (OpenSpec.ofChange fnExactAddPairSpec)

/-- ITS FALSE NEIGHBOUR: 'it returns false'. Refute it at one input. -/
def fnExactAddPairWrong : ChangeSpec := { name := "fnExactAddPair", fn := fun _ => fun
  | [d1, d2, d3] => { results := [.lit (.bool false)], args := [d1, d2, d3] }
  | _ => none }
def FnExactAddPairWrongFalsely : Prop := fnExactAddPairRow.holds Try.pinned (OpenSpec.ofChange fnExactAddPairWrong)

/-- 'laws.FnExactSubPair': WHATEVER THE INPUT: true; the input reads as it did. -/
def fnExactSubPairSpec : ChangeSpec := { name := "fnExactSubPair", fn := fun _ => fun
  | [d1, d2, d3] => { results := [.lit (.bool true)], args := [d1, d2, d3] }
  | _ => none }
def fnExactSubPairRow : OpenClaim := { program := "ytflfeepgkcamnaa", sum := "5d6a84b75b374d9eb0a7ca135ca062e8515d441b7174b46c80c67f222a8cc0cf", func := "loop.example/g00970/laws.FnExactSubPair", spec := "fnExactSubPair", inPlace := ["internal/bytealg.abigen_runtime_cmpstring"], recurses := true, apart := false }
def FnExactSubPairSaid : Prop := fnExactSubPairRow.holds Try.pinned (OpenSpec.ofChange fnExactSubPairSpec)

/-- ITS FALSE NEIGHBOUR: 'it returns false'. Refute it at one input. -/
def fnExactSubPairWrong : ChangeSpec := { name := "fnExactSubPair", fn := fun _ => fun
  | [d1, d2, d3] => { results := [.lit (.bool false)], args := [d1, d2, d3] }
  | _ => none }
def FnExactSubPairWrongFalsely : Prop := fnExactSubPairRow.holds Try.pinned (OpenSpec.ofChange fnExactSubPairWrong)

/-- 'laws.FnExactMulPair': WHATEVER THE INPUT: true; the input reads as it did. -/
def fnExactMulPairSpec : ChangeSpec := { name := "fnExactMulPair", fn := fun _ => fun
  | [d1, d2, d3] => { results := [.lit (.bool true)], args := [d1, d2, d3] }
  | _ => none }
def fnExactMulPairRow : OpenClaim := { program := "ytflfeepgkcamnaa", sum := "5d6a84b75b374d9eb0a7ca135ca062e8515d441b7174b46c80c67f222a8cc0cf", func := "loop.example/g00970/laws.FnExactMulPair", spec := "fnExactMulPair", inPlace := ["internal/bytealg.abigen_runtime_cmpstring"], recurses := true, named := ["math/bits.overflowError"], apart := false }
def FnExactMulPairSaid : Prop := fnExactMulPairRow.holds Try.pinned (OpenSpec.ofChange fnExactMulPairSpec)

/-- ITS FALSE NEIGHBOUR: 'it returns false'. Refute it at one input. -/
def fnExactMulPairWrong : ChangeSpec := { name := "fnExactMulPair", fn := fun _ => fun
  | [d1, d2, d3] => { results := [.lit (.bool false)], args := [d1, d2, d3] }
  | _ => none }
def FnExactMulPairWrongFalsely : Prop := fnExactMulPairRow.holds Try.pinned (OpenSpec.ofChange fnExactMulPairWrong)

/-- 'laws.FnExactNormOf': WHATEVER THE INPUT: true; the input reads as it did. -/
def fnExactNormOfSpec : ChangeSpec := { name := "fnExactNormOf", fn := fun _ => fun
  | [d1, d2] => { results := [.lit (.bool true)], args := [d1, d2] }
  | _ => none }
def fnExactNormOfRow : OpenClaim := { program := "ytflfeepgkcamnaa", sum := "5d6a84b75b374d9eb0a7ca135ca062e8515d441b7174b46c80c67f222a8cc0cf", func := "loop.example/g00970/laws.FnExactNormOf", spec := "fnExactNormOf", inPlace := ["internal/bytealg.abigen_runtime_cmpstring"], recurses := true, named := ["math/bits.overflowError"], apart := false }
def FnExactNormOfSaid : Prop := fnExactNormOfRow.holds Try.pinned (OpenSpec.ofChange fnExactNormOfSpec)

/-- ITS FALSE NEIGHBOUR: 'it returns false'. Refute it at one input. -/
def fnExactNormOfWrong : ChangeSpec := { name := "fnExactNormOf", fn := fun _ => fun
  | [d1, d2] => { results := [.lit (.bool false)], args := [d1, d2] }
  | _ => none }
def FnExactNormOfWrongFalsely : Prop := fnExactNormOfRow.holds Try.pinned (OpenSpec.ofChange fnExactNormOfWrong)

/-- 'laws.FnExactInversePair': WHATEVER THE INPUT: true; the input reads as it did. -/
def fnExactInversePairSpec : ChangeSpec := { name := "fnExactInversePair", fn := fun _ => fun
  | [d1, d2] => { results := [.lit (.bool true)], args := [d1, d2] }
  | _ => none }
def fnExactInversePairRow : OpenClaim := { program := "ytflfeepgkcamnaa", sum := "5d6a84b75b374d9eb0a7ca135ca062e8515d441b7174b46c80c67f222a8cc0cf", func := "loop.example/g00970/laws.FnExactInversePair", spec := "fnExactInversePair", inPlace := ["internal/bytealg.abigen_runtime_cmpstring"], recurses := true, named := ["math/bits.overflowError"], apart := false }
def FnExactInversePairSaid : Prop := fnExactInversePairRow.holds Try.pinned (OpenSpec.ofChange fnExactInversePairSpec)

/-- ITS FALSE NEIGHBOUR: 'it returns false'. Refute it at one input. -/
def fnExactInversePairWrong : ChangeSpec := { name := "fnExactInversePair", fn := fun _ => fun
  | [d1, d2] => { results := [.lit (.bool false)], args := [d1, d2] }
  | _ => none }
def FnExactInversePairWrongFalsely : Prop := fnExactInversePairRow.holds Try.pinned (OpenSpec.ofChange fnExactInversePairWrong)

/-- 'laws.FnExactNegPair': WHATEVER THE INPUT: true; the input reads as it did. -/
def fnExactNegPairSpec : ChangeSpec := { name := "fnExactNegPair", fn := fun _ => fun
  | [d1, d2] => { results := [.lit (.bool true)], args := [d1, d2] }
  | _ => none }
def fnExactNegPairRow : OpenClaim := { program := "ytflfeepgkcamnaa", sum := "5d6a84b75b374d9eb0a7ca135ca062e8515d441b7174b46c80c67f222a8cc0cf", func := "loop.example/g00970/laws.FnExactNegPair", spec := "fnExactNegPair", inPlace := ["internal/bytealg.abigen_runtime_cmpstring"], recurses := true, apart := false }
def FnExactNegPairSaid : Prop := fnExactNegPairRow.holds Try.pinned (OpenSpec.ofChange fnExactNegPairSpec)

/-- ITS FALSE NEIGHBOUR: 'it returns false'. Refute it at one input. -/
def fnExactNegPairWrong : ChangeSpec := { name := "fnExactNegPair", fn := fun _ => fun
  | [d1, d2] => { results := [.lit (.bool false)], args := [d1, d2] }
  | _ => none }
def FnExactNegPairWrongFalsely : Prop := fnExactNegPairRow.holds Try.pinned (OpenSpec.ofChange fnExactNegPairWrong)

/-- 'laws.FnExactPowPair': WHATEVER THE INPUT: true; the input reads as it did. -/
def fnExactPowPairSpec : ChangeSpec := { name := "fnExactPowPair", fn := fun _ => fun
  | [d1, d2, d3] => { results := [.lit (.bool true)], args := [d1, d2, d3] }
  | _ => none }
def fnExactPowPairRow : OpenClaim := { program := "ytflfeepgkcamnaa", sum := "5d6a84b75b374d9eb0a7ca135ca062e8515d441b7174b46c80c67f222a8cc0cf", func := "loop.example/g00970/laws.FnExactPowPair", spec := "fnExactPowPair", inPlace := ["internal/bytealg.abigen_runtime_cmpstring"], recurses := true, named := ["math/bits.overflowError"], apart := false }
def FnExactPowPairSaid : Prop := fnExactPowPairRow.holds Try.pinned (OpenSpec.ofChange fnExactPowPairSpec)

/-- ITS FALSE NEIGHBOUR: 'it returns false'. Refute it at one input. -/
def fnExactPowPairWrong : ChangeSpec := { name := "fnExactPowPair", fn := fun _ => fun
  | [d1, d2, d3] => { results := [.lit (.bool false)], args := [d1, d2, d3] }
  | _ => none }
def FnExactPowPairWrongFalsely : Prop := fnExactPowPairRow.holds Try.pinned (OpenSpec.ofChange fnExactPowPairWrong)

/-- 'laws.FnExactOtherPair': WHATEVER THE INPUT: true; the input reads as it did. -/
def fnExactOtherPairSpec : ChangeSpec := { name := "fnExactOtherPair", fn := fun _ => fun
  | [d1, d2] => { results := [.lit (.bool true)], args := [d1, d2] }
  | _ => none }
def fnExactOtherPairRow : OpenClaim := { program := "ytflfeepgkcamnaa", sum := "5d6a84b75b374d9eb0a7ca135ca062e8515d441b7174b46c80c67f222a8cc0cf", func := "loop.example/g00970/laws.FnExactOtherPair", spec := "fnExactOtherPair", inPlace := ["internal/bytealg.abigen_runtime_cmpstring"], recurses := true, apart := false }
def FnExactOtherPairSaid : Prop := fnExactOtherPairRow.holds Try.pinned (OpenSpec.ofChange fnExactOtherPairSpec)

/-- ITS FALSE NEIGHBOUR: 'it returns false'. Refute it at one input. -/
def fnExactOtherPairWrong : ChangeSpec := { name := "fnExactOtherPair", fn := fun _ => fun
  | [d1, d2] => { results := [.lit (.bool false)], args := [d1, d2] }
  | _ => none }
def FnExactOtherPairWrongFalsely : Prop := fnExactOtherPairRow.holds Try.pinned (OpenSpec.ofChange fnExactOtherPairWrong)

/- THE SECOND FORM. 'bulk': how many values and letters a reading holds, each counted each time it is reached (what is shared counts as often as it is met; a slice's spare places count too). A statement '..UptoSaid' is the law's where the arguments, and the package variables that the reading takes, are together of bulk at most 1048576: NARROWER than '..Said'. Prove '..Said' where nothing that the law and all that it calls make is longer than what came in: it says more and counts as full. Else prove '..UptoSaid'. A law counts once. -/
mutual
def uptoBulk {H : Type} : DataW H → Nat
  | .lit (.string bytes) => bytes.length + 1
  | .lit _ => 1
  | .nil => 1
  | .ptr d => uptoBulk d + 1
  | .slice elems spare => uptoBulkAll elems + uptoBulkAll spare + 1
  | .agg parts => uptoBulkAll parts + 1
  | .iface _ d => uptoBulk d + 1
  | .map entries => uptoBulkEntries entries + 1
  | .held _ => 1
def uptoBulkAll {H : Type} : List (DataW H) → Nat
  | [] => 0
  | d :: r => uptoBulk d + uptoBulkAll r
def uptoBulkEntries {H : Type} : List (Lit × DataW H) → Nat
  | [] => 0
  | x :: r => uptoBulkEntry x + uptoBulkEntries r
def uptoBulkEntry {H : Type} : Lit × DataW H → Nat
  | (.string bytes, d) => bytes.length + uptoBulk d + 1
  | (_, d) => uptoBulk d + 1
 end
def uptoSmall : (H : Type) → List (DataW H) → Bool := fun _ ds => decide (uptoBulkAll ds ≤ 1048576)
def OpenSpec.upto (s : _root_.Go.ChangeSpec) : _root_.Go.OpenSpec := { _root_.Go.OpenSpec.ofChange s with cond := some uptoSmall }

/-- 'laws.FnPairs', WHERE WHAT IT READS IS OF BULK AT MOST 1048576: true; the input reads as it did. -/
def fnPairsUptoRow : OpenClaim := { program := "ytflfeepgkcamnaa", sum := "5d6a84b75b374d9eb0a7ca135ca062e8515d441b7174b46c80c67f222a8cc0cf", func := "loop.example/g00970/laws.FnPairs", spec := "fnPairs", inPlace := ["internal/bytealg.abigen_runtime_cmpstring"], unfollowed := true, recurses := true, named := ["math/bits.overflowError"], apart := false, narrowed := true }
def FnPairsUptoSaid : Prop := fnPairsUptoRow.holds Try.pinned (OpenSpec.upto fnPairsSpec)

/-- 'laws.FnTurned', WHERE WHAT IT READS IS OF BULK AT MOST 1048576: true; the input reads as it did. -/
def fnTurnedUptoRow : OpenClaim := { program := "ytflfeepgkcamnaa", sum := "5d6a84b75b374d9eb0a7ca135ca062e8515d441b7174b46c80c67f222a8cc0cf", func := "loop.example/g00970/laws.FnTurned", spec := "fnTurned", inPlace := ["internal/bytealg.abigen_runtime_cmpstring"], named := ["math/bits.overflowError"], apart := false, narrowed := true }
def FnTurnedUptoSaid : Prop := fnTurnedUptoRow.holds Try.pinned (OpenSpec.upto fnTurnedSpec)

/-- 'laws.FnExactPairOk', WHERE WHAT IT READS IS OF BULK AT MOST 1048576: true; the input reads as it did. -/
def fnExactPairOkUptoRow : OpenClaim := { program := "ytflfeepgkcamnaa", sum := "5d6a84b75b374d9eb0a7ca135ca062e8515d441b7174b46c80c67f222a8cc0cf", func := "loop.example/g00970/laws.FnExactPairOk", spec := "fnExactPairOk", inPlace := ["internal/bytealg.abigen_runtime_cmpstring"], apart := false, narrowed := true }
def FnExactPairOkUptoSaid : Prop := fnExactPairOkUptoRow.holds Try.pinned (OpenSpec.upto fnExactPairOkSpec)

/-- 'laws.FnExactAddPair', WHERE WHAT IT READS IS OF BULK AT MOST 1048576: true; the input reads as it did. -/
def fnExactAddPairUptoRow : OpenClaim := { program := "ytflfeepgkcamnaa", sum := "5d6a84b75b374d9eb0a7ca135ca062e8515d441b7174b46c80c67f222a8cc0cf", func := "loop.example/g00970/laws.FnExactAddPair", spec := "fnExactAddPair", inPlace := ["internal/bytealg.abigen_runtime_cmpstring"], recurses := true, apart := false, narrowed := true }
def FnExactAddPairUptoSaid : Prop := fnExactAddPairUptoRow.holds Try.pinned (OpenSpec.upto fnExactAddPairSpec)

/-- 'laws.FnExactSubPair', WHERE WHAT IT READS IS OF BULK AT MOST 1048576: true; the input reads as it did. -/
def fnExactSubPairUptoRow : OpenClaim := { program := "ytflfeepgkcamnaa", sum := "5d6a84b75b374d9eb0a7ca135ca062e8515d441b7174b46c80c67f222a8cc0cf", func := "loop.example/g00970/laws.FnExactSubPair", spec := "fnExactSubPair", inPlace := ["internal/bytealg.abigen_runtime_cmpstring"], recurses := true, apart := false, narrowed := true }
def FnExactSubPairUptoSaid : Prop := fnExactSubPairUptoRow.holds Try.pinned (OpenSpec.upto fnExactSubPairSpec)

/-- 'laws.FnExactMulPair', WHERE WHAT IT READS IS OF BULK AT MOST 1048576: true; the input reads as it did. -/
def fnExactMulPairUptoRow : OpenClaim := { program := "ytflfeepgkcamnaa", sum := "5d6a84b75b374d9eb0a7ca135ca062e8515d441b7174b46c80c67f222a8cc0cf", func := "loop.example/g00970/laws.FnExactMulPair", spec := "fnExactMulPair", inPlace := ["internal/bytealg.abigen_runtime_cmpstring"], recurses := true, named := ["math/bits.overflowError"], apart := false, narrowed := true }
def FnExactMulPairUptoSaid : Prop := fnExactMulPairUptoRow.holds Try.pinned (OpenSpec.upto fnExactMulPairSpec)

/-- 'laws.FnExactNormOf', WHERE WHAT IT READS IS OF BULK AT MOST 1048576: true; the input reads as it did. -/
def fnExactNormOfUptoRow : OpenClaim := { program := "ytflfeepgkcamnaa", sum := "5d6a84b75b374d9eb0a7ca135ca062e8515d441b7174b46c80c67f222a8cc0cf", func := "loop.example/g00970/laws.FnExactNormOf", spec := "fnExactNormOf", inPlace := ["internal/bytealg.abigen_runtime_cmpstring"], recurses := true, named := ["math/bits.overflowError"], apart := false, narrowed := true }
def FnExactNormOfUptoSaid : Prop := fnExactNormOfUptoRow.holds Try.pinned (OpenSpec.upto fnExactNormOfSpec)

/-- 'laws.FnExactInversePair', WHERE WHAT IT READS IS OF BULK AT MOST 1048576: true; the input reads as it did. -/
def fnExactInversePairUptoRow : OpenClaim := { program := "ytflfeepgkcamnaa", sum := "5d6a84b75b374d9eb0a7ca135ca062e8515d441b7174b46c80c67f222a8cc0cf", func := "loop.example/g00970/laws.FnExactInversePair", spec := "fnExactInversePair", inPlace := ["internal/bytealg.abigen_runtime_cmpstring"], recurses := true, named := ["math/bits.overflowError"], apart := false, narrowed := true }
def FnExactInversePairUptoSaid : Prop := fnExactInversePairUptoRow.holds Try.pinned (OpenSpec.upto fnExactInversePairSpec)

/-- 'laws.FnExactNegPair', WHERE WHAT IT READS IS OF BULK AT MOST 1048576: true; the input reads as it did. -/
def fnExactNegPairUptoRow : OpenClaim := { program := "ytflfeepgkcamnaa", sum := "5d6a84b75b374d9eb0a7ca135ca062e8515d441b7174b46c80c67f222a8cc0cf", func := "loop.example/g00970/laws.FnExactNegPair", spec := "fnExactNegPair", inPlace := ["internal/bytealg.abigen_runtime_cmpstring"], recurses := true, apart := false, narrowed := true }
def FnExactNegPairUptoSaid : Prop := fnExactNegPairUptoRow.holds Try.pinned (OpenSpec.upto fnExactNegPairSpec)

/-- 'laws.FnExactPowPair', WHERE WHAT IT READS IS OF BULK AT MOST 1048576: true; the input reads as it did. -/
def fnExactPowPairUptoRow : OpenClaim := { program := "ytflfeepgkcamnaa", sum := "5d6a84b75b374d9eb0a7ca135ca062e8515d441b7174b46c80c67f222a8cc0cf", func := "loop.example/g00970/laws.FnExactPowPair", spec := "fnExactPowPair", inPlace := ["internal/bytealg.abigen_runtime_cmpstring"], recurses := true, named := ["math/bits.overflowError"], apart := false, narrowed := true }
def FnExactPowPairUptoSaid : Prop := fnExactPowPairUptoRow.holds Try.pinned (OpenSpec.upto fnExactPowPairSpec)

/-- 'laws.FnExactOtherPair', WHERE WHAT IT READS IS OF BULK AT MOST 1048576: true; the input reads as it did. -/
def fnExactOtherPairUptoRow : OpenClaim := { program := "ytflfeepgkcamnaa", sum := "5d6a84b75b374d9eb0a7ca135ca062e8515d441b7174b46c80c67f222a8cc0cf", func := "loop.example/g00970/laws.FnExactOtherPair", spec := "fnExactOtherPair", inPlace := ["internal/bytealg.abigen_runtime_cmpstring"], recurses := true, apart := false, narrowed := true }
def FnExactOtherPairUptoSaid : Prop := fnExactOtherPairUptoRow.holds Try.pinned (OpenSpec.upto fnExactOtherPairSpec)

end Rows
end Go.Proofs.Ytflfeepgkcamnaa

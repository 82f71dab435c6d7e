/-
  No cell of these rows narrows 'for every input' (looked for: loops, veiled, ifaces, maps, wideKeys, modest, calm, conditions, laid).
  DERIVED. THE GIVEN ROWS OF THIS SEAT. 12 by the template 'for every input the law returns true; each argument reads behind the call as it read before'; 0 by the template 'total and deterministic' (their statements: YtpgckdhnmhjkhaaTotals.lean).
  GIVEN WITH THE SEED: the statements are not yours to turn. If you find one false, say at which input.
  Laid BY PROGRAM, IN A SANDBOX (cutbox-rows.mjs): the forced cells as the released guide's own fill.sh prints them over the translation 779e487472896e39… (all of the seat's roots in one cut). By AI agents, Wed Nov 11 2026. No macro, syntax, notation, axiom, sorry.
-/
import Derived.Test.YtpgckdhnmhjkhaaChecked
import GoSem.Claim
import GoSem.ClaimJoined
import GoSem.ClaimMapViews
import Derived.JoinedTies
import Derived.KernelRfl
namespace Go.Proofs.Ytpgckdhnmhjkhaa
/- THE CELL 'sum', in the pinned program and in every row, IS THE sha256 OF THE DUMP (.gsa) THAT YtpgckdhnmhjkhaaProg.lean LOADS. Nothing in Lean hashes anything: it is a label: what it is worth is what the hold of that sum in a sandbox is worth. -/
noncomputable def Try.pinned : Pinned := { name := "ytpgckdhnmhjkhaa", sum := "779e487472896e398ee35d079da0193131277f7da0e3f524c398aac431af2dee", checked := Try.checked }
namespace Rows
def none {H : Type} : Left H := { results := [], args := [] }

/-- 'laws.FnGreats': WHATEVER THE INPUT: true; the input reads as it did. -/
def fnGreatsSpec : ChangeSpec := { name := "fnGreats", fn := fun _ => fun
  | [d] => { results := [.lit (.bool true)], args := [d] }
  | _ => none }
def fnGreatsRow : OpenClaim := { program := "ytpgckdhnmhjkhaa", sum := "779e487472896e398ee35d079da0193131277f7da0e3f524c398aac431af2dee", func := "loop.example/g00970/laws.FnGreats", spec := "fnGreats", inPlace := ["internal/bytealg.abigen_runtime_cmpstring"], named := ["math/bits.overflowError"], apart := false }
def FnGreatsSaid : Prop := fnGreatsRow.holds Try.pinned (OpenSpec.ofChange fnGreatsSpec)

/-- ITS FALSE NEIGHBOUR: 'it returns false'. Refute it at one input. -/
def fnGreatsWrong : ChangeSpec := { name := "fnGreats", fn := fun _ => fun
  | [d] => { results := [.lit (.bool false)], args := [d] }
  | _ => none }
def FnGreatsWrongFalsely : Prop := fnGreatsRow.holds Try.pinned (OpenSpec.ofChange fnGreatsWrong)

/-- 'laws.FnGreatInts': WHATEVER THE INPUT: true; the input reads as it did. -/
def fnGreatIntsSpec : ChangeSpec := { name := "fnGreatInts", fn := fun _ => fun
  | [d] => { results := [.lit (.bool true)], args := [d] }
  | _ => none }
def fnGreatIntsRow : OpenClaim := { program := "ytpgckdhnmhjkhaa", sum := "779e487472896e398ee35d079da0193131277f7da0e3f524c398aac431af2dee", func := "loop.example/g00970/laws.FnGreatInts", spec := "fnGreatInts", inPlace := ["internal/bytealg.abigen_runtime_cmpstring"], apart := false }
def FnGreatIntsSaid : Prop := fnGreatIntsRow.holds Try.pinned (OpenSpec.ofChange fnGreatIntsSpec)

/-- ITS FALSE NEIGHBOUR: 'it returns false'. Refute it at one input. -/
def fnGreatIntsWrong : ChangeSpec := { name := "fnGreatInts", fn := fun _ => fun
  | [d] => { results := [.lit (.bool false)], args := [d] }
  | _ => none }
def FnGreatIntsWrongFalsely : Prop := fnGreatIntsRow.holds Try.pinned (OpenSpec.ofChange fnGreatIntsWrong)

/-- 'laws.FnExactGreatOk': WHATEVER THE INPUT: true; the input reads as it did. -/
def fnExactGreatOkSpec : ChangeSpec := { name := "fnExactGreatOk", fn := fun _ => fun
  | [d] => { results := [.lit (.bool true)], args := [d] }
  | _ => none }
def fnExactGreatOkRow : OpenClaim := { program := "ytpgckdhnmhjkhaa", sum := "779e487472896e398ee35d079da0193131277f7da0e3f524c398aac431af2dee", func := "loop.example/g00970/laws.FnExactGreatOk", spec := "fnExactGreatOk", apart := false }
def FnExactGreatOkSaid : Prop := fnExactGreatOkRow.holds Try.pinned (OpenSpec.ofChange fnExactGreatOkSpec)

/-- ITS FALSE NEIGHBOUR: 'it returns false'. Refute it at one input. -/
def fnExactGreatOkWrong : ChangeSpec := { name := "fnExactGreatOk", fn := fun _ => fun
  | [d] => { results := [.lit (.bool false)], args := [d] }
  | _ => none }
def FnExactGreatOkWrongFalsely : Prop := fnExactGreatOkRow.holds Try.pinned (OpenSpec.ofChange fnExactGreatOkWrong)

/-- 'laws.FnExactGreatOf': WHATEVER THE INPUT: true; the input reads as it did. -/
def fnExactGreatOfSpec : ChangeSpec := { name := "fnExactGreatOf", fn := fun _ => fun
  | [d] => { results := [.lit (.bool true)], args := [d] }
  | _ => none }
def fnExactGreatOfRow : OpenClaim := { program := "ytpgckdhnmhjkhaa", sum := "779e487472896e398ee35d079da0193131277f7da0e3f524c398aac431af2dee", func := "loop.example/g00970/laws.FnExactGreatOf", spec := "fnExactGreatOf", apart := false }
def FnExactGreatOfSaid : Prop := fnExactGreatOfRow.holds Try.pinned (OpenSpec.ofChange fnExactGreatOfSpec)

/-- ITS FALSE NEIGHBOUR: 'it returns false'. Refute it at one input. -/
def fnExactGreatOfWrong : ChangeSpec := { name := "fnExactGreatOf", fn := fun _ => fun
  | [d] => { results := [.lit (.bool false)], args := [d] }
  | _ => none }
def FnExactGreatOfWrongFalsely : Prop := fnExactGreatOfRow.holds Try.pinned (OpenSpec.ofChange fnExactGreatOfWrong)

/-- 'laws.FnExactGreatInt': WHATEVER THE INPUT: true; the input reads as it did. -/
def fnExactGreatIntSpec : ChangeSpec := { name := "fnExactGreatInt", fn := fun _ => fun
  | [d] => { results := [.lit (.bool true)], args := [d] }
  | _ => none }
def fnExactGreatIntRow : OpenClaim := { program := "ytpgckdhnmhjkhaa", sum := "779e487472896e398ee35d079da0193131277f7da0e3f524c398aac431af2dee", func := "loop.example/g00970/laws.FnExactGreatInt", spec := "fnExactGreatInt", apart := false }
def FnExactGreatIntSaid : Prop := fnExactGreatIntRow.holds Try.pinned (OpenSpec.ofChange fnExactGreatIntSpec)

/-- ITS FALSE NEIGHBOUR: 'it returns false'. Refute it at one input. -/
def fnExactGreatIntWrong : ChangeSpec := { name := "fnExactGreatInt", fn := fun _ => fun
  | [d] => { results := [.lit (.bool false)], args := [d] }
  | _ => none }
def FnExactGreatIntWrongFalsely : Prop := fnExactGreatIntRow.holds Try.pinned (OpenSpec.ofChange fnExactGreatIntWrong)

/-- 'laws.FnExactCompareGreat': WHATEVER THE INPUT: true; the input reads as it did. -/
def fnExactCompareGreatSpec : ChangeSpec := { name := "fnExactCompareGreat", fn := fun _ => fun
  | [d1, d2] => { results := [.lit (.bool true)], args := [d1, d2] }
  | _ => none }
def fnExactCompareGreatRow : OpenClaim := { program := "ytpgckdhnmhjkhaa", sum := "779e487472896e398ee35d079da0193131277f7da0e3f524c398aac431af2dee", func := "loop.example/g00970/laws.FnExactCompareGreat", spec := "fnExactCompareGreat", inPlace := ["internal/bytealg.abigen_runtime_cmpstring"], apart := false }
def FnExactCompareGreatSaid : Prop := fnExactCompareGreatRow.holds Try.pinned (OpenSpec.ofChange fnExactCompareGreatSpec)

/-- ITS FALSE NEIGHBOUR: 'it returns false'. Refute it at one input. -/
def fnExactCompareGreatWrong : ChangeSpec := { name := "fnExactCompareGreat", fn := fun _ => fun
  | [d1, d2] => { results := [.lit (.bool false)], args := [d1, d2] }
  | _ => none }
def FnExactCompareGreatWrongFalsely : Prop := fnExactCompareGreatRow.holds Try.pinned (OpenSpec.ofChange fnExactCompareGreatWrong)

/-- 'laws.FnExactAddGreat': WHATEVER THE INPUT: true; the input reads as it did. -/
def fnExactAddGreatSpec : ChangeSpec := { name := "fnExactAddGreat", fn := fun _ => fun
  | [d1, d2] => { results := [.lit (.bool true)], args := [d1, d2] }
  | _ => none }
def fnExactAddGreatRow : OpenClaim := { program := "ytpgckdhnmhjkhaa", sum := "779e487472896e398ee35d079da0193131277f7da0e3f524c398aac431af2dee", func := "loop.example/g00970/laws.FnExactAddGreat", spec := "fnExactAddGreat", recurses := true, apart := false }
def FnExactAddGreatSaid : Prop := fnExactAddGreatRow.holds Try.pinned (OpenSpec.ofChange fnExactAddGreatSpec)

/-- ITS FALSE NEIGHBOUR: 'it returns false'. Refute it at one input. -/
def fnExactAddGreatWrong : ChangeSpec := { name := "fnExactAddGreat", fn := fun _ => fun
  | [d1, d2] => { results := [.lit (.bool false)], args := [d1, d2] }
  | _ => none }
def FnExactAddGreatWrongFalsely : Prop := fnExactAddGreatRow.holds Try.pinned (OpenSpec.ofChange fnExactAddGreatWrong)

/-- 'laws.FnExactSubGreat': WHATEVER THE INPUT: true; the input reads as it did. -/
def fnExactSubGreatSpec : ChangeSpec := { name := "fnExactSubGreat", fn := fun _ => fun
  | [d1, d2] => { results := [.lit (.bool true)], args := [d1, d2] }
  | _ => none }
def fnExactSubGreatRow : OpenClaim := { program := "ytpgckdhnmhjkhaa", sum := "779e487472896e398ee35d079da0193131277f7da0e3f524c398aac431af2dee", func := "loop.example/g00970/laws.FnExactSubGreat", spec := "fnExactSubGreat", inPlace := ["internal/bytealg.abigen_runtime_cmpstring"], apart := false }
def FnExactSubGreatSaid : Prop := fnExactSubGreatRow.holds Try.pinned (OpenSpec.ofChange fnExactSubGreatSpec)

/-- ITS FALSE NEIGHBOUR: 'it returns false'. Refute it at one input. -/
def fnExactSubGreatWrong : ChangeSpec := { name := "fnExactSubGreat", fn := fun _ => fun
  | [d1, d2] => { results := [.lit (.bool false)], args := [d1, d2] }
  | _ => none }
def FnExactSubGreatWrongFalsely : Prop := fnExactSubGreatRow.holds Try.pinned (OpenSpec.ofChange fnExactSubGreatWrong)

/-- 'laws.FnExactMulGreat': WHATEVER THE INPUT: true; the input reads as it did. -/
def fnExactMulGreatSpec : ChangeSpec := { name := "fnExactMulGreat", fn := fun _ => fun
  | [d1, d2] => { results := [.lit (.bool true)], args := [d1, d2] }
  | _ => none }
def fnExactMulGreatRow : OpenClaim := { program := "ytpgckdhnmhjkhaa", sum := "779e487472896e398ee35d079da0193131277f7da0e3f524c398aac431af2dee", func := "loop.example/g00970/laws.FnExactMulGreat", spec := "fnExactMulGreat", apart := false }
def FnExactMulGreatSaid : Prop := fnExactMulGreatRow.holds Try.pinned (OpenSpec.ofChange fnExactMulGreatSpec)

/-- ITS FALSE NEIGHBOUR: 'it returns false'. Refute it at one input. -/
def fnExactMulGreatWrong : ChangeSpec := { name := "fnExactMulGreat", fn := fun _ => fun
  | [d1, d2] => { results := [.lit (.bool false)], args := [d1, d2] }
  | _ => none }
def FnExactMulGreatWrongFalsely : Prop := fnExactMulGreatRow.holds Try.pinned (OpenSpec.ofChange fnExactMulGreatWrong)

/-- 'laws.FnExactDivGreat': WHATEVER THE INPUT: true; the input reads as it did. -/
def fnExactDivGreatSpec : ChangeSpec := { name := "fnExactDivGreat", fn := fun _ => fun
  | [d1, d2] => { results := [.lit (.bool true)], args := [d1, d2] }
  | _ => none }
def fnExactDivGreatRow : OpenClaim := { program := "ytpgckdhnmhjkhaa", sum := "779e487472896e398ee35d079da0193131277f7da0e3f524c398aac431af2dee", func := "loop.example/g00970/laws.FnExactDivGreat", spec := "fnExactDivGreat", named := ["math/bits.overflowError"], apart := false }
def FnExactDivGreatSaid : Prop := fnExactDivGreatRow.holds Try.pinned (OpenSpec.ofChange fnExactDivGreatSpec)

/-- ITS FALSE NEIGHBOUR: 'it returns false'. Refute it at one input. -/
def fnExactDivGreatWrong : ChangeSpec := { name := "fnExactDivGreat", fn := fun _ => fun
  | [d1, d2] => { results := [.lit (.bool false)], args := [d1, d2] }
  | _ => none }
def FnExactDivGreatWrongFalsely : Prop := fnExactDivGreatRow.holds Try.pinned (OpenSpec.ofChange fnExactDivGreatWrong)

/-- 'laws.FnExactBitsOf': WHATEVER THE INPUT: true; the input reads as it did. -/
def fnExactBitsOfSpec : ChangeSpec := { name := "fnExactBitsOf", fn := fun _ => fun
  | [d] => { results := [.lit (.bool true)], args := [d] }
  | _ => none }
def fnExactBitsOfRow : OpenClaim := { program := "ytpgckdhnmhjkhaa", sum := "779e487472896e398ee35d079da0193131277f7da0e3f524c398aac431af2dee", func := "loop.example/g00970/laws.FnExactBitsOf", spec := "fnExactBitsOf", apart := false }
def FnExactBitsOfSaid : Prop := fnExactBitsOfRow.holds Try.pinned (OpenSpec.ofChange fnExactBitsOfSpec)

/-- ITS FALSE NEIGHBOUR: 'it returns false'. Refute it at one input. -/
def fnExactBitsOfWrong : ChangeSpec := { name := "fnExactBitsOf", fn := fun _ => fun
  | [d] => { results := [.lit (.bool false)], args := [d] }
  | _ => none }
def FnExactBitsOfWrongFalsely : Prop := fnExactBitsOfRow.holds Try.pinned (OpenSpec.ofChange fnExactBitsOfWrong)

/-- 'laws.FnExactBitOf': WHATEVER THE INPUT: true; the input reads as it did. -/
def fnExactBitOfSpec : ChangeSpec := { name := "fnExactBitOf", fn := fun _ => fun
  | [d1, d2] => { results := [.lit (.bool true)], args := [d1, d2] }
  | _ => none }
def fnExactBitOfRow : OpenClaim := { program := "ytpgckdhnmhjkhaa", sum := "779e487472896e398ee35d079da0193131277f7da0e3f524c398aac431af2dee", func := "loop.example/g00970/laws.FnExactBitOf", spec := "fnExactBitOf", apart := false }
def FnExactBitOfSaid : Prop := fnExactBitOfRow.holds Try.pinned (OpenSpec.ofChange fnExactBitOfSpec)

/-- ITS FALSE NEIGHBOUR: 'it returns false'. Refute it at one input. -/
def fnExactBitOfWrong : ChangeSpec := { name := "fnExactBitOf", fn := fun _ => fun
  | [d1, d2] => { results := [.lit (.bool false)], args := [d1, d2] }
  | _ => none }
def FnExactBitOfWrongFalsely : Prop := fnExactBitOfRow.holds Try.pinned (OpenSpec.ofChange fnExactBitOfWrong)

/- THE SECOND FORM. 'bulk': how many values and letters a reading holds, each counted each time it is reached (what is shared counts as often as it is met; a slice's spare places count too). A statement '..UptoSaid' is the law's where the arguments, and the package variables that the reading takes, are together of bulk at most 1048576: NARROWER than '..Said'. Prove '..Said' where nothing that the law and all that it calls make is longer than what came in: it says more and counts as full. Else prove '..UptoSaid'. A law counts once. -/
mutual
def uptoBulk {H : Type} : DataW H → Nat
  | .lit (.string bytes) => bytes.length + 1
  | .lit _ => 1
  | .nil => 1
  | .ptr d => uptoBulk d + 1
  | .slice elems spare => uptoBulkAll elems + uptoBulkAll spare + 1
  | .agg parts => uptoBulkAll parts + 1
  | .iface _ d => uptoBulk d + 1
  | .map entries => uptoBulkEntries entries + 1
  | .held _ => 1
def uptoBulkAll {H : Type} : List (DataW H) → Nat
  | [] => 0
  | d :: r => uptoBulk d + uptoBulkAll r
def uptoBulkEntries {H : Type} : List (Lit × DataW H) → Nat
  | [] => 0
  | x :: r => uptoBulkEntry x + uptoBulkEntries r
def uptoBulkEntry {H : Type} : Lit × DataW H → Nat
  | (.string bytes, d) => bytes.length + uptoBulk d + 1
  | (_, d) => uptoBulk d + 1
 end
def uptoSmall : (H : Type) → List (DataW H) → Bool := fun _ ds => decide (uptoBulkAll ds ≤ 1048576)
def OpenSpec.upto (s : _root_.Go.ChangeSpec) : _root_.Go.OpenSpec := { _root_.Go.OpenSpec.ofChange s with cond := some uptoSmall }

/-- 'laws.FnGreats', WHERE WHAT IT READS IS OF BULK AT MOST 1048576: true; the input reads as it did. -/
def fnGreatsUptoRow : OpenClaim := { program := "ytpgckdhnmhjkhaa", sum := "779e487472896e398ee35d079da0193131277f7da0e3f524c398aac431af2dee", func := "loop.example/g00970/laws.FnGreats", spec := "fnGreats", inPlace := ["internal/bytealg.abigen_runtime_cmpstring"], named := ["math/bits.overflowError"], apart := false, narrowed := true }
def FnGreatsUptoSaid : Prop := fnGreatsUptoRow.holds Try.pinned (OpenSpec.upto fnGreatsSpec)

/-- 'laws.FnGreatInts', WHERE WHAT IT READS IS OF BULK AT MOST 1048576: true; the input reads as it did. -/
def fnGreatIntsUptoRow : OpenClaim := { program := "ytpgckdhnmhjkhaa", sum := "779e487472896e398ee35d079da0193131277f7da0e3f524c398aac431af2dee", func := "loop.example/g00970/laws.FnGreatInts", spec := "fnGreatInts", inPlace := ["internal/bytealg.abigen_runtime_cmpstring"], apart := false, narrowed := true }
def FnGreatIntsUptoSaid : Prop := fnGreatIntsUptoRow.holds Try.pinned (OpenSpec.upto fnGreatIntsSpec)

/-- 'laws.FnExactGreatOk', WHERE WHAT IT READS IS OF BULK AT MOST 1048576: true; the input reads as it did. -/
def fnExactGreatOkUptoRow : OpenClaim := { program := "ytpgckdhnmhjkhaa", sum := "779e487472896e398ee35d079da0193131277f7da0e3f524c398aac431af2dee", func := "loop.example/g00970/laws.FnExactGreatOk", spec := "fnExactGreatOk", apart := false, narrowed := true }
def FnExactGreatOkUptoSaid : Prop := fnExactGreatOkUptoRow.holds Try.pinned (OpenSpec.upto fnExactGreatOkSpec)

/-- 'laws.FnExactGreatOf', WHERE WHAT IT READS IS OF BULK AT MOST 1048576: true; the input reads as it did. -/
def fnExactGreatOfUptoRow : OpenClaim := { program := "ytpgckdhnmhjkhaa", sum := "779e487472896e398ee35d079da0193131277f7da0e3f524c398aac431af2dee", func := "loop.example/g00970/laws.FnExactGreatOf", spec := "fnExactGreatOf", apart := false, narrowed := true }
def FnExactGreatOfUptoSaid : Prop := fnExactGreatOfUptoRow.holds Try.pinned (OpenSpec.upto fnExactGreatOfSpec)

/-- 'laws.FnExactGreatInt', WHERE WHAT IT READS IS OF BULK AT MOST 1048576: true; the input reads as it did. -/
def fnExactGreatIntUptoRow : OpenClaim := { program := "ytpgckdhnmhjkhaa", sum := "779e487472896e398ee35d079da0193131277f7da0e3f524c398aac431af2dee", func := "loop.example/g00970/laws.FnExactGreatInt", spec := "fnExactGreatInt", apart := false, narrowed := true }
def FnExactGreatIntUptoSaid : Prop := fnExactGreatIntUptoRow.holds Try.pinned (OpenSpec.upto fnExactGreatIntSpec)

/-- 'laws.FnExactCompareGreat', WHERE WHAT IT READS IS OF BULK AT MOST 1048576: true; the input reads as it did. -/
def fnExactCompareGreatUptoRow : OpenClaim := { program := "ytpgckdhnmhjkhaa", sum := "779e487472896e398ee35d079da0193131277f7da0e3f524c398aac431af2dee", func := "loop.example/g00970/laws.FnExactCompareGreat", spec := "fnExactCompareGreat", inPlace := ["internal/bytealg.abigen_runtime_cmpstring"], apart := false, narrowed := true }
def FnExactCompareGreatUptoSaid : Prop := fnExactCompareGreatUptoRow.holds Try.pinned (OpenSpec.upto fnExactCompareGreatSpec)

/-- 'laws.FnExactAddGreat', WHERE WHAT IT READS IS OF BULK AT MOST 1048576: true; the input reads as it did. -/
def fnExactAddGreatUptoRow : OpenClaim := { program := "ytpgckdhnmhjkhaa", sum := "779e487472896e398ee35d079da0193131277f7da0e3f524c398aac431af2dee", func := "loop.example/g00970/laws.FnExactAddGreat", spec := "fnExactAddGreat", recurses := true, apart := false, narrowed := true }
def FnExactAddGreatUptoSaid : Prop := fnExactAddGreatUptoRow.holds Try.pinned (OpenSpec.upto fnExactAddGreatSpec)

/-- 'laws.FnExactSubGreat', WHERE WHAT IT READS IS OF BULK AT MOST 1048576: true; the input reads as it did. -/
def fnExactSubGreatUptoRow : OpenClaim := { program := "ytpgckdhnmhjkhaa", sum := "779e487472896e398ee35d079da0193131277f7da0e3f524c398aac431af2dee", func := "loop.example/g00970/laws.FnExactSubGreat", spec := "fnExactSubGreat", inPlace := ["internal/bytealg.abigen_runtime_cmpstring"], apart := false, narrowed := true }
def FnExactSubGreatUptoSaid : Prop := fnExactSubGreatUptoRow.holds Try.pinned (OpenSpec.upto fnExactSubGreatSpec)

/-- 'laws.FnExactMulGreat', WHERE WHAT IT READS IS OF BULK AT MOST 1048576: true; the input reads as it did. -/
def fnExactMulGreatUptoRow : OpenClaim := { program := "ytpgckdhnmhjkhaa", sum := "779e487472896e398ee35d079da0193131277f7da0e3f524c398aac431af2dee", func := "loop.example/g00970/laws.FnExactMulGreat", spec := "fnExactMulGreat", apart := false, narrowed := true }
def FnExactMulGreatUptoSaid : Prop := fnExactMulGreatUptoRow.holds Try.pinned (OpenSpec.upto fnExactMulGreatSpec)

/-- 'laws.FnExactDivGreat', WHERE WHAT IT READS IS OF BULK AT MOST 1048576: true; the input reads as it did. -/
def fnExactDivGreatUptoRow : OpenClaim := { program := "ytpgckdhnmhjkhaa", sum := "779e487472896e398ee35d079da0193131277f7da0e3f524c398aac431af2dee", func := "loop.example/g00970/laws.FnExactDivGreat", spec := "fnExactDivGreat", named := ["math/bits.overflowError"], apart := false, narrowed := true }
def FnExactDivGreatUptoSaid : Prop := fnExactDivGreatUptoRow.holds Try.pinned (OpenSpec.upto fnExactDivGreatSpec)

/-- 'laws.FnExactBitsOf', WHERE WHAT IT READS IS OF BULK AT MOST 1048576: true; the input reads as it did. -/
def fnExactBitsOfUptoRow : OpenClaim := { program := "ytpgckdhnmhjkhaa", sum := "779e487472896e398ee35d079da0193131277f7da0e3f524c398aac431af2dee", func := "loop.example/g00970/laws.FnExactBitsOf", spec := "fnExactBitsOf", apart := false, narrowed := true }
def FnExactBitsOfUptoSaid : Prop := fnExactBitsOfUptoRow.holds Try.pinned (OpenSpec.upto fnExactBitsOfSpec)

/-- 'laws.FnExactBitOf', WHERE WHAT IT READS IS OF BULK AT MOST 1048576: true; the input reads as it did. -/
def fnExactBitOfUptoRow : OpenClaim := { program := "ytpgckdhnmhjkhaa", sum := "779e487472896e398ee35d079da0193131277f7da0e3f524c398aac431af2dee", func := "loop.example/g00970/laws.FnExactBitOf", spec := "fnExactBitOf", apart := false, narrowed := true }
def FnExactBitOfUptoSaid : Prop := fnExactBitOfUptoRow.holds Try.pinned (OpenSpec.upto fnExactBitOfSpec)

end Rows
end Go.Proofs.Ytpgckdhnmhjkhaa

/-
  No cell of these rows narrows 'for every input' (looked for: loops, veiled, ifaces, maps, wideKeys, modest, calm, conditions, laid).
  DERIVED. THE GIVEN ROWS OF THIS SEAT. 7 by the template 'for every input the law returns true; each argument reads behind the call as it read before'; 0 by the template 'total and deterministic' (their statements: YtpgcnopdbdlahaaTotals.lean).
  GIVEN WITH THE SEED: the statements are not yours to turn. If you find one false, say at which input.
  Laid BY PROGRAM, IN A SANDBOX (cutbox-rows.mjs): the forced cells as the released guide's own fill.sh prints them over the translation 1ca5dae86fe43e10… (all of the seat's roots in one cut). By AI agents, Wed Nov 11 2026. No macro, syntax, notation, axiom, sorry.
-/
import Derived.Test.YtpgcnopdbdlahaaChecked
import GoSem.Claim
import GoSem.ClaimJoined
import GoSem.ClaimMapViews
import Derived.JoinedTies
import Derived.KernelRfl
namespace Go.Proofs.Ytpgcnopdbdlahaa
/- THE CELL 'sum', in the pinned program and in every row, IS THE sha256 OF THE DUMP (.gsa) THAT YtpgcnopdbdlahaaProg.lean LOADS. Nothing in Lean hashes anything: it is a label: what it is worth is what the hold of that sum in a sandbox is worth. -/
noncomputable def Try.pinned : Pinned := { name := "ytpgcnopdbdlahaa", sum := "1ca5dae86fe43e10d4f075c80e37400cd2cd30e7fe889955eb61e3104dde5a91", checked := Try.checked }
namespace Rows
def none {H : Type} : Left H := { results := [], args := [] }

/-- 'laws.FnSymbols': WHATEVER THE INPUT: true; the input reads as it did. -/
def fnSymbolsSpec : ChangeSpec := { name := "fnSymbols", fn := fun _ => fun
  | [d] => { results := [.lit (.bool true)], args := [d] }
  | _ => none }
def fnSymbolsRow : OpenClaim := { program := "ytpgcnopdbdlahaa", sum := "1ca5dae86fe43e10d4f075c80e37400cd2cd30e7fe889955eb61e3104dde5a91", func := "loop.example/g00970/laws.FnSymbols", spec := "fnSymbols", inPlace := ["internal/bytealg.abigen_runtime_cmpstring"], named := ["math/bits.overflowError"], apart := false }
def FnSymbolsSaid : Prop := fnSymbolsRow.holds Try.pinned (OpenSpec.ofChange fnSymbolsSpec)

/-- ITS FALSE NEIGHBOUR: 'it returns false'. Refute it at one input. -/
def fnSymbolsWrong : ChangeSpec := { name := "fnSymbols", fn := fun _ => fun
  | [d] => { results := [.lit (.bool false)], args := [d] }
  | _ => none }
def FnSymbolsWrongFalsely : Prop := fnSymbolsRow.holds Try.pinned (OpenSpec.ofChange fnSymbolsWrong)

/-- 'laws.FnExactPrimeOk': WHATEVER THE INPUT: true; the input reads as it did. -/
def fnExactPrimeOkSpec : ChangeSpec := { name := "fnExactPrimeOk", fn := fun _ => fun
  | [d] => { results := [.lit (.bool true)], args := [d] }
  | _ => none }
def fnExactPrimeOkRow : OpenClaim := { program := "ytpgcnopdbdlahaa", sum := "1ca5dae86fe43e10d4f075c80e37400cd2cd30e7fe889955eb61e3104dde5a91", func := "loop.example/g00970/laws.FnExactPrimeOk", spec := "fnExactPrimeOk", apart := false }
def FnExactPrimeOkSaid : Prop := fnExactPrimeOkRow.holds Try.pinned (OpenSpec.ofChange fnExactPrimeOkSpec)

/-- ITS FALSE NEIGHBOUR: 'it returns false'. Refute it at one input. -/
def fnExactPrimeOkWrong : ChangeSpec := { name := "fnExactPrimeOk", fn := fun _ => fun
  | [d] => { results := [.lit (.bool false)], args := [d] }
  | _ => none }
def FnExactPrimeOkWrongFalsely : Prop := fnExactPrimeOkRow.holds Try.pinned (OpenSpec.ofChange fnExactPrimeOkWrong)

/-- 'laws.FnExactSymbolOf': WHATEVER THE INPUT: true; the input reads as it did. -/
def fnExactSymbolOfSpec : ChangeSpec := { name := "fnExactSymbolOf", fn := fun _ => fun
  | [d1, d2] => { results := [.lit (.bool true)], args := [d1, d2] }
  | _ => none }
def fnExactSymbolOfRow : OpenClaim := { program := "ytpgcnopdbdlahaa", sum := "1ca5dae86fe43e10d4f075c80e37400cd2cd30e7fe889955eb61e3104dde5a91", func := "loop.example/g00970/laws.FnExactSymbolOf", spec := "fnExactSymbolOf", inPlace := ["internal/bytealg.abigen_runtime_cmpstring"], named := ["math/bits.overflowError"], apart := false }
def FnExactSymbolOfSaid : Prop := fnExactSymbolOfRow.holds Try.pinned (OpenSpec.ofChange fnExactSymbolOfSpec)

/-- ITS FALSE NEIGHBOUR: 'it returns false'. Refute it at one input. -/
def fnExactSymbolOfWrong : ChangeSpec := { name := "fnExactSymbolOf", fn := fun _ => fun
  | [d1, d2] => { results := [.lit (.bool false)], args := [d1, d2] }
  | _ => none }
def FnExactSymbolOfWrongFalsely : Prop := fnExactSymbolOfRow.holds Try.pinned (OpenSpec.ofChange fnExactSymbolOfWrong)

/-- 'laws.FnExactRootOf': WHATEVER THE INPUT: true; the input reads as it did. -/
def fnExactRootOfSpec : ChangeSpec := { name := "fnExactRootOf", fn := fun _ => fun
  | [d1, d2] => { results := [.lit (.bool true)], args := [d1, d2] }
  | _ => none }
def fnExactRootOfRow : OpenClaim := { program := "ytpgcnopdbdlahaa", sum := "1ca5dae86fe43e10d4f075c80e37400cd2cd30e7fe889955eb61e3104dde5a91", func := "loop.example/g00970/laws.FnExactRootOf", spec := "fnExactRootOf", inPlace := ["internal/bytealg.abigen_runtime_cmpstring"], unfollowed := true, recurses := true, named := ["math/bits.overflowError"], apart := false }
def FnExactRootOfSaid : Prop := fnExactRootOfRow.holds Try.pinned (OpenSpec.ofChange fnExactRootOfSpec)

/-- ITS FALSE NEIGHBOUR: 'it returns false'. Refute it at one input. -/
def fnExactRootOfWrong : ChangeSpec := { name := "fnExactRootOf", fn := fun _ => fun
  | [d1, d2] => { results := [.lit (.bool false)], args := [d1, d2] }
  | _ => none }
def FnExactRootOfWrongFalsely : Prop := fnExactRootOfRow.holds Try.pinned (OpenSpec.ofChange fnExactRootOfWrong)

/-- 'laws.FnExactGreater': WHATEVER THE INPUT: true; the input reads as it did. -/
def fnExactGreaterSpec : ChangeSpec := { name := "fnExactGreater", fn := fun _ => fun
  | [d1, d2] => { results := [.lit (.bool true)], args := [d1, d2] }
  | _ => none }
def fnExactGreaterRow : OpenClaim := { program := "ytpgcnopdbdlahaa", sum := "1ca5dae86fe43e10d4f075c80e37400cd2cd30e7fe889955eb61e3104dde5a91", func := "loop.example/g00970/laws.FnExactGreater", spec := "fnExactGreater", inPlace := ["internal/bytealg.abigen_runtime_cmpstring"], unfollowed := true, recurses := true, named := ["math/bits.overflowError"], apart := false }
def FnExactGreaterSaid : Prop := fnExactGreaterRow.holds Try.pinned (OpenSpec.ofChange fnExactGreaterSpec)

/-- ITS FALSE NEIGHBOUR: 'it returns false'. Refute it at one input. -/
def fnExactGreaterWrong : ChangeSpec := { name := "fnExactGreater", fn := fun _ => fun
  | [d1, d2] => { results := [.lit (.bool false)], args := [d1, d2] }
  | _ => none }
def FnExactGreaterWrongFalsely : Prop := fnExactGreaterRow.holds Try.pinned (OpenSpec.ofChange fnExactGreaterWrong)

/-- 'laws.FnExactNoSquare': WHATEVER THE INPUT: true; the input reads as it did. -/
def fnExactNoSquareSpec : ChangeSpec := { name := "fnExactNoSquare", fn := fun _ => fun
  | [d] => { results := [.lit (.bool true)], args := [d] }
  | _ => none }
def fnExactNoSquareRow : OpenClaim := { program := "ytpgcnopdbdlahaa", sum := "1ca5dae86fe43e10d4f075c80e37400cd2cd30e7fe889955eb61e3104dde5a91", func := "loop.example/g00970/laws.FnExactNoSquare", spec := "fnExactNoSquare", inPlace := ["internal/bytealg.abigen_runtime_cmpstring"], named := ["math/bits.overflowError"], apart := false }
def FnExactNoSquareSaid : Prop := fnExactNoSquareRow.holds Try.pinned (OpenSpec.ofChange fnExactNoSquareSpec)

/-- ITS FALSE NEIGHBOUR: 'it returns false'. Refute it at one input. -/
def fnExactNoSquareWrong : ChangeSpec := { name := "fnExactNoSquare", fn := fun _ => fun
  | [d] => { results := [.lit (.bool false)], args := [d] }
  | _ => none }
def FnExactNoSquareWrongFalsely : Prop := fnExactNoSquareRow.holds Try.pinned (OpenSpec.ofChange fnExactNoSquareWrong)

/-- 'laws.FnExactTwosIn': WHATEVER THE INPUT: true; the input reads as it did. -/
def fnExactTwosInSpec : ChangeSpec := { name := "fnExactTwosIn", fn := fun _ => fun
  | [d] => { results := [.lit (.bool true)], args := [d] }
  | _ => none }
def fnExactTwosInRow : OpenClaim := { program := "ytpgcnopdbdlahaa", sum := "1ca5dae86fe43e10d4f075c80e37400cd2cd30e7fe889955eb61e3104dde5a91", func := "loop.example/g00970/laws.FnExactTwosIn", spec := "fnExactTwosIn", inPlace := ["internal/bytealg.abigen_runtime_cmpstring"], apart := false }
def FnExactTwosInSaid : Prop := fnExactTwosInRow.holds Try.pinned (OpenSpec.ofChange fnExactTwosInSpec)

/-- ITS FALSE NEIGHBOUR: 'it returns false'. Refute it at one input. -/
def fnExactTwosInWrong : ChangeSpec := { name := "fnExactTwosIn", fn := fun _ => fun
  | [d] => { results := [.lit (.bool false)], args := [d] }
  | _ => none }
def FnExactTwosInWrongFalsely : Prop := fnExactTwosInRow.holds Try.pinned (OpenSpec.ofChange fnExactTwosInWrong)

/- THE SECOND FORM. 'bulk': how many values and letters a reading holds, each counted each time it is reached (what is shared counts as often as it is met; a slice's spare places count too). A statement '..UptoSaid' is the law's where the arguments, and the package variables that the reading takes, are together of bulk at most 1048576: NARROWER than '..Said'. Prove '..Said' where nothing that the law and all that it calls make is longer than what came in: it says more and counts as full. Else prove '..UptoSaid'. A law counts once. -/
mutual
def uptoBulk {H : Type} : DataW H → Nat
  | .lit (.string bytes) => bytes.length + 1
  | .lit _ => 1
  | .nil => 1
  | .ptr d => uptoBulk d + 1
  | .slice elems spare => uptoBulkAll elems + uptoBulkAll spare + 1
  | .agg parts => uptoBulkAll parts + 1
  | .iface _ d => uptoBulk d + 1
  | .map entries => uptoBulkEntries entries + 1
  | .held _ => 1
def uptoBulkAll {H : Type} : List (DataW H) → Nat
  | [] => 0
  | d :: r => uptoBulk d + uptoBulkAll r
def uptoBulkEntries {H : Type} : List (Lit × DataW H) → Nat
  | [] => 0
  | x :: r => uptoBulkEntry x + uptoBulkEntries r
def uptoBulkEntry {H : Type} : Lit × DataW H → Nat
  | (.string bytes, d) => bytes.length + uptoBulk d + 1
  | (_, d) => uptoBulk d + 1
 end
def uptoSmall : (H : Type) → List (DataW H) → Bool := fun _ ds => decide (uptoBulkAll ds ≤ 1048576)
def OpenSpec.upto (s : _root_.Go.ChangeSpec) : _root_.Go.OpenSpec := { _root_.Go.OpenSpec.ofChange s with cond := some uptoSmall }

/-- 'laws.FnSymbols', WHERE WHAT IT READS IS OF BULK AT MOST 1048576: true; the input reads as it did. -/
def fnSymbolsUptoRow : OpenClaim := { program := "ytpgcnopdbdlahaa", sum := "1ca5dae86fe43e10d4f075c80e37400cd2cd30e7fe889955eb61e3104dde5a91", func := "loop.example/g00970/laws.FnSymbols", spec := "fnSymbols", inPlace := ["internal/bytealg.abigen_runtime_cmpstring"], named := ["math/bits.overflowError"], apart := false, narrowed := true }
def FnSymbolsUptoSaid : Prop := fnSymbolsUptoRow.holds Try.pinned (OpenSpec.upto fnSymbolsSpec)

/-- 'laws.FnExactPrimeOk', WHERE WHAT IT READS IS OF BULK AT MOST 1048576: true; the input reads as it did. -/
def fnExactPrimeOkUptoRow : OpenClaim := { program := "ytpgcnopdbdlahaa", sum := "1ca5dae86fe43e10d4f075c80e37400cd2cd30e7fe889955eb61e3104dde5a91", func := "loop.example/g00970/laws.FnExactPrimeOk", spec := "fnExactPrimeOk", apart := false, narrowed := true }
def FnExactPrimeOkUptoSaid : Prop := fnExactPrimeOkUptoRow.holds Try.pinned (OpenSpec.upto fnExactPrimeOkSpec)

/-- 'laws.FnExactSymbolOf', WHERE WHAT IT READS IS OF BULK AT MOST 1048576: true; the input reads as it did. -/
def fnExactSymbolOfUptoRow : OpenClaim := { program := "ytpgcnopdbdlahaa", sum := "1ca5dae86fe43e10d4f075c80e37400cd2cd30e7fe889955eb61e3104dde5a91", func := "loop.example/g00970/laws.FnExactSymbolOf", spec := "fnExactSymbolOf", inPlace := ["internal/bytealg.abigen_runtime_cmpstring"], named := ["math/bits.overflowError"], apart := false, narrowed := true }
def FnExactSymbolOfUptoSaid : Prop := fnExactSymbolOfUptoRow.holds Try.pinned (OpenSpec.upto fnExactSymbolOfSpec)

/-- 'laws.FnExactRootOf', WHERE WHAT IT READS IS OF BULK AT MOST 1048576: true; the input reads as it did. -/
def fnExactRootOfUptoRow : OpenClaim := { program := "ytpgcnopdbdlahaa", sum := "1ca5dae86fe43e10d4f075c80e37400cd2cd30e7fe889955eb61e3104dde5a91", func := "loop.example/g00970/laws.FnExactRootOf", spec := "fnExactRootOf", inPlace := ["internal/bytealg.abigen_runtime_cmpstring"], unfollowed := true, recurses := true, named := ["math/bits.overflowError"], apart := false, narrowed := true }
def FnExactRootOfUptoSaid : Prop := fnExactRootOfUptoRow.holds Try.pinned (OpenSpec.upto fnExactRootOfSpec)

/-- 'laws.FnExactGreater', WHERE WHAT IT READS IS OF BULK AT MOST 1048576: true; the input reads as it did. -/
def fnExactGreaterUptoRow : OpenClaim := { program := "ytpgcnopdbdlahaa", sum := "1ca5dae86fe43e10d4f075c80e37400cd2cd30e7fe889955eb61e3104dde5a91", func := "loop.example/g00970/laws.FnExactGreater", spec := "fnExactGreater", inPlace := ["internal/bytealg.abigen_runtime_cmpstring"], unfollowed := true, recurses := true, named := ["math/bits.overflowError"], apart := false, narrowed := true }
def FnExactGreaterUptoSaid : Prop := fnExactGreaterUptoRow.holds Try.pinned (OpenSpec.upto fnExactGreaterSpec)

/-- 'laws.FnExactNoSquare', WHERE WHAT IT READS IS OF BULK AT MOST 1048576: true; the input reads as it did. -/
def fnExactNoSquareUptoRow : OpenClaim := { program := "ytpgcnopdbdlahaa", sum := "1ca5dae86fe43e10d4f075c80e37400cd2cd30e7fe889955eb61e3104dde5a91", func := "loop.example/g00970/laws.FnExactNoSquare", spec := "fnExactNoSquare", inPlace := ["internal/bytealg.abigen_runtime_cmpstring"], named := ["math/bits.overflowError"], apart := false, narrowed := true }
def FnExactNoSquareUptoSaid : Prop := fnExactNoSquareUptoRow.holds Try.pinned (OpenSpec.upto fnExactNoSquareSpec)

/-- 'laws.FnExactTwosIn', WHERE WHAT IT READS IS OF BULK AT MOST 1048576: true; the input reads as it did. -/
def fnExactTwosInUptoRow : OpenClaim := { program := "ytpgcnopdbdlahaa", sum := "1ca5dae86fe43e10d4f075c80e37400cd2cd30e7fe889955eb61e3104dde5a91", func := "loop.example/g00970/laws.FnExactTwosIn", spec := "fnExactTwosIn", inPlace := ["internal/bytealg.abigen_runtime_cmpstring"], apart := false, narrowed := true }
def FnExactTwosInUptoSaid : Prop := fnExactTwosInUptoRow.holds Try.pinned (OpenSpec.upto fnExactTwosInSpec)

end Rows
end Go.Proofs.Ytpgcnopdbdlahaa

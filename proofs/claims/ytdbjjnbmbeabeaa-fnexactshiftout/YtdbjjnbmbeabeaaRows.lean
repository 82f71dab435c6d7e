/-
  No cell of these rows narrows 'for every input' (looked for: loops, veiled, ifaces, maps, wideKeys, modest, calm, conditions, laid).
  DERIVED. THE GIVEN ROWS OF THIS SEAT. 6 by the template 'for every input the law returns true; each argument reads behind the call as it read before'; 0 by the template 'total and deterministic' (their statements: YtdbjjnbmbeabeaaTotals.lean).
  GIVEN WITH THE SEED: the statements are not yours to turn. If you find one false, say at which input.
  Laid BY PROGRAM, IN A SANDBOX (cutbox-rows.mjs): the forced cells as the released guide's own fill.sh prints them over the translation 447a3c955548de31… (all of the seat's roots in one cut). By AI agents, Wed Nov 11 2026. No macro, syntax, notation, axiom, sorry.
-/
import Derived.Test.YtdbjjnbmbeabeaaChecked
import GoSem.Claim
import GoSem.ClaimJoined
import GoSem.ClaimMapViews
import Derived.JoinedTies
import Derived.KernelRfl
namespace Go.Proofs.Ytdbjjnbmbeabeaa
/- THE CELL 'sum', in the pinned program and in every row, IS THE sha256 OF THE DUMP (.gsa) THAT YtdbjjnbmbeabeaaProg.lean LOADS. Nothing in Lean hashes anything: it is a label: what it is worth is what the hold of that sum in a sandbox is worth. -/
noncomputable def Try.pinned : Pinned := { name := "ytdbjjnbmbeabeaa", sum := "447a3c955548de31ec25634e30cc30472e011578317dbe9e0650c7d68fe3bd28", checked := Try.checked }
namespace Rows
def none {H : Type} : Left H := { results := [], args := [] }

/-- 'laws.FnExactLimbsOf': WHATEVER THE INPUT: true; the input reads as it did. -/
def fnExactLimbsOfSpec : ChangeSpec := { name := "fnExactLimbsOf", fn := fun _ => fun
  | [d] => { results := [.lit (.bool true)], args := [d] }
  | _ => none }
def fnExactLimbsOfRow : OpenClaim := { program := "ytdbjjnbmbeabeaa", sum := "447a3c955548de31ec25634e30cc30472e011578317dbe9e0650c7d68fe3bd28", func := "loop.example/g00970/laws.FnExactLimbsOf", spec := "fnExactLimbsOf", apart := false }
def FnExactLimbsOfSaid : Prop := fnExactLimbsOfRow.holds Try.pinned (OpenSpec.ofChange fnExactLimbsOfSpec)

/-- ITS FALSE NEIGHBOUR: 'it returns false'. Refute it at one input. -/
def fnExactLimbsOfWrong : ChangeSpec := { name := "fnExactLimbsOf", fn := fun _ => fun
  | [d] => { results := [.lit (.bool false)], args := [d] }
  | _ => none }
def FnExactLimbsOfWrongFalsely : Prop := fnExactLimbsOfRow.holds Try.pinned (OpenSpec.ofChange fnExactLimbsOfWrong)

/-- 'laws.FnExactShiftOf': WHATEVER THE INPUT: true; the input reads as it did. -/
def fnExactShiftOfSpec : ChangeSpec := { name := "fnExactShiftOf", fn := fun _ => fun
  | [d] => { results := [.lit (.bool true)], args := [d] }
  | _ => none }
def fnExactShiftOfRow : OpenClaim := { program := "ytdbjjnbmbeabeaa", sum := "447a3c955548de31ec25634e30cc30472e011578317dbe9e0650c7d68fe3bd28", func := "loop.example/g00970/laws.FnExactShiftOf", spec := "fnExactShiftOf", inPlace := ["internal/bytealg.abigen_runtime_cmpstring"], named := ["math/bits.overflowError"], apart := false }
def FnExactShiftOfSaid : Prop := fnExactShiftOfRow.holds Try.pinned (OpenSpec.ofChange fnExactShiftOfSpec)

/-- ITS FALSE NEIGHBOUR: 'it returns false'. Refute it at one input. -/
def fnExactShiftOfWrong : ChangeSpec := { name := "fnExactShiftOf", fn := fun _ => fun
  | [d] => { results := [.lit (.bool false)], args := [d] }
  | _ => none }
def FnExactShiftOfWrongFalsely : Prop := fnExactShiftOfRow.holds Try.pinned (OpenSpec.ofChange fnExactShiftOfWrong)

/-- 'laws.FnExactShiftIn': WHATEVER THE INPUT: true; the input reads as it did. -/
def fnExactShiftInSpec : ChangeSpec := { name := "fnExactShiftIn", fn := fun _ => fun
  | [d1, d2] => { results := [.lit (.bool true)], args := [d1, d2] }
  | _ => none }
def fnExactShiftInRow : OpenClaim := { program := "ytdbjjnbmbeabeaa", sum := "447a3c955548de31ec25634e30cc30472e011578317dbe9e0650c7d68fe3bd28", func := "loop.example/g00970/laws.FnExactShiftIn", spec := "fnExactShiftIn", inPlace := ["internal/bytealg.abigen_runtime_cmpstring"], unfollowed := true, recurses := true, named := ["math/bits.overflowError"], apart := false }
def FnExactShiftInSaid : Prop := fnExactShiftInRow.holds Try.pinned (OpenSpec.ofChange fnExactShiftInSpec)

/-- ITS FALSE NEIGHBOUR: 'it returns false'. Refute it at one input. -/
def fnExactShiftInWrong : ChangeSpec := { name := "fnExactShiftIn", fn := fun _ => fun
  | [d1, d2] => { results := [.lit (.bool false)], args := [d1, d2] }
  | _ => none }
def FnExactShiftInWrongFalsely : Prop := fnExactShiftInRow.holds Try.pinned (OpenSpec.ofChange fnExactShiftInWrong)

/-- 'laws.FnExactShiftOut': WHATEVER THE INPUT: true; the input reads as it did. -/
def fnExactShiftOutSpec : ChangeSpec := { name := "fnExactShiftOut", fn := fun _ => fun
  | [d1, d2] => { results := [.lit (.bool true)], args := [d1, d2] }
  | _ => none }
def fnExactShiftOutRow : OpenClaim := { program := "ytdbjjnbmbeabeaa", sum := "447a3c955548de31ec25634e30cc30472e011578317dbe9e0650c7d68fe3bd28", func := "loop.example/g00970/laws.FnExactShiftOut", spec := "fnExactShiftOut", inPlace := ["internal/bytealg.abigen_runtime_cmpstring"], recurses := true, apart := false }
def FnExactShiftOutSaid : Prop := fnExactShiftOutRow.holds Try.pinned (OpenSpec.ofChange fnExactShiftOutSpec)

/-- ITS FALSE NEIGHBOUR: 'it returns false'. Refute it at one input. -/
def fnExactShiftOutWrong : ChangeSpec := { name := "fnExactShiftOut", fn := fun _ => fun
  | [d1, d2] => { results := [.lit (.bool false)], args := [d1, d2] }
  | _ => none }
def FnExactShiftOutWrongFalsely : Prop := fnExactShiftOutRow.holds Try.pinned (OpenSpec.ofChange fnExactShiftOutWrong)

/-- 'laws.FnExactShiftMul': WHATEVER THE INPUT: true; the input reads as it did. -/
def fnExactShiftMulSpec : ChangeSpec := { name := "fnExactShiftMul", fn := fun _ => fun
  | [d1, d2, d3] => { results := [.lit (.bool true)], args := [d1, d2, d3] }
  | _ => none }
def fnExactShiftMulRow : OpenClaim := { program := "ytdbjjnbmbeabeaa", sum := "447a3c955548de31ec25634e30cc30472e011578317dbe9e0650c7d68fe3bd28", func := "loop.example/g00970/laws.FnExactShiftMul", spec := "fnExactShiftMul", inPlace := ["internal/bytealg.abigen_runtime_cmpstring"], recurses := true, apart := false }
def FnExactShiftMulSaid : Prop := fnExactShiftMulRow.holds Try.pinned (OpenSpec.ofChange fnExactShiftMulSpec)

/-- ITS FALSE NEIGHBOUR: 'it returns false'. Refute it at one input. -/
def fnExactShiftMulWrong : ChangeSpec := { name := "fnExactShiftMul", fn := fun _ => fun
  | [d1, d2, d3] => { results := [.lit (.bool false)], args := [d1, d2, d3] }
  | _ => none }
def FnExactShiftMulWrongFalsely : Prop := fnExactShiftMulRow.holds Try.pinned (OpenSpec.ofChange fnExactShiftMulWrong)

/-- 'laws.FnExactLowInverse': WHATEVER THE INPUT: true; the input reads as it did. -/
def fnExactLowInverseSpec : ChangeSpec := { name := "fnExactLowInverse", fn := fun _ => fun
  | [d] => { results := [.lit (.bool true)], args := [d] }
  | _ => none }
def fnExactLowInverseRow : OpenClaim := { program := "ytdbjjnbmbeabeaa", sum := "447a3c955548de31ec25634e30cc30472e011578317dbe9e0650c7d68fe3bd28", func := "loop.example/g00970/laws.FnExactLowInverse", spec := "fnExactLowInverse", apart := false }
def FnExactLowInverseSaid : Prop := fnExactLowInverseRow.holds Try.pinned (OpenSpec.ofChange fnExactLowInverseSpec)

/-- ITS FALSE NEIGHBOUR: 'it returns false'. Refute it at one input. -/
def fnExactLowInverseWrong : ChangeSpec := { name := "fnExactLowInverse", fn := fun _ => fun
  | [d] => { results := [.lit (.bool false)], args := [d] }
  | _ => none }
def FnExactLowInverseWrongFalsely : Prop := fnExactLowInverseRow.holds Try.pinned (OpenSpec.ofChange fnExactLowInverseWrong)

/- THE SECOND FORM. 'bulk': how many values and letters a reading holds, each counted each time it is reached (what is shared counts as often as it is met; a slice's spare places count too). A statement '..UptoSaid' is the law's where the arguments, and the package variables that the reading takes, are together of bulk at most 1048576: NARROWER than '..Said'. Prove '..Said' where nothing that the law and all that it calls make is longer than what came in: it says more and counts as full. Else prove '..UptoSaid'. A law counts once. -/
mutual
def uptoBulk {H : Type} : DataW H → Nat
  | .lit (.string bytes) => bytes.length + 1
  | .lit _ => 1
  | .nil => 1
  | .ptr d => uptoBulk d + 1
  | .slice elems spare => uptoBulkAll elems + uptoBulkAll spare + 1
  | .agg parts => uptoBulkAll parts + 1
  | .iface _ d => uptoBulk d + 1
  | .map entries => uptoBulkEntries entries + 1
  | .held _ => 1
def uptoBulkAll {H : Type} : List (DataW H) → Nat
  | [] => 0
  | d :: r => uptoBulk d + uptoBulkAll r
def uptoBulkEntries {H : Type} : List (Lit × DataW H) → Nat
  | [] => 0
  | x :: r => uptoBulkEntry x + uptoBulkEntries r
def uptoBulkEntry {H : Type} : Lit × DataW H → Nat
  | (.string bytes, d) => bytes.length + uptoBulk d + 1
  | (_, d) => uptoBulk d + 1
 end
def uptoSmall : (H : Type) → List (DataW H) → Bool := fun _ ds => decide (uptoBulkAll ds ≤ 1048576)
def OpenSpec.upto (s : _root_.Go.ChangeSpec) : _root_.Go.OpenSpec := { _root_.Go.OpenSpec.ofChange s with cond := some uptoSmall }

/-- 'laws.FnExactLimbsOf', WHERE WHAT IT READS IS OF BULK AT MOST 1048576: true; the input reads as it did. -/
def fnExactLimbsOfUptoRow : OpenClaim := { program := "ytdbjjnbmbeabeaa", sum := "447a3c955548de31ec25634e30cc30472e011578317dbe9e0650c7d68fe3bd28", func := "loop.example/g00970/laws.FnExactLimbsOf", spec := "fnExactLimbsOf", apart := false, narrowed := true }
def FnExactLimbsOfUptoSaid : Prop := fnExactLimbsOfUptoRow.holds Try.pinned (OpenSpec.upto fnExactLimbsOfSpec)

/-- 'laws.FnExactShiftOf', WHERE WHAT IT READS IS OF BULK AT MOST 1048576: true; the input reads as it did. -/
def fnExactShiftOfUptoRow : OpenClaim := { program := "ytdbjjnbmbeabeaa", sum := "447a3c955548de31ec25634e30cc30472e011578317dbe9e0650c7d68fe3bd28", func := "loop.example/g00970/laws.FnExactShiftOf", spec := "fnExactShiftOf", inPlace := ["internal/bytealg.abigen_runtime_cmpstring"], named := ["math/bits.overflowError"], apart := false, narrowed := true }
def FnExactShiftOfUptoSaid : Prop := fnExactShiftOfUptoRow.holds Try.pinned (OpenSpec.upto fnExactShiftOfSpec)

/-- 'laws.FnExactShiftIn', WHERE WHAT IT READS IS OF BULK AT MOST 1048576: true; the input reads as it did. -/
def fnExactShiftInUptoRow : OpenClaim := { program := "ytdbjjnbmbeabeaa", sum := "447a3c955548de31ec25634e30cc30472e011578317dbe9e0650c7d68fe3bd28", func := "loop.example/g00970/laws.FnExactShiftIn", spec := "fnExactShiftIn", inPlace := ["internal/bytealg.abigen_runtime_cmpstring"], unfollowed := true, recurses := true, named := ["math/bits.overflowError"], apart := false, narrowed := true }
def FnExactShiftInUptoSaid : Prop := fnExactShiftInUptoRow.holds Try.pinned (OpenSpec.upto fnExactShiftInSpec)

/-- 'laws.FnExactShiftOut', WHERE WHAT IT READS IS OF BULK AT MOST 1048576: true; the input reads as it did. -/
def fnExactShiftOutUptoRow : OpenClaim := { program := "ytdbjjnbmbeabeaa", sum := "447a3c955548de31ec25634e30cc30472e011578317dbe9e0650c7d68fe3bd28", func := "loop.example/g00970/laws.FnExactShiftOut", spec := "fnExactShiftOut", inPlace := ["internal/bytealg.abigen_runtime_cmpstring"], recurses := true, apart := false, narrowed := true }
def FnExactShiftOutUptoSaid : Prop := fnExactShiftOutUptoRow.holds Try.pinned (OpenSpec.upto fnExactShiftOutSpec)

/-- 'laws.FnExactShiftMul', WHERE WHAT IT READS IS OF BULK AT MOST 1048576: true; the input reads as it did. -/
def fnExactShiftMulUptoRow : OpenClaim := { program := "ytdbjjnbmbeabeaa", sum := "447a3c955548de31ec25634e30cc30472e011578317dbe9e0650c7d68fe3bd28", func := "loop.example/g00970/laws.FnExactShiftMul", spec := "fnExactShiftMul", inPlace := ["internal/bytealg.abigen_runtime_cmpstring"], recurses := true, apart := false, narrowed := true }
def FnExactShiftMulUptoSaid : Prop := fnExactShiftMulUptoRow.holds Try.pinned (OpenSpec.upto fnExactShiftMulSpec)

/-- 'laws.FnExactLowInverse', WHERE WHAT IT READS IS OF BULK AT MOST 1048576: true; the input reads as it did. -/
def fnExactLowInverseUptoRow : OpenClaim := { program := "ytdbjjnbmbeabeaa", sum := "447a3c955548de31ec25634e30cc30472e011578317dbe9e0650c7d68fe3bd28", func := "loop.example/g00970/laws.FnExactLowInverse", spec := "fnExactLowInverse", apart := false, narrowed := true }
def FnExactLowInverseUptoSaid : Prop := fnExactLowInverseUptoRow.holds Try.pinned (OpenSpec.upto fnExactLowInverseSpec)

end Rows
end Go.Proofs.Ytdbjjnbmbeabeaa

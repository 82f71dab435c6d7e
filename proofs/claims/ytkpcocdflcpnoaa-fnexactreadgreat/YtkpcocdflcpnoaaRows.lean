/-
  No cell of these rows narrows 'for every input' (looked for: loops, veiled, ifaces, maps, wideKeys, modest, calm, conditions, laid).
  DERIVED. THE GIVEN ROWS OF THIS SEAT. 8 by the template 'for every input the law returns true; each argument reads behind the call as it read before'; 0 by the template 'total and deterministic' (their statements: YtkpcocdflcpnoaaTotals.lean).
  GIVEN WITH THE SEED: the statements are not yours to turn. If you find one false, say at which input.
  Laid BY PROGRAM, IN A SANDBOX (cutbox-rows.mjs): the forced cells as the released guide's own fill.sh prints them over the translation 49f7e6fa5523c37e… (all of the seat's roots in one cut). By AI agents, Wed Nov 11 2026. No macro, syntax, notation, axiom, sorry.
-/
import Derived.Test.YtkpcocdflcpnoaaChecked
import GoSem.Claim
import GoSem.ClaimJoined
import GoSem.ClaimMapViews
import Derived.JoinedTies
import Derived.KernelRfl
namespace Go.Proofs.Ytkpcocdflcpnoaa
/- THE CELL 'sum', in the pinned program and in every row, IS THE sha256 OF THE DUMP (.gsa) THAT YtkpcocdflcpnoaaProg.lean LOADS. Nothing in Lean hashes anything: it is a label: what it is worth is what the hold of that sum in a sandbox is worth. -/
noncomputable def Try.pinned : Pinned := { name := "ytkpcocdflcpnoaa", sum := "49f7e6fa5523c37e394223418dbd5ed16b5f2dc1563799defeaf437575ceb359", checked := Try.checked }
namespace Rows
def none {H : Type} : Left H := { results := [], args := [] }

/-- 'laws.FnTold': WHATEVER THE INPUT: true; the input reads as it did. -/
def fnToldSpec : ChangeSpec := { name := "fnTold", fn := fun _ => fun
  | [d] => { results := [.lit (.bool true)], args := [d] }
  | _ => none }
def fnToldRow : OpenClaim := { program := "ytkpcocdflcpnoaa", sum := "49f7e6fa5523c37e394223418dbd5ed16b5f2dc1563799defeaf437575ceb359", func := "loop.example/g00970/laws.FnTold", spec := "fnTold", unfollowed := true, recurses := true, named := ["math/bits.overflowError"], apart := false }
def FnToldSaid : Prop := fnToldRow.holds Try.pinned (OpenSpec.ofChange fnToldSpec)

/-- ITS FALSE NEIGHBOUR: 'it returns false'. Refute it at one input. -/
def fnToldWrong : ChangeSpec := { name := "fnTold", fn := fun _ => fun
  | [d] => { results := [.lit (.bool false)], args := [d] }
  | _ => none }
def FnToldWrongFalsely : Prop := fnToldRow.holds Try.pinned (OpenSpec.ofChange fnToldWrong)

/-- 'laws.FnByteWays': WHATEVER THE INPUT: true; the input reads as it did. -/
def fnByteWaysSpec : ChangeSpec := { name := "fnByteWays", fn := fun _ => fun
  | [d] => { results := [.lit (.bool true)], args := [d] }
  | _ => none }
def fnByteWaysRow : OpenClaim := { program := "ytkpcocdflcpnoaa", sum := "49f7e6fa5523c37e394223418dbd5ed16b5f2dc1563799defeaf437575ceb359", func := "loop.example/g00970/laws.FnByteWays", spec := "fnByteWays", unfollowed := true, recurses := true, apart := false }
def FnByteWaysSaid : Prop := fnByteWaysRow.holds Try.pinned (OpenSpec.ofChange fnByteWaysSpec)

/-- ITS FALSE NEIGHBOUR: 'it returns false'. Refute it at one input. -/
def fnByteWaysWrong : ChangeSpec := { name := "fnByteWays", fn := fun _ => fun
  | [d] => { results := [.lit (.bool false)], args := [d] }
  | _ => none }
def FnByteWaysWrongFalsely : Prop := fnByteWaysRow.holds Try.pinned (OpenSpec.ofChange fnByteWaysWrong)

/-- 'laws.FnExactGreatText': WHATEVER THE INPUT: true; the input reads as it did. -/
def fnExactGreatTextSpec : ChangeSpec := { name := "fnExactGreatText", fn := fun _ => fun
  | [d] => { results := [.lit (.bool true)], args := [d] }
  | _ => none }
def fnExactGreatTextRow : OpenClaim := { program := "ytkpcocdflcpnoaa", sum := "49f7e6fa5523c37e394223418dbd5ed16b5f2dc1563799defeaf437575ceb359", func := "loop.example/g00970/laws.FnExactGreatText", spec := "fnExactGreatText", named := ["math/bits.overflowError"], apart := false }
def FnExactGreatTextSaid : Prop := fnExactGreatTextRow.holds Try.pinned (OpenSpec.ofChange fnExactGreatTextSpec)

/-- ITS FALSE NEIGHBOUR: 'it returns false'. Refute it at one input. -/
def fnExactGreatTextWrong : ChangeSpec := { name := "fnExactGreatText", fn := fun _ => fun
  | [d] => { results := [.lit (.bool false)], args := [d] }
  | _ => none }
def FnExactGreatTextWrongFalsely : Prop := fnExactGreatTextRow.holds Try.pinned (OpenSpec.ofChange fnExactGreatTextWrong)

/-- 'laws.FnExactReadGreat': WHATEVER THE INPUT: true; the input reads as it did. -/
def fnExactReadGreatSpec : ChangeSpec := { name := "fnExactReadGreat", fn := fun _ => fun
  | [d] => { results := [.lit (.bool true)], args := [d] }
  | _ => none }
def fnExactReadGreatRow : OpenClaim := { program := "ytkpcocdflcpnoaa", sum := "49f7e6fa5523c37e394223418dbd5ed16b5f2dc1563799defeaf437575ceb359", func := "loop.example/g00970/laws.FnExactReadGreat", spec := "fnExactReadGreat", unfollowed := true, recurses := true, apart := false }
def FnExactReadGreatSaid : Prop := fnExactReadGreatRow.holds Try.pinned (OpenSpec.ofChange fnExactReadGreatSpec)

/-- ITS FALSE NEIGHBOUR: 'it returns false'. Refute it at one input. -/
def fnExactReadGreatWrong : ChangeSpec := { name := "fnExactReadGreat", fn := fun _ => fun
  | [d] => { results := [.lit (.bool false)], args := [d] }
  | _ => none }
def FnExactReadGreatWrongFalsely : Prop := fnExactReadGreatRow.holds Try.pinned (OpenSpec.ofChange fnExactReadGreatWrong)

/-- 'laws.FnExactFirstBytes': WHATEVER THE INPUT: true; the input reads as it did. -/
def fnExactFirstBytesSpec : ChangeSpec := { name := "fnExactFirstBytes", fn := fun _ => fun
  | [d1, d2] => { results := [.lit (.bool true)], args := [d1, d2] }
  | _ => none }
def fnExactFirstBytesRow : OpenClaim := { program := "ytkpcocdflcpnoaa", sum := "49f7e6fa5523c37e394223418dbd5ed16b5f2dc1563799defeaf437575ceb359", func := "loop.example/g00970/laws.FnExactFirstBytes", spec := "fnExactFirstBytes", unfollowed := true, recurses := true, apart := false }
def FnExactFirstBytesSaid : Prop := fnExactFirstBytesRow.holds Try.pinned (OpenSpec.ofChange fnExactFirstBytesSpec)

/-- ITS FALSE NEIGHBOUR: 'it returns false'. Refute it at one input. -/
def fnExactFirstBytesWrong : ChangeSpec := { name := "fnExactFirstBytes", fn := fun _ => fun
  | [d1, d2] => { results := [.lit (.bool false)], args := [d1, d2] }
  | _ => none }
def FnExactFirstBytesWrongFalsely : Prop := fnExactFirstBytesRow.holds Try.pinned (OpenSpec.ofChange fnExactFirstBytesWrong)

/-- 'laws.FnExactLastBytes': WHATEVER THE INPUT: true; the input reads as it did. -/
def fnExactLastBytesSpec : ChangeSpec := { name := "fnExactLastBytes", fn := fun _ => fun
  | [d1, d2] => { results := [.lit (.bool true)], args := [d1, d2] }
  | _ => none }
def fnExactLastBytesRow : OpenClaim := { program := "ytkpcocdflcpnoaa", sum := "49f7e6fa5523c37e394223418dbd5ed16b5f2dc1563799defeaf437575ceb359", func := "loop.example/g00970/laws.FnExactLastBytes", spec := "fnExactLastBytes", unfollowed := true, recurses := true, apart := false }
def FnExactLastBytesSaid : Prop := fnExactLastBytesRow.holds Try.pinned (OpenSpec.ofChange fnExactLastBytesSpec)

/-- ITS FALSE NEIGHBOUR: 'it returns false'. Refute it at one input. -/
def fnExactLastBytesWrong : ChangeSpec := { name := "fnExactLastBytes", fn := fun _ => fun
  | [d1, d2] => { results := [.lit (.bool false)], args := [d1, d2] }
  | _ => none }
def FnExactLastBytesWrongFalsely : Prop := fnExactLastBytesRow.holds Try.pinned (OpenSpec.ofChange fnExactLastBytesWrong)

/-- 'laws.FnExactFromFirst': WHATEVER THE INPUT: true; the input reads as it did. -/
def fnExactFromFirstSpec : ChangeSpec := { name := "fnExactFromFirst", fn := fun _ => fun
  | [d] => { results := [.lit (.bool true)], args := [d] }
  | _ => none }
def fnExactFromFirstRow : OpenClaim := { program := "ytkpcocdflcpnoaa", sum := "49f7e6fa5523c37e394223418dbd5ed16b5f2dc1563799defeaf437575ceb359", func := "loop.example/g00970/laws.FnExactFromFirst", spec := "fnExactFromFirst", apart := false }
def FnExactFromFirstSaid : Prop := fnExactFromFirstRow.holds Try.pinned (OpenSpec.ofChange fnExactFromFirstSpec)

/-- ITS FALSE NEIGHBOUR: 'it returns false'. Refute it at one input. -/
def fnExactFromFirstWrong : ChangeSpec := { name := "fnExactFromFirst", fn := fun _ => fun
  | [d] => { results := [.lit (.bool false)], args := [d] }
  | _ => none }
def FnExactFromFirstWrongFalsely : Prop := fnExactFromFirstRow.holds Try.pinned (OpenSpec.ofChange fnExactFromFirstWrong)

/-- 'laws.FnExactFromLast': WHATEVER THE INPUT: true; the input reads as it did. -/
def fnExactFromLastSpec : ChangeSpec := { name := "fnExactFromLast", fn := fun _ => fun
  | [d] => { results := [.lit (.bool true)], args := [d] }
  | _ => none }
def fnExactFromLastRow : OpenClaim := { program := "ytkpcocdflcpnoaa", sum := "49f7e6fa5523c37e394223418dbd5ed16b5f2dc1563799defeaf437575ceb359", func := "loop.example/g00970/laws.FnExactFromLast", spec := "fnExactFromLast", apart := false }
def FnExactFromLastSaid : Prop := fnExactFromLastRow.holds Try.pinned (OpenSpec.ofChange fnExactFromLastSpec)

/-- ITS FALSE NEIGHBOUR: 'it returns false'. Refute it at one input. -/
def fnExactFromLastWrong : ChangeSpec := { name := "fnExactFromLast", fn := fun _ => fun
  | [d] => { results := [.lit (.bool false)], args := [d] }
  | _ => none }
def FnExactFromLastWrongFalsely : Prop := fnExactFromLastRow.holds Try.pinned (OpenSpec.ofChange fnExactFromLastWrong)

/- THE SECOND FORM. 'bulk': how many values and letters a reading holds, each counted each time it is reached (what is shared counts as often as it is met; a slice's spare places count too). A statement '..UptoSaid' is the law's where the arguments, and the package variables that the reading takes, are together of bulk at most 1048576: NARROWER than '..Said'. Prove '..Said' where nothing that the law and all that it calls make is longer than what came in: it says more and counts as full. Else prove '..UptoSaid'. A law counts once. -/
mutual
def uptoBulk {H : Type} : DataW H → Nat
  | .lit (.string bytes) => bytes.length + 1
  | .lit _ => 1
  | .nil => 1
  | .ptr d => uptoBulk d + 1
  | .slice elems spare => uptoBulkAll elems + uptoBulkAll spare + 1
  | .agg parts => uptoBulkAll parts + 1
  | .iface _ d => uptoBulk d + 1
  | .map entries => uptoBulkEntries entries + 1
  | .held _ => 1
def uptoBulkAll {H : Type} : List (DataW H) → Nat
  | [] => 0
  | d :: r => uptoBulk d + uptoBulkAll r
def uptoBulkEntries {H : Type} : List (Lit × DataW H) → Nat
  | [] => 0
  | x :: r => uptoBulkEntry x + uptoBulkEntries r
def uptoBulkEntry {H : Type} : Lit × DataW H → Nat
  | (.string bytes, d) => bytes.length + uptoBulk d + 1
  | (_, d) => uptoBulk d + 1
 end
def uptoSmall : (H : Type) → List (DataW H) → Bool := fun _ ds => decide (uptoBulkAll ds ≤ 1048576)
def OpenSpec.upto (s : _root_.Go.ChangeSpec) : _root_.Go.OpenSpec := { _root_.Go.OpenSpec.ofChange s with cond := some uptoSmall }

/-- 'laws.FnTold', WHERE WHAT IT READS IS OF BULK AT MOST 1048576: true; the input reads as it did. -/
def fnToldUptoRow : OpenClaim := { program := "ytkpcocdflcpnoaa", sum := "49f7e6fa5523c37e394223418dbd5ed16b5f2dc1563799defeaf437575ceb359", func := "loop.example/g00970/laws.FnTold", spec := "fnTold", unfollowed := true, recurses := true, named := ["math/bits.overflowError"], apart := false, narrowed := true }
def FnToldUptoSaid : Prop := fnToldUptoRow.holds Try.pinned (OpenSpec.upto fnToldSpec)

/-- 'laws.FnByteWays', WHERE WHAT IT READS IS OF BULK AT MOST 1048576: true; the input reads as it did. -/
def fnByteWaysUptoRow : OpenClaim := { program := "ytkpcocdflcpnoaa", sum := "49f7e6fa5523c37e394223418dbd5ed16b5f2dc1563799defeaf437575ceb359", func := "loop.example/g00970/laws.FnByteWays", spec := "fnByteWays", unfollowed := true, recurses := true, apart := false, narrowed := true }
def FnByteWaysUptoSaid : Prop := fnByteWaysUptoRow.holds Try.pinned (OpenSpec.upto fnByteWaysSpec)

/-- 'laws.FnExactGreatText', WHERE WHAT IT READS IS OF BULK AT MOST 1048576: true; the input reads as it did. -/
def fnExactGreatTextUptoRow : OpenClaim := { program := "ytkpcocdflcpnoaa", sum := "49f7e6fa5523c37e394223418dbd5ed16b5f2dc1563799defeaf437575ceb359", func := "loop.example/g00970/laws.FnExactGreatText", spec := "fnExactGreatText", named := ["math/bits.overflowError"], apart := false, narrowed := true }
def FnExactGreatTextUptoSaid : Prop := fnExactGreatTextUptoRow.holds Try.pinned (OpenSpec.upto fnExactGreatTextSpec)

/-- 'laws.FnExactReadGreat', WHERE WHAT IT READS IS OF BULK AT MOST 1048576: true; the input reads as it did. -/
def fnExactReadGreatUptoRow : OpenClaim := { program := "ytkpcocdflcpnoaa", sum := "49f7e6fa5523c37e394223418dbd5ed16b5f2dc1563799defeaf437575ceb359", func := "loop.example/g00970/laws.FnExactReadGreat", spec := "fnExactReadGreat", unfollowed := true, recurses := true, apart := false, narrowed := true }
def FnExactReadGreatUptoSaid : Prop := fnExactReadGreatUptoRow.holds Try.pinned (OpenSpec.upto fnExactReadGreatSpec)

/-- 'laws.FnExactFirstBytes', WHERE WHAT IT READS IS OF BULK AT MOST 1048576: true; the input reads as it did. -/
def fnExactFirstBytesUptoRow : OpenClaim := { program := "ytkpcocdflcpnoaa", sum := "49f7e6fa5523c37e394223418dbd5ed16b5f2dc1563799defeaf437575ceb359", func := "loop.example/g00970/laws.FnExactFirstBytes", spec := "fnExactFirstBytes", unfollowed := true, recurses := true, apart := false, narrowed := true }
def FnExactFirstBytesUptoSaid : Prop := fnExactFirstBytesUptoRow.holds Try.pinned (OpenSpec.upto fnExactFirstBytesSpec)

/-- 'laws.FnExactLastBytes', WHERE WHAT IT READS IS OF BULK AT MOST 1048576: true; the input reads as it did. -/
def fnExactLastBytesUptoRow : OpenClaim := { program := "ytkpcocdflcpnoaa", sum := "49f7e6fa5523c37e394223418dbd5ed16b5f2dc1563799defeaf437575ceb359", func := "loop.example/g00970/laws.FnExactLastBytes", spec := "fnExactLastBytes", unfollowed := true, recurses := true, apart := false, narrowed := true }
def FnExactLastBytesUptoSaid : Prop := fnExactLastBytesUptoRow.holds Try.pinned (OpenSpec.upto fnExactLastBytesSpec)

/-- 'laws.FnExactFromFirst', WHERE WHAT IT READS IS OF BULK AT MOST 1048576: true; the input reads as it did. -/
def fnExactFromFirstUptoRow : OpenClaim := { program := "ytkpcocdflcpnoaa", sum := "49f7e6fa5523c37e394223418dbd5ed16b5f2dc1563799defeaf437575ceb359", func := "loop.example/g00970/laws.FnExactFromFirst", spec := "fnExactFromFirst", apart := false, narrowed := true }
def FnExactFromFirstUptoSaid : Prop := fnExactFromFirstUptoRow.holds Try.pinned (OpenSpec.upto fnExactFromFirstSpec)

/-- 'laws.FnExactFromLast', WHERE WHAT IT READS IS OF BULK AT MOST 1048576: true; the input reads as it did. -/
def fnExactFromLastUptoRow : OpenClaim := { program := "ytkpcocdflcpnoaa", sum := "49f7e6fa5523c37e394223418dbd5ed16b5f2dc1563799defeaf437575ceb359", func := "loop.example/g00970/laws.FnExactFromLast", spec := "fnExactFromLast", apart := false, narrowed := true }
def FnExactFromLastUptoSaid : Prop := fnExactFromLastUptoRow.holds Try.pinned (OpenSpec.upto fnExactFromLastSpec)

end Rows
end Go.Proofs.Ytkpcocdflcpnoaa

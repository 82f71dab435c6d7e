/-
  No cell of these rows narrows 'for every input' (looked for: loops, veiled, ifaces, maps, wideKeys, modest, calm, conditions, laid).
  DERIVED. THE GIVEN ROWS OF THIS SEAT. 3 by the template 'for every input the law returns true; each argument reads behind the call as it read before'; 0 by the template 'total and deterministic' (their statements: YtdajgcgliidjbaaGreatTotals.lean).
  GIVEN WITH THE SEED: the statements are not yours to turn. If you find one false, say at which input.
  Laid BY PROGRAM, IN A SANDBOX (cutbox-rows.mjs): the forced cells as the released guide's own fill.sh prints them over the translation 9e4373783d97bc93… (all of the seat's roots in one cut). By AI agents, Wed Nov 11 2026. No macro, syntax, notation, axiom, sorry.
-/
import Derived.Test.YtdajgcgliidjbaaGreatChecked
import GoSem.Claim
import GoSem.ClaimJoined
import GoSem.ClaimMapViews
import Derived.JoinedTies
import Derived.KernelRfl
namespace Go.Proofs.YtdajgcgliidjbaaGreat
/- THE CELL 'sum', in the pinned program and in every row, IS THE sha256 OF THE DUMP (.gsa) THAT YtdajgcgliidjbaaGreatProg.lean LOADS. Nothing in Lean hashes anything: it is a label: what it is worth is what the hold of that sum in a sandbox is worth. -/
noncomputable def Tryz.pinned : Pinned := { name := "ytdajgcgliidjbaagreat", sum := "9e4373783d97bc93ab21344fda6675b428884fe367aba7122c0c6a4ae3b8584c", checked := Tryz.checked }
namespace Rows
def none {H : Type} : Left H := { results := [], args := [] }

/-- 'laws.FnPairPoints': WHATEVER THE INPUT: true; the input reads as it did. -/
def fnPairPointsSpec : ChangeSpec := { name := "fnPairPoints", fn := fun _ => fun
  | [d] => { results := [.lit (.bool true)], args := [d] }
  | _ => none }
def fnPairPointsRow : OpenClaim := { program := "ytdajgcgliidjbaagreat", sum := "9e4373783d97bc93ab21344fda6675b428884fe367aba7122c0c6a4ae3b8584c", func := "loop.example/g00970/laws.FnPairPoints", spec := "fnPairPoints", inPlace := ["internal/bytealg.abigen_runtime_cmpstring"], unfollowed := true, recurses := true, named := ["math/bits.overflowError"], apart := false }
def FnPairPointsSaid : Prop := fnPairPointsRow.holds Tryz.pinned (OpenSpec.ofChange fnPairPointsSpec)

/-- ITS FALSE NEIGHBOUR: 'it returns false'. Refute it at one input. -/
def fnPairPointsWrong : ChangeSpec := { name := "fnPairPoints", fn := fun _ => fun
  | [d] => { results := [.lit (.bool false)], args := [d] }
  | _ => none }
def FnPairPointsWrongFalsely : Prop := fnPairPointsRow.holds Tryz.pinned (OpenSpec.ofChange fnPairPointsWrong)

/-- 'laws.FnExactAddPairPoint': WHATEVER THE INPUT: true; the input reads as it did. -/
def fnExactAddPairPointSpec : ChangeSpec := { name := "fnExactAddPairPoint", fn := fun _ => fun
  | [d1, d2, d3] => { results := [.lit (.bool true)], args := [d1, d2, d3] }
  | _ => none }
def fnExactAddPairPointRow : OpenClaim := { program := "ytdajgcgliidjbaagreat", sum := "9e4373783d97bc93ab21344fda6675b428884fe367aba7122c0c6a4ae3b8584c", func := "loop.example/g00970/laws.FnExactAddPairPoint", spec := "fnExactAddPairPoint", inPlace := ["internal/bytealg.abigen_runtime_cmpstring"], unfollowed := true, recurses := true, named := ["math/bits.overflowError"], apart := false }
def FnExactAddPairPointSaid : Prop := fnExactAddPairPointRow.holds Tryz.pinned (OpenSpec.ofChange fnExactAddPairPointSpec)

/-- ITS FALSE NEIGHBOUR: 'it returns false'. Refute it at one input. -/
def fnExactAddPairPointWrong : ChangeSpec := { name := "fnExactAddPairPoint", fn := fun _ => fun
  | [d1, d2, d3] => { results := [.lit (.bool false)], args := [d1, d2, d3] }
  | _ => none }
def FnExactAddPairPointWrongFalsely : Prop := fnExactAddPairPointRow.holds Tryz.pinned (OpenSpec.ofChange fnExactAddPairPointWrong)

/-- 'laws.FnExactLiftPairPoint': WHATEVER THE INPUT: true; the input reads as it did. -/
def fnExactLiftPairPointSpec : ChangeSpec := { name := "fnExactLiftPairPoint", fn := fun _ => fun
  | [d1, d2, d3] => { results := [.lit (.bool true)], args := [d1, d2, d3] }
  | _ => none }
def fnExactLiftPairPointRow : OpenClaim := { program := "ytdajgcgliidjbaagreat", sum := "9e4373783d97bc93ab21344fda6675b428884fe367aba7122c0c6a4ae3b8584c", func := "loop.example/g00970/laws.FnExactLiftPairPoint", spec := "fnExactLiftPairPoint", inPlace := ["internal/bytealg.abigen_runtime_cmpstring"], unfollowed := true, recurses := true, named := ["math/bits.overflowError"], apart := false }
def FnExactLiftPairPointSaid : Prop := fnExactLiftPairPointRow.holds Tryz.pinned (OpenSpec.ofChange fnExactLiftPairPointSpec)

/-- ITS FALSE NEIGHBOUR: 'it returns false'. Refute it at one input. -/
def fnExactLiftPairPointWrong : ChangeSpec := { name := "fnExactLiftPairPoint", fn := fun _ => fun
  | [d1, d2, d3] => { results := [.lit (.bool false)], args := [d1, d2, d3] }
  | _ => none }
def FnExactLiftPairPointWrongFalsely : Prop := fnExactLiftPairPointRow.holds Tryz.pinned (OpenSpec.ofChange fnExactLiftPairPointWrong)

/- THE SECOND FORM. 'bulk': how many values and letters a reading holds, each counted each time it is reached (what is shared counts as often as it is met; a slice's spare places count too). A statement '..UptoSaid' is the law's where the arguments, and the package variables that the reading takes, are together of bulk at most 1048576: NARROWER than '..Said'. Prove '..Said' where nothing that the law and all that it calls make is longer than what came in: it says more and counts as full. Else prove '..UptoSaid'. A law counts once. -/
mutual
def uptoBulk {H : Type} : DataW H → Nat
  | .lit (.string bytes) => bytes.length + 1
  | .lit _ => 1
  | .nil => 1
  | .ptr d => uptoBulk d + 1
  | .slice elems spare => uptoBulkAll elems + uptoBulkAll spare + 1
  | .agg parts => uptoBulkAll parts + 1
  | .iface _ d => uptoBulk d + 1
  | .map entries => uptoBulkEntries entries + 1
  | .held _ => 1
def uptoBulkAll {H : Type} : List (DataW H) → Nat
  | [] => 0
  | d :: r => uptoBulk d + uptoBulkAll r
def uptoBulkEntries {H : Type} : List (Lit × DataW H) → Nat
  | [] => 0
  | x :: r => uptoBulkEntry x + uptoBulkEntries r
def uptoBulkEntry {H : Type} : Lit × DataW H → Nat
  | (.string bytes, d) => bytes.length + uptoBulk d + 1
  | (_, d) => uptoBulk d + 1
 end
def uptoSmall : (H : Type) → List (DataW H) → Bool := fun _ ds => decide (uptoBulkAll ds ≤ 1048576)
def OpenSpec.upto (s : _root_.Go.ChangeSpec) : _root_.Go.OpenSpec := { _root_.Go.OpenSpec.ofChange s with cond := some uptoSmall }

/-- 'laws.FnPairPoints', WHERE WHAT IT READS IS OF BULK AT MOST 1048576: true; the input reads as it did. -/
def fnPairPointsUptoRow : OpenClaim := { program := "ytdajgcgliidjbaagreat", sum := "9e4373783d97bc93ab21344fda6675b428884fe367aba7122c0c6a4ae3b8584c", func := "loop.example/g00970/laws.FnPairPoints", spec := "fnPairPoints", inPlace := ["internal/bytealg.abigen_runtime_cmpstring"], unfollowed := true, recurses := true, named := ["math/bits.overflowError"], apart := false, narrowed := true }
def FnPairPointsUptoSaid : Prop := fnPairPointsUptoRow.holds Tryz.pinned (OpenSpec.upto fnPairPointsSpec)

/-- 'laws.FnExactAddPairPoint', WHERE WHAT IT READS IS OF BULK AT MOST 1048576: true; the input reads as it did. -/
def fnExactAddPairPointUptoRow : OpenClaim := { program := "ytdajgcgliidjbaagreat", sum := "9e4373783d97bc93ab21344fda6675b428884fe367aba7122c0c6a4ae3b8584c", func := "loop.example/g00970/laws.FnExactAddPairPoint", spec := "fnExactAddPairPoint", inPlace := ["internal/bytealg.abigen_runtime_cmpstring"], unfollowed := true, recurses := true, named := ["math/bits.overflowError"], apart := false, narrowed := true }
def FnExactAddPairPointUptoSaid : Prop := fnExactAddPairPointUptoRow.holds Tryz.pinned (OpenSpec.upto fnExactAddPairPointSpec)

/-- 'laws.FnExactLiftPairPoint', WHERE WHAT IT READS IS OF BULK AT MOST 1048576: true; the input reads as it did. -/
def fnExactLiftPairPointUptoRow : OpenClaim := { program := "ytdajgcgliidjbaagreat", sum := "9e4373783d97bc93ab21344fda6675b428884fe367aba7122c0c6a4ae3b8584c", func := "loop.example/g00970/laws.FnExactLiftPairPoint", spec := "fnExactLiftPairPoint", inPlace := ["internal/bytealg.abigen_runtime_cmpstring"], unfollowed := true, recurses := true, named := ["math/bits.overflowError"], apart := false, narrowed := true }
def FnExactLiftPairPointUptoSaid : Prop := fnExactLiftPairPointUptoRow.holds Tryz.pinned (OpenSpec.upto fnExactLiftPairPointSpec)

end Rows
end Go.Proofs.YtdajgcgliidjbaaGreat

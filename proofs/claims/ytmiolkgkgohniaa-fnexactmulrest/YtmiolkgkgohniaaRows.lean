/-
  No cell of these rows narrows 'for every input' (looked for: loops, veiled, ifaces, maps, wideKeys, modest, calm, conditions, laid).
  DERIVED. THE GIVEN ROWS OF THIS SEAT. 12 by the template 'for every input the law returns true; each argument reads behind the call as it read before'; 0 by the template 'total and deterministic' (their statements: YtmiolkgkgohniaaTotals.lean).
  GIVEN WITH THE SEED: the statements are not yours to turn. If you find one false, say at which input.
  Laid BY PROGRAM, IN A SANDBOX (cutbox-rows.mjs): the forced cells as the released guide's own fill.sh prints them over the translation d09b86c0661d8004… (all of the seat's roots in one cut). By AI agents, Wed Nov 11 2026. No macro, syntax, notation, axiom, sorry.
-/
import Derived.Test.YtmiolkgkgohniaaChecked
import GoSem.Claim
import GoSem.ClaimJoined
import GoSem.ClaimMapViews
import Derived.JoinedTies
import Derived.KernelRfl
namespace Go.Proofs.Ytmiolkgkgohniaa
/- THE CELL 'sum', in the pinned program and in every row, IS THE sha256 OF THE DUMP (.gsa) THAT YtmiolkgkgohniaaProg.lean LOADS. Nothing in Lean hashes anything: it is a label: what it is worth is what the hold of that sum in a sandbox is worth. -/
noncomputable def Try.pinned : Pinned := { name := "ytmiolkgkgohniaa", sum := "d09b86c0661d800459d2a67ffbce6eaa409c43eca453c74e6d031f5a054ec183", checked := Try.checked }
namespace Rows
def none {H : Type} : Left H := { results := [], args := [] }

/-- 'laws.FnRests': WHATEVER THE INPUT: true; the input reads as it did. -/
def fnRestsSpec : ChangeSpec := { name := "fnRests", fn := fun _ => fun
  | [d] => { results := [.lit (.bool true)], args := [d] }
  | _ => none }
def fnRestsRow : OpenClaim := { program := "ytmiolkgkgohniaa", sum := "d09b86c0661d800459d2a67ffbce6eaa409c43eca453c74e6d031f5a054ec183", func := "loop.example/g00970/laws.FnRests", spec := "fnRests", inPlace := ["internal/bytealg.abigen_runtime_cmpstring"], unfollowed := true, recurses := true, named := ["math/bits.overflowError"], apart := false }
def FnRestsSaid : Prop := fnRestsRow.holds Try.pinned (OpenSpec.ofChange fnRestsSpec)

/-- ITS FALSE NEIGHBOUR: 'it returns false'. Refute it at one input. -/
def fnRestsWrong : ChangeSpec := { name := "fnRests", fn := fun _ => fun
  | [d] => { results := [.lit (.bool false)], args := [d] }
  | _ => none }
def FnRestsWrongFalsely : Prop := fnRestsRow.holds Try.pinned (OpenSpec.ofChange fnRestsWrong)

/-- 'laws.FnInverses': WHATEVER THE INPUT: true; the input reads as it did. -/
def fnInversesSpec : ChangeSpec := { name := "fnInverses", fn := fun _ => fun
  | [d] => { results := [.lit (.bool true)], args := [d] }
  | _ => none }
def fnInversesRow : OpenClaim := { program := "ytmiolkgkgohniaa", sum := "d09b86c0661d800459d2a67ffbce6eaa409c43eca453c74e6d031f5a054ec183", func := "loop.example/g00970/laws.FnInverses", spec := "fnInverses", inPlace := ["internal/bytealg.abigen_runtime_cmpstring"], unfollowed := true, recurses := true, named := ["math/bits.overflowError"], apart := false }
def FnInversesSaid : Prop := fnInversesRow.holds Try.pinned (OpenSpec.ofChange fnInversesSpec)

/-- ITS FALSE NEIGHBOUR: 'it returns false'. Refute it at one input. -/
def fnInversesWrong : ChangeSpec := { name := "fnInverses", fn := fun _ => fun
  | [d] => { results := [.lit (.bool false)], args := [d] }
  | _ => none }
def FnInversesWrongFalsely : Prop := fnInversesRow.holds Try.pinned (OpenSpec.ofChange fnInversesWrong)

/-- 'laws.FnPowers': WHATEVER THE INPUT: true; the input reads as it did. -/
def fnPowersSpec : ChangeSpec := { name := "fnPowers", fn := fun _ => fun
  | [d] => { results := [.lit (.bool true)], args := [d] }
  | _ => none }
def fnPowersRow : OpenClaim := { program := "ytmiolkgkgohniaa", sum := "d09b86c0661d800459d2a67ffbce6eaa409c43eca453c74e6d031f5a054ec183", func := "loop.example/g00970/laws.FnPowers", spec := "fnPowers", inPlace := ["internal/bytealg.abigen_runtime_cmpstring"], unfollowed := true, recurses := true, named := ["math/bits.overflowError"], apart := false }
def FnPowersSaid : Prop := fnPowersRow.holds Try.pinned (OpenSpec.ofChange fnPowersSpec)

/-- ITS FALSE NEIGHBOUR: 'it returns false'. Refute it at one input. -/
def fnPowersWrong : ChangeSpec := { name := "fnPowers", fn := fun _ => fun
  | [d] => { results := [.lit (.bool false)], args := [d] }
  | _ => none }
def FnPowersWrongFalsely : Prop := fnPowersRow.holds Try.pinned (OpenSpec.ofChange fnPowersWrong)

/-- 'laws.FnExactRestOk': WHATEVER THE INPUT: true; the input reads as it did. -/
def fnExactRestOkSpec : ChangeSpec := { name := "fnExactRestOk", fn := fun _ => fun
  | [d1, d2] => { results := [.lit (.bool true)], args := [d1, d2] }
  | _ => none }
def fnExactRestOkRow : OpenClaim := { program := "ytmiolkgkgohniaa", sum := "d09b86c0661d800459d2a67ffbce6eaa409c43eca453c74e6d031f5a054ec183", func := "loop.example/g00970/laws.FnExactRestOk", spec := "fnExactRestOk", inPlace := ["internal/bytealg.abigen_runtime_cmpstring"], apart := false }
def FnExactRestOkSaid : Prop := fnExactRestOkRow.holds Try.pinned (OpenSpec.ofChange fnExactRestOkSpec)

/-- ITS FALSE NEIGHBOUR: 'it returns false'. Refute it at one input. -/
def fnExactRestOkWrong : ChangeSpec := { name := "fnExactRestOk", fn := fun _ => fun
  | [d1, d2] => { results := [.lit (.bool false)], args := [d1, d2] }
  | _ => none }
def FnExactRestOkWrongFalsely : Prop := fnExactRestOkRow.holds Try.pinned (OpenSpec.ofChange fnExactRestOkWrong)

/-- 'laws.FnExactRestOf': WHATEVER THE INPUT: true; the input reads as it did. -/
def fnExactRestOfSpec : ChangeSpec := { name := "fnExactRestOf", fn := fun _ => fun
  | [d1, d2] => { results := [.lit (.bool true)], args := [d1, d2] }
  | _ => none }
def fnExactRestOfRow : OpenClaim := { program := "ytmiolkgkgohniaa", sum := "d09b86c0661d800459d2a67ffbce6eaa409c43eca453c74e6d031f5a054ec183", func := "loop.example/g00970/laws.FnExactRestOf", spec := "fnExactRestOf", named := ["math/bits.overflowError"], apart := false }
def FnExactRestOfSaid : Prop := fnExactRestOfRow.holds Try.pinned (OpenSpec.ofChange fnExactRestOfSpec)

/-- ITS FALSE NEIGHBOUR: 'it returns false'. Refute it at one input. -/
def fnExactRestOfWrong : ChangeSpec := { name := "fnExactRestOf", fn := fun _ => fun
  | [d1, d2] => { results := [.lit (.bool false)], args := [d1, d2] }
  | _ => none }
def FnExactRestOfWrongFalsely : Prop := fnExactRestOfRow.holds Try.pinned (OpenSpec.ofChange fnExactRestOfWrong)

/-- 'laws.FnExactAddRest': WHATEVER THE INPUT: true; the input reads as it did. -/
def fnExactAddRestSpec : ChangeSpec := { name := "fnExactAddRest", fn := fun _ => fun
  | [d1, d2, d3] => { results := [.lit (.bool true)], args := [d1, d2, d3] }
  | _ => none }
def fnExactAddRestRow : OpenClaim := { program := "ytmiolkgkgohniaa", sum := "d09b86c0661d800459d2a67ffbce6eaa409c43eca453c74e6d031f5a054ec183", func := "loop.example/g00970/laws.FnExactAddRest", spec := "fnExactAddRest", inPlace := ["internal/bytealg.abigen_runtime_cmpstring"], unfollowed := true, recurses := true, named := ["math/bits.overflowError"], apart := false }
def FnExactAddRestSaid : Prop := fnExactAddRestRow.holds Try.pinned (OpenSpec.ofChange fnExactAddRestSpec)

/-- ITS FALSE NEIGHBOUR: 'it returns false'. Refute it at one input. -/
def fnExactAddRestWrong : ChangeSpec := { name := "fnExactAddRest", fn := fun _ => fun
  | [d1, d2, d3] => { results := [.lit (.bool false)], args := [d1, d2, d3] }
  | _ => none }
def FnExactAddRestWrongFalsely : Prop := fnExactAddRestRow.holds Try.pinned (OpenSpec.ofChange fnExactAddRestWrong)

/-- 'laws.FnExactSubRest': WHATEVER THE INPUT: true; the input reads as it did. -/
def fnExactSubRestSpec : ChangeSpec := { name := "fnExactSubRest", fn := fun _ => fun
  | [d1, d2, d3] => { results := [.lit (.bool true)], args := [d1, d2, d3] }
  | _ => none }
def fnExactSubRestRow : OpenClaim := { program := "ytmiolkgkgohniaa", sum := "d09b86c0661d800459d2a67ffbce6eaa409c43eca453c74e6d031f5a054ec183", func := "loop.example/g00970/laws.FnExactSubRest", spec := "fnExactSubRest", inPlace := ["internal/bytealg.abigen_runtime_cmpstring"], unfollowed := true, recurses := true, named := ["math/bits.overflowError"], apart := false }
def FnExactSubRestSaid : Prop := fnExactSubRestRow.holds Try.pinned (OpenSpec.ofChange fnExactSubRestSpec)

/-- ITS FALSE NEIGHBOUR: 'it returns false'. Refute it at one input. -/
def fnExactSubRestWrong : ChangeSpec := { name := "fnExactSubRest", fn := fun _ => fun
  | [d1, d2, d3] => { results := [.lit (.bool false)], args := [d1, d2, d3] }
  | _ => none }
def FnExactSubRestWrongFalsely : Prop := fnExactSubRestRow.holds Try.pinned (OpenSpec.ofChange fnExactSubRestWrong)

/-- 'laws.FnExactMulRest': WHATEVER THE INPUT: true; the input reads as it did. -/
def fnExactMulRestSpec : ChangeSpec := { name := "fnExactMulRest", fn := fun _ => fun
  | [d1, d2, d3] => { results := [.lit (.bool true)], args := [d1, d2, d3] }
  | _ => none }
def fnExactMulRestRow : OpenClaim := { program := "ytmiolkgkgohniaa", sum := "d09b86c0661d800459d2a67ffbce6eaa409c43eca453c74e6d031f5a054ec183", func := "loop.example/g00970/laws.FnExactMulRest", spec := "fnExactMulRest", inPlace := ["internal/bytealg.abigen_runtime_cmpstring"], unfollowed := true, recurses := true, named := ["math/bits.overflowError"], apart := false }
def FnExactMulRestSaid : Prop := fnExactMulRestRow.holds Try.pinned (OpenSpec.ofChange fnExactMulRestSpec)

/-- ITS FALSE NEIGHBOUR: 'it returns false'. Refute it at one input. -/
def fnExactMulRestWrong : ChangeSpec := { name := "fnExactMulRest", fn := fun _ => fun
  | [d1, d2, d3] => { results := [.lit (.bool false)], args := [d1, d2, d3] }
  | _ => none }
def FnExactMulRestWrongFalsely : Prop := fnExactMulRestRow.holds Try.pinned (OpenSpec.ofChange fnExactMulRestWrong)

/-- 'laws.FnExactPowRest': WHATEVER THE INPUT: true; the input reads as it did. -/
def fnExactPowRestSpec : ChangeSpec := { name := "fnExactPowRest", fn := fun _ => fun
  | [d1, d2, d3] => { results := [.lit (.bool true)], args := [d1, d2, d3] }
  | _ => none }
def fnExactPowRestRow : OpenClaim := { program := "ytmiolkgkgohniaa", sum := "d09b86c0661d800459d2a67ffbce6eaa409c43eca453c74e6d031f5a054ec183", func := "loop.example/g00970/laws.FnExactPowRest", spec := "fnExactPowRest", inPlace := ["internal/bytealg.abigen_runtime_cmpstring"], named := ["math/bits.overflowError"], apart := false }
def FnExactPowRestSaid : Prop := fnExactPowRestRow.holds Try.pinned (OpenSpec.ofChange fnExactPowRestSpec)

/-- ITS FALSE NEIGHBOUR: 'it returns false'. Refute it at one input. -/
def fnExactPowRestWrong : ChangeSpec := { name := "fnExactPowRest", fn := fun _ => fun
  | [d1, d2, d3] => { results := [.lit (.bool false)], args := [d1, d2, d3] }
  | _ => none }
def FnExactPowRestWrongFalsely : Prop := fnExactPowRestRow.holds Try.pinned (OpenSpec.ofChange fnExactPowRestWrong)

/-- 'laws.FnExactInverseRest': WHATEVER THE INPUT: true; the input reads as it did. -/
def fnExactInverseRestSpec : ChangeSpec := { name := "fnExactInverseRest", fn := fun _ => fun
  | [d1, d2] => { results := [.lit (.bool true)], args := [d1, d2] }
  | _ => none }
def fnExactInverseRestRow : OpenClaim := { program := "ytmiolkgkgohniaa", sum := "d09b86c0661d800459d2a67ffbce6eaa409c43eca453c74e6d031f5a054ec183", func := "loop.example/g00970/laws.FnExactInverseRest", spec := "fnExactInverseRest", inPlace := ["internal/bytealg.abigen_runtime_cmpstring"], recurses := true, named := ["math/bits.overflowError"], apart := false }
def FnExactInverseRestSaid : Prop := fnExactInverseRestRow.holds Try.pinned (OpenSpec.ofChange fnExactInverseRestSpec)

/-- ITS FALSE NEIGHBOUR: 'it returns false'. Refute it at one input. -/
def fnExactInverseRestWrong : ChangeSpec := { name := "fnExactInverseRest", fn := fun _ => fun
  | [d1, d2] => { results := [.lit (.bool false)], args := [d1, d2] }
  | _ => none }
def FnExactInverseRestWrongFalsely : Prop := fnExactInverseRestRow.holds Try.pinned (OpenSpec.ofChange fnExactInverseRestWrong)

/-- 'laws.FnExactNegRest': WHATEVER THE INPUT: true; the input reads as it did. -/
def fnExactNegRestSpec : ChangeSpec := { name := "fnExactNegRest", fn := fun _ => fun
  | [d1, d2] => { results := [.lit (.bool true)], args := [d1, d2] }
  | _ => none }
def fnExactNegRestRow : OpenClaim := { program := "ytmiolkgkgohniaa", sum := "d09b86c0661d800459d2a67ffbce6eaa409c43eca453c74e6d031f5a054ec183", func := "loop.example/g00970/laws.FnExactNegRest", spec := "fnExactNegRest", inPlace := ["internal/bytealg.abigen_runtime_cmpstring"], unfollowed := true, recurses := true, named := ["math/bits.overflowError"], apart := false }
def FnExactNegRestSaid : Prop := fnExactNegRestRow.holds Try.pinned (OpenSpec.ofChange fnExactNegRestSpec)

/-- ITS FALSE NEIGHBOUR: 'it returns false'. Refute it at one input. -/
def fnExactNegRestWrong : ChangeSpec := { name := "fnExactNegRest", fn := fun _ => fun
  | [d1, d2] => { results := [.lit (.bool false)], args := [d1, d2] }
  | _ => none }
def FnExactNegRestWrongFalsely : Prop := fnExactNegRestRow.holds Try.pinned (OpenSpec.ofChange fnExactNegRestWrong)

/-- 'laws.FnExactHalfRest': WHATEVER THE INPUT: true; the input reads as it did. -/
def fnExactHalfRestSpec : ChangeSpec := { name := "fnExactHalfRest", fn := fun _ => fun
  | [d1, d2] => { results := [.lit (.bool true)], args := [d1, d2] }
  | _ => none }
def fnExactHalfRestRow : OpenClaim := { program := "ytmiolkgkgohniaa", sum := "d09b86c0661d800459d2a67ffbce6eaa409c43eca453c74e6d031f5a054ec183", func := "loop.example/g00970/laws.FnExactHalfRest", spec := "fnExactHalfRest", inPlace := ["internal/bytealg.abigen_runtime_cmpstring"], recurses := true, apart := false }
def FnExactHalfRestSaid : Prop := fnExactHalfRestRow.holds Try.pinned (OpenSpec.ofChange fnExactHalfRestSpec)

/-- ITS FALSE NEIGHBOUR: 'it returns false'. Refute it at one input. -/
def fnExactHalfRestWrong : ChangeSpec := { name := "fnExactHalfRest", fn := fun _ => fun
  | [d1, d2] => { results := [.lit (.bool false)], args := [d1, d2] }
  | _ => none }
def FnExactHalfRestWrongFalsely : Prop := fnExactHalfRestRow.holds Try.pinned (OpenSpec.ofChange fnExactHalfRestWrong)

/- THE SECOND FORM. 'bulk': how many values and letters a reading holds, each counted each time it is reached (what is shared counts as often as it is met; a slice's spare places count too). A statement '..UptoSaid' is the law's where the arguments, and the package variables that the reading takes, are together of bulk at most 1048576: NARROWER than '..Said'. Prove '..Said' where nothing that the law and all that it calls make is longer than what came in: it says more and counts as full. Else prove '..UptoSaid'. A law counts once. -/
mutual
def uptoBulk {H : Type} : DataW H → Nat
  | .lit (.string bytes) => bytes.length + 1
  | .lit _ => 1
  | .nil => 1
  | .ptr d => uptoBulk d + 1
  | .slice elems spare => uptoBulkAll elems + uptoBulkAll spare + 1
  | .agg parts => uptoBulkAll parts + 1
  | .iface _ d => uptoBulk d + 1
  | .map entries => uptoBulkEntries entries + 1
  | .held _ => 1
def uptoBulkAll {H : Type} : List (DataW H) → Nat
  | [] => 0
  | d :: r => uptoBulk d + uptoBulkAll r
def uptoBulkEntries {H : Type} : List (Lit × DataW H) → Nat
  | [] => 0
  | x :: r => uptoBulkEntry x + uptoBulkEntries r
def uptoBulkEntry {H : Type} : Lit × DataW H → Nat
  | (.string bytes, d) => bytes.length + uptoBulk d + 1
  | (_, d) => uptoBulk d + 1
 end
def uptoSmall : (H : Type) → List (DataW H) → Bool := fun _ ds => decide (uptoBulkAll ds ≤ 1048576)
def OpenSpec.upto (s : _root_.Go.ChangeSpec) : _root_.Go.OpenSpec := { _root_.Go.OpenSpec.ofChange s with cond := some uptoSmall }

/-- 'laws.FnRests', WHERE WHAT IT READS IS OF BULK AT MOST 1048576: true; the input reads as it did. -/
def fnRestsUptoRow : OpenClaim := { program := "ytmiolkgkgohniaa", sum := "d09b86c0661d800459d2a67ffbce6eaa409c43eca453c74e6d031f5a054ec183", func := "loop.example/g00970/laws.FnRests", spec := "fnRests", inPlace := ["internal/bytealg.abigen_runtime_cmpstring"], unfollowed := true, recurses := true, named := ["math/bits.overflowError"], apart := false, narrowed := true }
def FnRestsUptoSaid : Prop := fnRestsUptoRow.holds Try.pinned (OpenSpec.upto fnRestsSpec)

/-- 'laws.FnInverses', WHERE WHAT IT READS IS OF BULK AT MOST 1048576: true; the input reads as it did. -/
def fnInversesUptoRow : OpenClaim := { program := "ytmiolkgkgohniaa", sum := "d09b86c0661d800459d2a67ffbce6eaa409c43eca453c74e6d031f5a054ec183", func := "loop.example/g00970/laws.FnInverses", spec := "fnInverses", inPlace := ["internal/bytealg.abigen_runtime_cmpstring"], unfollowed := true, recurses := true, named := ["math/bits.overflowError"], apart := false, narrowed := true }
def FnInversesUptoSaid : Prop := fnInversesUptoRow.holds Try.pinned (OpenSpec.upto fnInversesSpec)

/-- 'laws.FnPowers', WHERE WHAT IT READS IS OF BULK AT MOST 1048576: true; the input reads as it did. -/
def fnPowersUptoRow : OpenClaim := { program := "ytmiolkgkgohniaa", sum := "d09b86c0661d800459d2a67ffbce6eaa409c43eca453c74e6d031f5a054ec183", func := "loop.example/g00970/laws.FnPowers", spec := "fnPowers", inPlace := ["internal/bytealg.abigen_runtime_cmpstring"], unfollowed := true, recurses := true, named := ["math/bits.overflowError"], apart := false, narrowed := true }
def FnPowersUptoSaid : Prop := fnPowersUptoRow.holds Try.pinned (OpenSpec.upto fnPowersSpec)

/-- 'laws.FnExactRestOk', WHERE WHAT IT READS IS OF BULK AT MOST 1048576: true; the input reads as it did. -/
def fnExactRestOkUptoRow : OpenClaim := { program := "ytmiolkgkgohniaa", sum := "d09b86c0661d800459d2a67ffbce6eaa409c43eca453c74e6d031f5a054ec183", func := "loop.example/g00970/laws.FnExactRestOk", spec := "fnExactRestOk", inPlace := ["internal/bytealg.abigen_runtime_cmpstring"], apart := false, narrowed := true }
def FnExactRestOkUptoSaid : Prop := fnExactRestOkUptoRow.holds Try.pinned (OpenSpec.upto fnExactRestOkSpec)

/-- 'laws.FnExactRestOf', WHERE WHAT IT READS IS OF BULK AT MOST 1048576: true; the input reads as it did. -/
def fnExactRestOfUptoRow : OpenClaim := { program := "ytmiolkgkgohniaa", sum := "d09b86c0661d800459d2a67ffbce6eaa409c43eca453c74e6d031f5a054ec183", func := "loop.example/g00970/laws.FnExactRestOf", spec := "fnExactRestOf", named := ["math/bits.overflowError"], apart := false, narrowed := true }
def FnExactRestOfUptoSaid : Prop := fnExactRestOfUptoRow.holds Try.pinned (OpenSpec.upto fnExactRestOfSpec)

/-- 'laws.FnExactAddRest', WHERE WHAT IT READS IS OF BULK AT MOST 1048576: true; the input reads as it did. -/
def fnExactAddRestUptoRow : OpenClaim := { program := "ytmiolkgkgohniaa", sum := "d09b86c0661d800459d2a67ffbce6eaa409c43eca453c74e6d031f5a054ec183", func := "loop.example/g00970/laws.FnExactAddRest", spec := "fnExactAddRest", inPlace := ["internal/bytealg.abigen_runtime_cmpstring"], unfollowed := true, recurses := true, named := ["math/bits.overflowError"], apart := false, narrowed := true }
def FnExactAddRestUptoSaid : Prop := fnExactAddRestUptoRow.holds Try.pinned (OpenSpec.upto fnExactAddRestSpec)

/-- 'laws.FnExactSubRest', WHERE WHAT IT READS IS OF BULK AT MOST 1048576: true; the input reads as it did. -/
def fnExactSubRestUptoRow : OpenClaim := { program := "ytmiolkgkgohniaa", sum := "d09b86c0661d800459d2a67ffbce6eaa409c43eca453c74e6d031f5a054ec183", func := "loop.example/g00970/laws.FnExactSubRest", spec := "fnExactSubRest", inPlace := ["internal/bytealg.abigen_runtime_cmpstring"], unfollowed := true, recurses := true, named := ["math/bits.overflowError"], apart := false, narrowed := true }
def FnExactSubRestUptoSaid : Prop := fnExactSubRestUptoRow.holds Try.pinned (OpenSpec.upto fnExactSubRestSpec)

/-- 'laws.FnExactMulRest', WHERE WHAT IT READS IS OF BULK AT MOST 1048576: true; the input reads as it did. -/
def fnExactMulRestUptoRow : OpenClaim := { program := "ytmiolkgkgohniaa", sum := "d09b86c0661d800459d2a67ffbce6eaa409c43eca453c74e6d031f5a054ec183", func := "loop.example/g00970/laws.FnExactMulRest", spec := "fnExactMulRest", inPlace := ["internal/bytealg.abigen_runtime_cmpstring"], unfollowed := true, recurses := true, named := ["math/bits.overflowError"], apart := false, narrowed := true }
def FnExactMulRestUptoSaid : Prop := fnExactMulRestUptoRow.holds Try.pinned (OpenSpec.upto fnExactMulRestSpec)

/-- 'laws.FnExactPowRest', WHERE WHAT IT READS IS OF BULK AT MOST 1048576: true; the input reads as it did. -/
def fnExactPowRestUptoRow : OpenClaim := { program := "ytmiolkgkgohniaa", sum := "d09b86c0661d800459d2a67ffbce6eaa409c43eca453c74e6d031f5a054ec183", func := "loop.example/g00970/laws.FnExactPowRest", spec := "fnExactPowRest", inPlace := ["internal/bytealg.abigen_runtime_cmpstring"], named := ["math/bits.overflowError"], apart := false, narrowed := true }
def FnExactPowRestUptoSaid : Prop := fnExactPowRestUptoRow.holds Try.pinned (OpenSpec.upto fnExactPowRestSpec)

/-- 'laws.FnExactInverseRest', WHERE WHAT IT READS IS OF BULK AT MOST 1048576: true; the input reads as it did. -/
def fnExactInverseRestUptoRow : OpenClaim := { program := "ytmiolkgkgohniaa", sum := "d09b86c0661d800459d2a67ffbce6eaa409c43eca453c74e6d031f5a054ec183", func := "loop.example/g00970/laws.FnExactInverseRest", spec := "fnExactInverseRest", inPlace := ["internal/bytealg.abigen_runtime_cmpstring"], recurses := true, named := ["math/bits.overflowError"], apart := false, narrowed := true }
def FnExactInverseRestUptoSaid : Prop := fnExactInverseRestUptoRow.holds Try.pinned (OpenSpec.upto fnExactInverseRestSpec)

/-- 'laws.FnExactNegRest', WHERE WHAT IT READS IS OF BULK AT MOST 1048576: true; the input reads as it did. -/
def fnExactNegRestUptoRow : OpenClaim := { program := "ytmiolkgkgohniaa", sum := "d09b86c0661d800459d2a67ffbce6eaa409c43eca453c74e6d031f5a054ec183", func := "loop.example/g00970/laws.FnExactNegRest", spec := "fnExactNegRest", inPlace := ["internal/bytealg.abigen_runtime_cmpstring"], unfollowed := true, recurses := true, named := ["math/bits.overflowError"], apart := false, narrowed := true }
def FnExactNegRestUptoSaid : Prop := fnExactNegRestUptoRow.holds Try.pinned (OpenSpec.upto fnExactNegRestSpec)

/-- 'laws.FnExactHalfRest', WHERE WHAT IT READS IS OF BULK AT MOST 1048576: true; the input reads as it did. -/
def fnExactHalfRestUptoRow : OpenClaim := { program := "ytmiolkgkgohniaa", sum := "d09b86c0661d800459d2a67ffbce6eaa409c43eca453c74e6d031f5a054ec183", func := "loop.example/g00970/laws.FnExactHalfRest", spec := "fnExactHalfRest", inPlace := ["internal/bytealg.abigen_runtime_cmpstring"], recurses := true, apart := false, narrowed := true }
def FnExactHalfRestUptoSaid : Prop := fnExactHalfRestUptoRow.holds Try.pinned (OpenSpec.upto fnExactHalfRestSpec)

end Rows
end Go.Proofs.Ytmiolkgkgohniaa

/-
  No cell of these rows narrows 'for every input' (looked for: loops, veiled, ifaces, maps, wideKeys, modest, calm, conditions, laid).
  DERIVED. THE GIVEN ROWS OF THIS SEAT. 2 by the template 'for every input the law returns true; each argument reads behind the call as it read before'; 0 by the template 'total and deterministic' (their statements: YtejmogdognenmaaGreatTotals.lean).
  GIVEN WITH THE SEED: the statements are not yours to turn. If you find one false, say at which input.
  Laid BY PROGRAM, IN A SANDBOX (cutbox-rows.mjs): the forced cells as the released guide's own fill.sh prints them over the translation 39179e3606f5e56f… (all of the seat's roots in one cut). By AI agents, Wed Nov 11 2026. No macro, syntax, notation, axiom, sorry.
-/
import Derived.Test.YtejmogdognenmaaGreatChecked
import GoSem.Claim
import GoSem.ClaimJoined
import GoSem.ClaimMapViews
import Derived.JoinedTies
import Derived.KernelRfl
namespace Go.Proofs.YtejmogdognenmaaGreat
/- THE CELL 'sum', in the pinned program and in every row, IS THE sha256 OF THE DUMP (.gsa) THAT YtejmogdognenmaaGreatProg.lean LOADS. Nothing in Lean hashes anything: it is a label: what it is worth is what the hold of that sum in a sandbox is worth. -/
noncomputable def Tryz.pinned : Pinned := { name := "ytejmogdognenmaagreat", sum := "39179e3606f5e56f89676a201cb6b0633a51229bd1a5b769cf521eb05846e1cd", checked := Tryz.checked }
namespace Rows
def none {H : Type} : Left H := { results := [], args := [] }

/-- 'laws.FnPairRoots': WHATEVER THE INPUT: true; the input reads as it did. -/
def fnPairRootsSpec : ChangeSpec := { name := "fnPairRoots", fn := fun _ => fun
  | [d] => { results := [.lit (.bool true)], args := [d] }
  | _ => none }
def fnPairRootsRow : OpenClaim := { program := "ytejmogdognenmaagreat", sum := "39179e3606f5e56f89676a201cb6b0633a51229bd1a5b769cf521eb05846e1cd", func := "loop.example/g00970/laws.FnPairRoots", spec := "fnPairRoots", inPlace := ["internal/bytealg.abigen_runtime_cmpstring"], unfollowed := true, recurses := true, named := ["math/bits.overflowError"], apart := false }
def FnPairRootsSaid : Prop := fnPairRootsRow.holds Tryz.pinned (OpenSpec.ofChange fnPairRootsSpec)

/-- ITS FALSE NEIGHBOUR: 'it returns false'. Refute it at one input. -/
def fnPairRootsWrong : ChangeSpec := { name := "fnPairRoots", fn := fun _ => fun
  | [d] => { results := [.lit (.bool false)], args := [d] }
  | _ => none }
def FnPairRootsWrongFalsely : Prop := fnPairRootsRow.holds Tryz.pinned (OpenSpec.ofChange fnPairRootsWrong)

/-- 'laws.FnExactPairRoot': WHATEVER THE INPUT: true; the input reads as it did. -/
def fnExactPairRootSpec : ChangeSpec := { name := "fnExactPairRoot", fn := fun _ => fun
  | [d1, d2] => { results := [.lit (.bool true)], args := [d1, d2] }
  | _ => none }
def fnExactPairRootRow : OpenClaim := { program := "ytejmogdognenmaagreat", sum := "39179e3606f5e56f89676a201cb6b0633a51229bd1a5b769cf521eb05846e1cd", func := "loop.example/g00970/laws.FnExactPairRoot", spec := "fnExactPairRoot", inPlace := ["internal/bytealg.abigen_runtime_cmpstring"], unfollowed := true, recurses := true, named := ["math/bits.overflowError"], apart := false }
def FnExactPairRootSaid : Prop := fnExactPairRootRow.holds Tryz.pinned (OpenSpec.ofChange fnExactPairRootSpec)

/-- ITS FALSE NEIGHBOUR: 'it returns false'. Refute it at one input. -/
def fnExactPairRootWrong : ChangeSpec := { name := "fnExactPairRoot", fn := fun _ => fun
  | [d1, d2] => { results := [.lit (.bool false)], args := [d1, d2] }
  | _ => none }
def FnExactPairRootWrongFalsely : Prop := fnExactPairRootRow.holds Tryz.pinned (OpenSpec.ofChange fnExactPairRootWrong)

/- THE SECOND FORM. 'bulk': how many values and letters a reading holds, each counted each time it is reached (what is shared counts as often as it is met; a slice's spare places count too). A statement '..UptoSaid' is the law's where the arguments, and the package variables that the reading takes, are together of bulk at most 1048576: NARROWER than '..Said'. Prove '..Said' where nothing that the law and all that it calls make is longer than what came in: it says more and counts as full. Else prove '..UptoSaid'. A law counts once. -/
mutual
def uptoBulk {H : Type} : DataW H → Nat
  | .lit (.string bytes) => bytes.length + 1
  | .lit _ => 1
  | .nil => 1
  | .ptr d => uptoBulk d + 1
  | .slice elems spare => uptoBulkAll elems + uptoBulkAll spare + 1
  | .agg parts => uptoBulkAll parts + 1
  | .iface _ d => uptoBulk d + 1
  | .map entries => uptoBulkEntries entries + 1
  | .held _ => 1
def uptoBulkAll {H : Type} : List (DataW H) → Nat
  | [] => 0
  | d :: r => uptoBulk d + uptoBulkAll r
def uptoBulkEntries {H : Type} : List (Lit × DataW H) → Nat
  | [] => 0
  | x :: r => uptoBulkEntry x + uptoBulkEntries r
def uptoBulkEntry {H : Type} : Lit × DataW H → Nat
  | (.string bytes, d) => bytes.length + uptoBulk d + 1
  | (_, d) => uptoBulk d + 1
 end
def uptoSmall : (H : Type) → List (DataW H) → Bool := fun _ ds => decide (uptoBulkAll ds ≤ 1048576)
def OpenSpec.upto (s : _root_.Go.ChangeSpec) : _root_.Go.OpenSpec := { _root_.Go.OpenSpec.ofChange s with cond := some uptoSmall }

/-- 'laws.FnPairRoots', WHERE WHAT IT READS IS OF BULK AT MOST 1048576: true; the input reads as it did. -/
def fnPairRootsUptoRow : OpenClaim := { program := "ytejmogdognenmaagreat", sum := "39179e3606f5e56f89676a201cb6b0633a51229bd1a5b769cf521eb05846e1cd", func := "loop.example/g00970/laws.FnPairRoots", spec := "fnPairRoots", inPlace := ["internal/bytealg.abigen_runtime_cmpstring"], unfollowed := true, recurses := true, named := ["math/bits.overflowError"], apart := false, narrowed := true }
def FnPairRootsUptoSaid : Prop := fnPairRootsUptoRow.holds Tryz.pinned (OpenSpec.upto fnPairRootsSpec)

/-- 'laws.FnExactPairRoot', WHERE WHAT IT READS IS OF BULK AT MOST 1048576: true; the input reads as it did. -/
def fnExactPairRootUptoRow : OpenClaim := { program := "ytejmogdognenmaagreat", sum := "39179e3606f5e56f89676a201cb6b0633a51229bd1a5b769cf521eb05846e1cd", func := "loop.example/g00970/laws.FnExactPairRoot", spec := "fnExactPairRoot", inPlace := ["internal/bytealg.abigen_runtime_cmpstring"], unfollowed := true, recurses := true, named := ["math/bits.overflowError"], apart := false, narrowed := true }
def FnExactPairRootUptoSaid : Prop := fnExactPairRootUptoRow.holds Tryz.pinned (OpenSpec.upto fnExactPairRootSpec)

end Rows
end Go.Proofs.YtejmogdognenmaaGreat

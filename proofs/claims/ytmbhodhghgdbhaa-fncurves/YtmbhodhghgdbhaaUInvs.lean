import Derived.Test.YtmbhodhghgdbhaaUOps
import Derived.Test.YtmbhodhghgdbhaaILow
/-
  The contracts of spec's l07Inverse and InversePair.
-/
namespace Go.Proofs.Ytmbhodhghgdbhaa
open Go.RowKit
theorem row_nil (w : World) : RowX w (.slice none 0 0) 0 := ⟨0, none, 0, [], rfl, World.ownsRow_nil _ _ _ _, ⟨Limbs.nil, .inl rfl, rfl⟩⟩
end Go.Proofs.Ytmbhodhghgdbhaa
/-
  The contract of spec's InversePair.
-/
namespace Go.Proofs.Ytmbhodhghgdbhaa
open Go.RowKit
end Go.Proofs.Ytmbhodhghgdbhaa
/-
  The contract of spec's PowPair.
-/
namespace Go.Proofs.Ytmbhodhghgdbhaa
open Go.RowKit
theorem PairX.setRow {w : World} {v : Value} {x : Pn} {g : Nat} {C C' : Array Value} {t : TypeId} (h : PairX w v x) (hg : w.heap[g]? = some (.cells C t (0, 0))) (ht : t ≠ 3) : PairX (w.setRow g C') v x := by
  obtain ⟨a, b, e, h1, h2⟩ := h
  exact ⟨a, b, e, h1.setRow hg ht, h2.setRow hg ht⟩
end Go.Proofs.Ytmbhodhghgdbhaa

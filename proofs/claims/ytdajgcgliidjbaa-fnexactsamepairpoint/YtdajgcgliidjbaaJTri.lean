import Derived.Test.YtdajgcgliidjbaaJHalf
import Derived.Deep.LoopGhost
import Derived.Test.YtdajgcgliidjbaaSeqC
import Derived.Test.YtdajgcgliidjbaaUHeld
namespace Go.Proofs.Ytdajgcgliidjbaa
open Go.RowKit
section
variable {P : Program} {S : World → Prop} {o : Oper} {a : Act}
end
section
variable {P : Program} {ops : Array Oper} {Q : Exit → Act → World → Prop} {S : World → Prop} {K : Act → World → Prop} {i : Nat} {r : List (Bool × Nat)} {a : Act} {w : World}
theorem sq_alloc (d : Option Tmp) (t : TypeId) (Z : Array Value) (hd : (oAt ops i).dst = d) (hi : Nat.blt i ops.size = true) (hw : Region.wanted (oAt ops i) (yielded ops a.tmps) = true) (ho : (oAt ops i).op = .alloc t) (hz : (zeroValue t).run P w = .ok (.agg Z) w) (hS : S (w.alloc (.cells Z t)))
    (k : seqH P ops Q S K r (a.put d (.pointer (some ⟨w.heap.size, 0, none⟩))) (w.alloc (.cells Z t))) : seqH P ops Q S K ((false, i) :: r) a w := by
  refine sq_op hi hw ?_
  have e : (execOp a.eval (oAt ops i)).run P w = .ok (.value (.pointer (some ⟨w.heap.size, 0, none⟩))) (w.alloc (.cells Z t)) := by
    unfold execOp
    rw [ho]
    simp only
    unfold Instr.alloc
    simp [hz, newVar, newRow, Value.cells]
  unfold Oper.wp
  rw [e, Oper.upon_value, hd]
  exact ⟨hS, k⟩
end
theorem Held.setRow {w : World} {L : List (Nat × Array Value × TypeId)} {o : Nat} {C : Array Value} (h : Held w L) (ne : ∀ q ∈ L, q.1 ≠ o) : Held (w.setRow o C) L := fun q hq => (setRow_other _ _ _ _ (ne q hq)).trans (h q hq)
theorem Held.drew {w : World} {L : List (Nat × Array Value × TypeId)} (h : Held w L) : Held w.drew L := h
end Go.Proofs.Ytdajgcgliidjbaa

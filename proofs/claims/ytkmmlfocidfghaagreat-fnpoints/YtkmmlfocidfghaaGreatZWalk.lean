import Derived.Test.YtkmmlfocidfghaaGreatZPz
import Derived.Test.YtkmmlfocidfghaaGreatZPtX
import Derived.Test.YtkmmlfocidfghaaGreatZDraw
import Derived.Test.YtkmmlfocidfghaaGreatRLaw
namespace Go.Proofs.YtkmmlfocidfghaaGreat
open Go.RowKit
theorem yields_eqbb {ops : Array Oper} {S : World → Prop} {o : Oper} {a : Act} (hw : Region.wanted o (yielded ops a.tmps) = true) (x y : Operand) (ho : o.op = .binOp .eql 4 x y 4) (b : Bool)
    (hx : a.eval x = .bool b) (hy : a.eval y = .bool b) : YieldsIf Tryz.prog ops S o (.bool true) a := by
  refine .inl ⟨hw, fun w _ => ?_⟩
  unfold execOp
  simp only [ho, hx, hy]
  cases b <;> go_simp
theorem one_b (w : World) : Calls Tryz.prog 12 #[] w fun e w' => e = .returned (.string ⟨#[1]⟩) ∧ Below w.heap.size w w' := (one_fn w).mono fun _ _ h => ⟨h.1, h.2 ▸ Below.refl _ _⟩
theorem base_one : baseT 1 = (false, ⟨#[1]⟩, ⟨#[2]⟩) := by decide +kernel
end Go.Proofs.YtkmmlfocidfghaaGreat

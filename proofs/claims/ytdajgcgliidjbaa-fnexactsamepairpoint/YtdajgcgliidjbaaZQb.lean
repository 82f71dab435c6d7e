import Derived.Test.YtdajgcgliidjbaaZPLaw
import Derived.Test.YtdajgcgliidjbaaWkB
import Derived.Test.YtdajgcgliidjbaaYCurve
namespace Go.Proofs.Ytdajgcgliidjbaa
open Go.RowKit
theorem Try.infoPq : (Try.prog.info? 30).map (·.size) = some 5 := by kernel_rfl
theorem zero_pr (w : World) : (zeroValue 28).run Try.prog w = .ok (.agg (aggT noP)) w := by kernel_rfl
theorem zero_pq (w : World) : (zeroValue 30).run Try.prog w = .ok (.agg (tqT noQ)) w := by kernel_rfl
set_option maxRecDepth 8000 in
theorem yields_eqPq {ops : Array Oper} {S : World → Prop} {o : Oper} {a : Act} (hw : Region.wanted o (yielded ops a.tmps) = true) (x y : Operand) (ho : o.op = .binOp .eql 30 x y 30) (s t : Tq) (b : Bool) (hb : decide (s = t) = b)
    (hx : a.eval x = .agg (tqT s)) (hy : a.eval y = .agg (tqT t)) : YieldsIf Try.prog ops S o (.bool b) a := by
  refine .inl ⟨hw, fun w _ => ?_⟩
  unfold tqT at hx hy
  unfold execOp
  simp only [ho, hx, hy]
  go_simp
  subst hb
  by_cases h0 : s.1 = t.1
  · skip
    by_cases h1 : s.2.1.1 = t.2.1.1
    · skip
      by_cases h2 : s.2.1.2 = t.2.1.2
      · skip
        by_cases h3 : s.2.2.1 = t.2.2.1
        · skip
          by_cases h4 : s.2.2.2 = t.2.2.2
          · skip
            have e : s = t := Prod.ext h0 (Prod.ext (Prod.ext h1 h2) (Prod.ext h3 h4))
            obtain rfl := e
            simp
          · have e : s ≠ t := fun e => h4 (by rw [e])
            have k1 : ¬ s.2.2.2.toList = t.2.2.2.toList := fun q => h4 (wk_bl.1 q)
            simp [h0, h1, h2, h3, k1, e]
        · have e : s ≠ t := fun e => h3 (by rw [e])
          have k1 : ¬ s.2.2.1.toList = t.2.2.1.toList := fun q => h3 (wk_bl.1 q)
          simp [h0, h1, h2, k1, e]
      · have e : s ≠ t := fun e => h2 (by rw [e])
        have k1 : ¬ s.2.1.2.toList = t.2.1.2.toList := fun q => h2 (wk_bl.1 q)
        simp [h0, h1, k1, e]
    · have e : s ≠ t := fun e => h1 (by rw [e])
      have k1 : ¬ s.2.1.1.toList = t.2.1.1.toList := fun q => h1 (wk_bl.1 q)
      simp [h0, k1, e]
  · have e : s ≠ t := fun e => h0 (by rw [e])
    simp [h0, e]
end Go.Proofs.Ytdajgcgliidjbaa

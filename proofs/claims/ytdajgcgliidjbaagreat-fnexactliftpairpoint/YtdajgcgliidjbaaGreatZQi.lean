import Derived.Test.YtdajgcgliidjbaaGreatZPoint
import Derived.Test.YtdajgcgliidjbaaGreatVRoot
import Derived.Test.YtdajgcgliidjbaaGreatUInvs
import Derived.Test.YtdajgcgliidjbaaGreatZQb
import Derived.Test.YtdajgcgliidjbaaGreatQSpec
import Derived.Test.YtdajgcgliidjbaaGreatJTri
import Derived.Test.YtdajgcgliidjbaaGreatYSpec
import Derived.Test.YtdajgcgliidjbaaGreatJRests
import Derived.Test.YtdajgcgliidjbaaGreatJPairC
import Derived.Test.YtdajgcgliidjbaaGreatJPairF
import Derived.Test.YtdajgcgliidjbaaGreatWkB
import Derived.Test.YtdajgcgliidjbaaGreatYImpl
namespace Go.Proofs.YtdajgcgliidjbaaGreat
open Go.RowKit
theorem txtP_inj {X Y : Pn} (h : txtP X = txtP Y) : X = Y := by
 have e := congrArg valP h
 rwa [val_txt, val_txt] at e
end Go.Proofs.YtdajgcgliidjbaaGreat
namespace Go.Proofs.YtdajgcgliidjbaaGreat
open Go.RowKit
def okQ (id : Int) (q : Tq) : Bool := if q.1 then cvB id && decide (q = (true, noP, noP)) else pairB q.2.1 (cvPT id) && (pairB q.2.2 (cvPT id) && decide (mulPG q.2.2 q.2.2 (cvPT id) = cube2G id q.2.1))
theorem pair_nomod (x : Pt) : pairB x ⟨#[]⟩ = false := by
 cases h : pairB x ⟨#[]⟩ with
 | false => rfl
 | true =>
  have := (modB_parts (pairB_parts h).1).2
  have e : gV ⟨#[]⟩ = 0 := rfl
  omega
theorem okQ_eq (id : Int) (q : Tq) : okQ id q = pairPtB id q := by
 obtain ⟨z, x, y⟩ := q
 unfold okQ pairPtB
 cases z with
 | true =>
  simp only [if_true]
  congr 1
  cases h1 : noneP x with
  | false => exact decide_eq_false (fun e => by
    have e2 : x = noP := congrArg (fun q : Tq => q.2.1) e
    rw [none_p.2 e2] at h1
    cases h1)
  | true =>
   cases h2 : noneP y with
   | false => exact decide_eq_false (fun e => by
     have e2 : y = noP := congrArg (fun q : Tq => q.2.2) e
     rw [none_p.2 e2] at h2
     cases h2)
   | true => exact decide_eq_true (by rw [none_p.1 h1, none_p.1 h2])
 | false =>
  simp only [Bool.false_eq_true, if_false]
  cases hc : cvB id with
  | false => rw [cvPT_no hc, pair_nomod, Bool.false_and, Bool.false_and]
  | true =>
   rw [Bool.true_and]
   cases hx : pairB x (cvPT id) with
   | false => rfl
   | true =>
    cases hy : pairB y (cvPT id) with
    | false => rfl
    | true =>
     simp only [Bool.true_and]
     unfold onPB
     have hm := (pairB_parts hx).1
     have e1 : mulPG y y (cvPT id) = txtP (mulP (gV (cvPT id)) (valP y) (valP y)) := by
      obtain ⟨iy, ey⟩ := pair_num hy
      conv => lhs; rw [ey]
      exact mul_txt hm iy iy
     rw [e1, ← cube2_of hc hx]
     by_cases h : mulP (gV (cvPT id)) (valP y) (valP y) = rightP (gV (cvPT id)) (valP (cvKT id)) (valP x)
     ·rw [decide_eq_true h, decide_eq_true (congrArg txtP h)]
     ·rw [decide_eq_false h, decide_eq_false (fun e => h (txtP_inj e))]
end Go.Proofs.YtdajgcgliidjbaaGreat

/-
  The contracts of impl's AddRest, SubRest, MulRest, NegRest and PowRest.
-/
import Derived.Test.YtflfeepgkcamnaaGreatJWork
import Derived.Test.YtflfeepgkcamnaaGreatJBits
namespace Go.Proofs.YtflfeepgkcamnaaGreat
open Go.RowKit

theorem works_sum : Works (workF 0) (fun x y n => (x + y) % n) := fun lx ly lp cx cy cp w hx hy hp vx vy vp hxp hyp hG _ => sumOfRests_any lx ly lp cx cy cp w hx hy hp vx vy vp hxp hyp hG
theorem works_difference : Works (workF 1) (fun x y n => (x + n - y) % n) := fun lx ly lp cx cy cp w hx hy hp vx vy vp hxp hyp hG _ => differenceOfRests_any lx ly lp cx cy cp w hx hy hp vx vy vp hxp hyp hG
theorem works_product : Works (workF 2) (fun x y n => x * y % n) := fun lx ly lp cx cy cp w hx hy hp vx vy vp hxp hyp hG h1 => productOfRests_any lx ly lp cx cy cp w hx hy hp vx vy vp (Nat.lt_trans hxp hG) (Nat.lt_trans hyp hG) (by omega) hG
/-! PowRest -/
theorem pow_last {x n N L : Nat} (h : N < 2 ^ L) (h1 : 1 < n) : 1 = x ^ (N / 2 ^ L) % n := by
  rw [Nat.div_eq_of_lt h, Nat.pow_zero, Nat.mod_eq_of_lt h1]
theorem Row3.put {w : World} {g : Nat} {lx ly lp l : List Nat} {cx cy cp c : Nat} (h : Row3 w g lx cx ly cy lp cp) (hl : l.length = 81) : Row3 (w.setRow (g + 2) (rowC l c)) g lx cx ly cy l c :=
  ⟨h.x.storedApart (by omega), h.y.storedApart (by omega), h.p.stored hl⟩
/-- What the loop of powers holds in memory. -/
structure PowSt (w wr : World) (g : Nat) (lx : List Nat) (cx : Nat) (lp : List Nat) (cp : Nat) (V : Nat) : Prop where
  ex : ∃ l c, Row3 wr g lx cx lp cp l c ∧ RV l c ∧ W.lV l = V
  b : Below w.heap.size w wr
  ge : w.heap.size ≤ g
end Go.Proofs.YtflfeepgkcamnaaGreat

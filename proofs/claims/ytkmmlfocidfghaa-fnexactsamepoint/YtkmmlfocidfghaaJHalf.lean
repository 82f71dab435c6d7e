import Derived.Test.YtkmmlfocidfghaaJWork
import Derived.Test.YtkmmlfocidfghaaILow
/-
  The contracts of impl's AddRest, SubRest, MulRest, NegRest and PowRest.
-/
namespace Go.Proofs.Ytkmmlfocidfghaa
open Go.RowKit
theorem works_sum : Works (workF 0) (fun x y n => (x + y) % n) := fun lx ly lp cx cy cp w hx hy hp vx vy vp hxp hyp hG _ => sumOfRests_any lx ly lp cx cy cp w hx hy hp vx vy vp hxp hyp hG
theorem works_difference : Works (workF 1) (fun x y n => (x + n - y) % n) := fun lx ly lp cx cy cp w hx hy hp vx vy vp hxp hyp hG _ => differenceOfRests_any lx ly lp cx cy cp w hx hy hp vx vy vp hxp hyp hG
theorem works_product : Works (workF 2) (fun x y n => x * y % n) := fun lx ly lp cx cy cp w hx hy hp vx vy vp hxp hyp hG h1 => productOfRests_any lx ly lp cx cy cp w hx hy hp vx vy vp (Nat.lt_trans hxp hG) (Nat.lt_trans hyp hG) (by omega) hG
theorem addRest_i (a b p : ByteArray) (w : World) : Calls Try.prog 46 #[.string a, .string b, .string p] w fun e w' => e = .returned (.string (addR a b p)) ∧ Below w.heap.size w w' := by
  have H := Lib.hid (workedOut_any 0 (by decide) _ works_sum (fun x y n h _ => Nat.mod_lt _ (by omega)) a b p)
  have E : addR a b p = if twoB a b p then gS ((gV a + gV b) % gV p) else ⟨#[]⟩ := rfl
  rw [E]
  generalize (if twoB a b p then gS ((gV a + gV b) % gV p) else ⟨#[]⟩) = v at *
  clear E
  go_enter Try.func46, Try.ntmps46
  go_wp2_with fail
  refine (H.out _).mono ?_
  rintro e w1 ⟨rfl, b1⟩
  go_wp2
  go_ret
  exact ⟨rfl, b1⟩
theorem subRest_i (a b p : ByteArray) (w : World) : Calls Try.prog 49 #[.string a, .string b, .string p] w fun e w' => e = .returned (.string (subR a b p)) ∧ Below w.heap.size w w' := by
  have H := Lib.hid (workedOut_any 1 (by decide) _ works_difference (fun x y n h _ => Nat.mod_lt _ (by omega)) a b p)
  have E : subR a b p = if twoB a b p then gS ((gV a + gV p - gV b) % gV p) else ⟨#[]⟩ := rfl
  rw [E]
  generalize (if twoB a b p then gS ((gV a + gV p - gV b) % gV p) else ⟨#[]⟩) = v at *
  clear E
  go_enter Try.func49, Try.ntmps49
  go_wp2_with fail
  refine (H.out _).mono ?_
  rintro e w1 ⟨rfl, b1⟩
  go_wp2
  go_ret
  exact ⟨rfl, b1⟩
theorem mulRest_i (a b p : ByteArray) (w : World) : Calls Try.prog 28 #[.string a, .string b, .string p] w fun e w' => e = .returned (.string (mulR a b p)) ∧ Below w.heap.size w w' := by
  have H := Lib.hid (workedOut_any 2 (by decide) _ works_product (fun x y n h _ => Nat.mod_lt _ (by omega)) a b p)
  have E : mulR a b p = if twoB a b p then gS (gV a * gV b % gV p) else ⟨#[]⟩ := rfl
  rw [E]
  generalize (if twoB a b p then gS (gV a * gV b % gV p) else ⟨#[]⟩) = v at *
  clear E
  go_enter Try.func28, Try.ntmps28
  go_wp2_with fail
  refine (H.out _).mono ?_
  rintro e w1 ⟨rfl, b1⟩
  go_wp2
  go_ret
  exact ⟨rfl, b1⟩
theorem negRest_i (a p : ByteArray) (w : World) : Calls Try.prog 33 #[.string a, .string p] w fun e w' => e = .returned (.string (negR a p)) ∧ Below w.heap.size w w' := by
  have H := Lib.hid (subRest_i ⟨#[]⟩ a p)
  unfold negR
  generalize subR ⟨#[]⟩ a p = v at *
  go_enter Try.func33, Try.ntmps33
  go_wp2_with fail
  refine (H.out _).mono ?_
  rintro e w1 ⟨rfl, b1⟩
  go_wp2
  go_ret
  exact ⟨rfl, b1⟩
/-! PowRest -/
theorem pow_last {x n N L : Nat} (h : N < 2 ^ L) (h1 : 1 < n) : 1 = x ^ (N / 2 ^ L) % n := by
  rw [Nat.div_eq_of_lt h, Nat.pow_zero, Nat.mod_eq_of_lt h1]
theorem Row3.put {w : World} {g : Nat} {lx ly lp l : List Nat} {cx cy cp c : Nat} (h : Row3 w g lx cx ly cy lp cp) (hl : l.length = 81) : Row3 (w.setRow (g + 2) (rowC l c)) g lx cx ly cy l c :=
  ⟨h.x.storedApart (by omega), h.y.storedApart (by omega), h.p.stored hl⟩
/-- What the loop of powers holds in memory. -/
structure PowSt (w wr : World) (g : Nat) (lx : List Nat) (cx : Nat) (lp : List Nat) (cp : Nat) (V : Nat) : Prop where
  ex : ∃ l c, Row3 wr g lx cx lp cp l c ∧ RV l c ∧ W.lV l = V
  b : Below w.heap.size w wr
  ge : w.heap.size ≤ g
end Go.Proofs.Ytkmmlfocidfghaa
/-
  The contract of impl's HalfRest.
-/
namespace Go.Proofs.Ytkmmlfocidfghaa
open Go.RowKit
theorem Row1.put {w : World} {g c c' : Nat} {l l' : List Nat} (h : RowI w g l c) (hl : l'.length = 81) : RowI (w.setRow g (rowC l' c')) g l' c' := h.stored hl
end Go.Proofs.Ytkmmlfocidfghaa

import Derived.Test.YtkmmlfocidfghaaGreatJWork
import Derived.Test.YtkmmlfocidfghaaGreatILow
/-
  The contracts of impl's AddRest, SubRest, MulRest, NegRest and PowRest.
-/
namespace Go.Proofs.YtkmmlfocidfghaaGreat
open Go.RowKit
theorem works_sum : Works (workF 0) (fun x y n => (x + y) % n) := fun lx ly lp cx cy cp w hx hy hp vx vy vp hxp hyp hG _ => sumOfRests_any lx ly lp cx cy cp w hx hy hp vx vy vp hxp hyp hG
theorem works_difference : Works (workF 1) (fun x y n => (x + n - y) % n) := fun lx ly lp cx cy cp w hx hy hp vx vy vp hxp hyp hG _ => differenceOfRests_any lx ly lp cx cy cp w hx hy hp vx vy vp hxp hyp hG
theorem works_product : Works (workF 2) (fun x y n => x * y % n) := fun lx ly lp cx cy cp w hx hy hp vx vy vp hxp hyp hG h1 => productOfRests_any lx ly lp cx cy cp w hx hy hp vx vy vp (Nat.lt_trans hxp hG) (Nat.lt_trans hyp hG) (by omega) hG
theorem addRest_i (a b p : ByteArray) (w : World) : Calls Tryz.prog 65 #[.string a, .string b, .string p] w fun e w' => e = .returned (.string (addR a b p)) ∧ Below w.heap.size w w' := by
  have H := Lib.hid (workedOut_any 0 (by decide) _ works_sum (fun x y n h _ => Nat.mod_lt _ (by omega)) a b p)
  have E : addR a b p = if twoB a b p then gS ((gV a + gV b) % gV p) else ⟨#[]⟩ := rfl
  rw [E]
  generalize (if twoB a b p then gS ((gV a + gV b) % gV p) else ⟨#[]⟩) = v at *
  clear E
  go_enter Tryz.func65, Tryz.ntmps65
  go_wp2_with fail
  refine (H.out _).mono ?_
  rintro e w1 ⟨rfl, b1⟩
  go_wp2
  go_ret
  exact ⟨rfl, b1⟩
theorem subRest_i (a b p : ByteArray) (w : World) : Calls Tryz.prog 66 #[.string a, .string b, .string p] w fun e w' => e = .returned (.string (subR a b p)) ∧ Below w.heap.size w w' := by
  have H := Lib.hid (workedOut_any 1 (by decide) _ works_difference (fun x y n h _ => Nat.mod_lt _ (by omega)) a b p)
  have E : subR a b p = if twoB a b p then gS ((gV a + gV p - gV b) % gV p) else ⟨#[]⟩ := rfl
  rw [E]
  generalize (if twoB a b p then gS ((gV a + gV p - gV b) % gV p) else ⟨#[]⟩) = v at *
  clear E
  go_enter Tryz.func66, Tryz.ntmps66
  go_wp2_with fail
  refine (H.out _).mono ?_
  rintro e w1 ⟨rfl, b1⟩
  go_wp2
  go_ret
  exact ⟨rfl, b1⟩
theorem mulRest_i (a b p : ByteArray) (w : World) : Calls Tryz.prog 36 #[.string a, .string b, .string p] w fun e w' => e = .returned (.string (mulR a b p)) ∧ Below w.heap.size w w' := by
  have H := Lib.hid (workedOut_any 2 (by decide) _ works_product (fun x y n h _ => Nat.mod_lt _ (by omega)) a b p)
  have E : mulR a b p = if twoB a b p then gS (gV a * gV b % gV p) else ⟨#[]⟩ := rfl
  rw [E]
  generalize (if twoB a b p then gS (gV a * gV b % gV p) else ⟨#[]⟩) = v at *
  clear E
  go_enter Tryz.func36, Tryz.ntmps36
  go_wp2_with fail
  refine (H.out _).mono ?_
  rintro e w1 ⟨rfl, b1⟩
  go_wp2
  go_ret
  exact ⟨rfl, b1⟩
theorem negRest_i (a p : ByteArray) (w : World) : Calls Tryz.prog 38 #[.string a, .string p] w fun e w' => e = .returned (.string (negR a p)) ∧ Below w.heap.size w w' := by
  have H := Lib.hid (subRest_i ⟨#[]⟩ a p)
  unfold negR
  generalize subR ⟨#[]⟩ a p = v at *
  go_enter Tryz.func38, Tryz.ntmps38
  go_wp2_with fail
  refine (H.out _).mono ?_
  rintro e w1 ⟨rfl, b1⟩
  go_wp2
  go_ret
  exact ⟨rfl, b1⟩
theorem Row3.put {w : World} {g : Nat} {lx ly lp l : List Nat} {cx cy cp c : Nat} (h : Row3 w g lx cx ly cy lp cp) (hl : l.length = 81) : Row3 (w.setRow (g + 2) (rowC l c)) g lx cx ly cy l c :=
  ⟨h.x.storedApart (by omega), h.y.storedApart (by omega), h.p.stored hl⟩
end Go.Proofs.YtkmmlfocidfghaaGreat
/-
  The contract of impl's HalfRest.
-/
namespace Go.Proofs.YtkmmlfocidfghaaGreat
open Go.RowKit
theorem Row1.put {w : World} {g c c' : Nat} {l l' : List Nat} (h : RowI w g l c) (hl : l'.length = 81) : RowI (w.setRow g (rowC l' c')) g l' c' := h.stored hl
end Go.Proofs.YtkmmlfocidfghaaGreat

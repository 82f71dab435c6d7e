import Derived.Test.YtkmmlfocidfghaaEFld
namespace Go.Proofs.Ytkmmlfocidfghaa
namespace Fd
section
variable {α : Type} (F : Fd α)
def On (b : α) (q : α × α) : Prop := F.mul q.2 q.2 = F.add (F.mul (F.mul q.1 q.1) q.1) b
def Sl (A B : α × α) (m : α) : Prop := F.mul m (F.sub A.1 B.1) = F.sub A.2 B.2 ∧ F.mul m (F.add A.2 B.2) = F.add (F.add (F.mul A.1 A.1) (F.mul A.1 B.1)) (F.mul B.1 B.1)
def thirdX (A B : α × α) (m : α) : α := F.sub (F.sub (F.mul m m) A.1) B.1
def third (A B : α × α) (m : α) : α × α := (F.thirdX A B m, F.sub (F.mul m (F.sub A.1 (F.thirdX A B m))) A.2)
def opp (A B : α × α) : Prop := A.1 = B.1 ∧ A.2 ≠ B.2
def agst (A : α × α) : α × α := (A.1, F.neg A.2)
theorem sl_comm {A B : α × α} {m : α} (h : F.Sl A B m) : F.Sl B A m :=
  ⟨F.lin (fun i => [A.1, A.2, B.1, B.2, m, m, m].getD i F.zero) [((.n (.k 1)), (.m (.v 4) (.s (.v 0) (.v 2))), (.s (.v 1) (.v 3)))] (.m (.v 4) (.s (.v 2) (.v 0))) (.s (.v 3) (.v 1)) (And.intro h.1 True.intro) (by kernel_rfl),
   F.lin (fun i => [A.1, A.2, B.1, B.2, m, m, m].getD i F.zero) [((.k 1), (.m (.v 4) (.a (.v 1) (.v 3))), (.a (.a (.m (.v 0) (.v 0)) (.m (.v 0) (.v 2))) (.m (.v 2) (.v 2))))] (.m (.v 4) (.a (.v 3) (.v 1))) (.a (.a (.m (.v 2) (.v 2)) (.m (.v 2) (.v 0))) (.m (.v 0) (.v 0))) (And.intro h.2 True.intro) (by kernel_rfl)⟩
theorem third_comm {A B : α × α} {m : α} (h : F.Sl A B m) : F.third A B m = F.third B A m :=
  Prod.ext (F.ring (fun i => [A.1, A.2, B.1, B.2, m, m, m].getD i F.zero) (.s (.s (.m (.v 4) (.v 4)) (.v 0)) (.v 2)) (.s (.s (.m (.v 4) (.v 4)) (.v 2)) (.v 0)) (by kernel_rfl))
    (F.lin (fun i => [A.1, A.2, B.1, B.2, m, m, m].getD i F.zero) [((.k 1), (.m (.v 4) (.s (.v 0) (.v 2))), (.s (.v 1) (.v 3)))] (.s (.m (.v 4) (.s (.v 0) (.s (.s (.m (.v 4) (.v 4)) (.v 0)) (.v 2)))) (.v 1)) (.s (.m (.v 4) (.s (.v 2) (.s (.s (.m (.v 4) (.v 4)) (.v 2)) (.v 0)))) (.v 3)) (And.intro h.1 True.intro) (by kernel_rfl))
theorem third_on {b : α} {A B : α × α} {m : α} (hA : F.On b A) (h : F.Sl A B m) : F.On b (F.third A B m) :=
  F.lin (fun i => [A.1, A.2, B.1, B.2, m, b, m].getD i F.zero) [((.k 1), (.m (.v 1) (.v 1)), (.a (.m (.m (.v 0) (.v 0)) (.v 0)) (.v 5))), ((.m (.s (.v 0) (.s (.s (.m (.v 4) (.v 4)) (.v 0)) (.v 2))) (.v 4)), (.m (.v 4) (.s (.v 0) (.v 2))), (.s (.v 1) (.v 3))), ((.n (.s (.v 0) (.s (.s (.m (.v 4) (.v 4)) (.v 0)) (.v 2)))), (.m (.v 4) (.a (.v 1) (.v 3))), (.a (.a (.m (.v 0) (.v 0)) (.m (.v 0) (.v 2))) (.m (.v 2) (.v 2))))] (.m (.s (.m (.v 4) (.s (.v 0) (.s (.s (.m (.v 4) (.v 4)) (.v 0)) (.v 2)))) (.v 1)) (.s (.m (.v 4) (.s (.v 0) (.s (.s (.m (.v 4) (.v 4)) (.v 0)) (.v 2)))) (.v 1))) (.a (.m (.m (.s (.s (.m (.v 4) (.v 4)) (.v 0)) (.v 2)) (.s (.s (.m (.v 4) (.v 4)) (.v 0)) (.v 2))) (.s (.s (.m (.v 4) (.v 4)) (.v 0)) (.v 2))) (.v 5)) (And.intro hA (And.intro h.1 (And.intro h.2 True.intro))) (by kernel_rfl)
theorem agst_on {b : α} {A : α × α} (hA : F.On b A) : F.On b (F.agst A) :=
  F.lin (fun i => [A.1, A.2, A.1, A.2, b, b, b].getD i F.zero) [((.k 1), (.m (.v 1) (.v 1)), (.a (.m (.m (.v 0) (.v 0)) (.v 0)) (.v 5)))] (.m (.n (.v 1)) (.n (.v 1))) (.a (.m (.m (.v 0) (.v 0)) (.v 0)) (.v 5)) (And.intro hA True.intro) (by kernel_rfl)
theorem agst_agst (A : α × α) : F.agst (F.agst A) = A := Prod.ext rfl (F.neg_neg A.2)
theorem opp_agst {b : α} {A B : α × α} (hA : F.On b A) (hB : F.On b B) (h : opp A B) : B = F.agst A := by
  obtain ⟨h1, h2⟩ := h
  have e : F.mul (F.sub A.2 B.2) (F.add A.2 B.2) = F.zero := F.lin (fun i => [A.1, A.2, B.1, B.2, b, b, b].getD i F.zero) [((.k 1), (.m (.v 1) (.v 1)), (.a (.m (.m (.v 0) (.v 0)) (.v 0)) (.v 5))), ((.n (.k 1)), (.m (.v 3) (.v 3)), (.a (.m (.m (.v 2) (.v 2)) (.v 2)) (.v 5))), ((.a (.a (.m (.v 0) (.v 0)) (.m (.v 0) (.v 2))) (.m (.v 2) (.v 2))), (.v 0), (.v 2))] (.m (.s (.v 1) (.v 3)) (.a (.v 1) (.v 3))) (.k 0) (And.intro hA (And.intro hB (And.intro h1 True.intro))) (by kernel_rfl)
  have e2 := F.mul_none (F.sub_ne h2) e
  exact Prod.ext h1.symm (F.neg_of e2)
theorem ne_neg {y : α} (h : y ≠ F.zero) : y ≠ F.neg y := fun e => F.twice_ne h (by
  have e2 := congrArg (F.add y) e
  rw [F.add_neg] at e2
  exact e2)
theorem agst_opp {A : α × α} (h : A.2 ≠ F.zero) : opp A (F.agst A) := ⟨rfl, F.ne_neg h⟩
theorem not_opp {b : α} {A B : α × α} (_hA : F.On b A) (_hB : F.On b B) (hy : A.2 ≠ F.zero) (h : ¬ opp A B) : A.1 ≠ B.1 ∨ F.add A.2 B.2 ≠ F.zero := by
  by_cases h1 : A.1 = B.1
  · right
    have h2 : A.2 = B.2 := Classical.byContradiction fun k => h ⟨h1, k⟩
    rw [← h2]
    exact F.twice_ne hy
  · exact .inl h1
/-- One slope alone. -/
theorem sl_one {A B : α × α} {m n : α} (h : F.Sl A B m) (k : F.Sl A B n) (ne : A.1 ≠ B.1 ∨ F.add A.2 B.2 ≠ F.zero) : m = n := by
  rcases ne with ne | ne
  · have e : F.mul (F.sub A.1 B.1) m = F.mul (F.sub A.1 B.1) n := by rw [F.mul_comm, h.1, ← k.1, F.mul_comm]
    exact F.mul_cancel (F.sub_ne ne) e
  · have e : F.mul (F.add A.2 B.2) m = F.mul (F.add A.2 B.2) n := by rw [F.mul_comm, h.2, ← k.2, F.mul_comm]
    exact F.mul_cancel ne e
theorem sl_chord {b : α} {A B : α × α} {m : α} (hA : F.On b A) (hB : F.On b B) (ne : A.1 ≠ B.1) (h : F.mul m (F.sub B.1 A.1) = F.sub B.2 A.2) : F.Sl A B m := by
  refine ⟨F.lin (fun i => [A.1, A.2, B.1, B.2, m, b].getD i F.zero) [((.n (.k 1)), (.m (.v 4) (.s (.v 2) (.v 0))), (.s (.v 3) (.v 1)))] (.m (.v 4) (.s (.v 0) (.v 2))) (.s (.v 1) (.v 3)) (And.intro h True.intro) (by kernel_rfl), F.mul_cancel (F.sub_ne (Ne.symm ne)) ?_⟩
  exact F.lin (fun i => [A.1, A.2, B.1, B.2, m, b].getD i F.zero) [((.a (.v 1) (.v 3)), (.m (.v 4) (.s (.v 2) (.v 0))), (.s (.v 3) (.v 1))), ((.k 1), (.m (.v 3) (.v 3)), (.a (.m (.m (.v 2) (.v 2)) (.v 2)) (.v 5))), ((.n (.k 1)), (.m (.v 1) (.v 1)), (.a (.m (.m (.v 0) (.v 0)) (.v 0)) (.v 5)))] (.m (.s (.v 2) (.v 0)) (.m (.v 4) (.a (.v 1) (.v 3)))) (.m (.s (.v 2) (.v 0)) (.a (.a (.m (.v 0) (.v 0)) (.m (.v 0) (.v 2))) (.m (.v 2) (.v 2)))) (And.intro h (And.intro hB (And.intro hA True.intro))) (by kernel_rfl)
theorem sl_tangent {A : α × α} {m : α} (h : F.mul m (F.add A.2 A.2) = F.add (F.add (F.mul A.1 A.1) (F.mul A.1 A.1)) (F.mul A.1 A.1)) : F.Sl A A m := ⟨by rw [F.sub_self, F.sub_self, F.mul_zero], h⟩
theorem sl_agst {A B : α × α} {m : α} (h : F.Sl A B m) : F.Sl (F.agst A) (F.agst B) (F.neg m) :=
  ⟨F.lin (fun i => [A.1, A.2, B.1, B.2, m].getD i F.zero) [((.n (.k 1)), (.m (.v 4) (.s (.v 0) (.v 2))), (.s (.v 1) (.v 3)))] (.m (.n (.v 4)) (.s (.v 0) (.v 2))) (.s (.n (.v 1)) (.n (.v 3))) (And.intro h.1 True.intro) (by kernel_rfl),
   F.lin (fun i => [A.1, A.2, B.1, B.2, m].getD i F.zero) [((.k 1), (.m (.v 4) (.a (.v 1) (.v 3))), (.a (.a (.m (.v 0) (.v 0)) (.m (.v 0) (.v 2))) (.m (.v 2) (.v 2))))] (.m (.n (.v 4)) (.a (.n (.v 1)) (.n (.v 3)))) (.a (.a (.m (.v 0) (.v 0)) (.m (.v 0) (.v 2))) (.m (.v 2) (.v 2))) (And.intro h.2 True.intro) (by kernel_rfl)⟩
theorem third_agst (A B : α × α) (m : α) : F.third (F.agst A) (F.agst B) (F.neg m) = F.agst (F.third A B m) :=
  Prod.ext (F.ring (fun i => [A.1, A.2, B.1, B.2, m].getD i F.zero) (.s (.s (.m (.n (.v 4)) (.n (.v 4))) (.v 0)) (.v 2)) (.s (.s (.m (.v 4) (.v 4)) (.v 0)) (.v 2)) (by kernel_rfl))
    (F.ring (fun i => [A.1, A.2, B.1, B.2, m].getD i F.zero) (.s (.m (.n (.v 4)) (.s (.v 0) (.s (.s (.m (.n (.v 4)) (.n (.v 4))) (.v 0)) (.v 2)))) (.n (.v 1))) (.n (.s (.m (.v 4) (.s (.v 0) (.s (.s (.m (.v 4) (.v 4)) (.v 0)) (.v 2)))) (.v 1))) (by kernel_rfl))
theorem opp_agst_iff {A B : α × α} : opp (F.agst A) (F.agst B) ↔ opp A B :=
  ⟨fun h => ⟨h.1, fun e => h.2 (congrArg F.neg e)⟩, fun h => ⟨h.1, fun e => h.2 (by rw [← F.neg_neg A.2, ← F.neg_neg B.2]; exact congrArg F.neg e)⟩⟩
theorem sl_back {B C : α × α} {m : α} (h : F.Sl B C m) : F.Sl (F.agst B) (F.third B C m) (F.neg m) :=
  ⟨F.ring (fun i => [B.1, B.2, C.1, C.2, m].getD i F.zero) (.m (.n (.v 4)) (.s (.v 0) (.s (.s (.m (.v 4) (.v 4)) (.v 0)) (.v 2)))) (.s (.n (.v 1)) (.s (.m (.v 4) (.s (.v 0) (.s (.s (.m (.v 4) (.v 4)) (.v 0)) (.v 2)))) (.v 1))) (by kernel_rfl),
   F.lin (fun i => [B.1, B.2, C.1, C.2, m].getD i F.zero) [((.k 1), (.m (.v 4) (.a (.v 1) (.v 3))), (.a (.a (.m (.v 0) (.v 0)) (.m (.v 0) (.v 2))) (.m (.v 2) (.v 2)))), ((.n (.v 4)), (.m (.v 4) (.s (.v 0) (.v 2))), (.s (.v 1) (.v 3)))] (.m (.n (.v 4)) (.a (.n (.v 1)) (.s (.m (.v 4) (.s (.v 0) (.s (.s (.m (.v 4) (.v 4)) (.v 0)) (.v 2)))) (.v 1)))) (.a (.a (.m (.v 0) (.v 0)) (.m (.v 0) (.s (.s (.m (.v 4) (.v 4)) (.v 0)) (.v 2)))) (.m (.s (.s (.m (.v 4) (.v 4)) (.v 0)) (.v 2)) (.s (.s (.m (.v 4) (.v 4)) (.v 0)) (.v 2)))) (And.intro h.2 (And.intro h.1 True.intro)) (by kernel_rfl)⟩
theorem third_back {B C : α × α} {m : α} (h : F.Sl B C m) : F.third (F.agst B) (F.third B C m) (F.neg m) = C :=
  Prod.ext (F.ring (fun i => [B.1, B.2, C.1, C.2, m].getD i F.zero) (.s (.s (.m (.n (.v 4)) (.n (.v 4))) (.v 0)) (.s (.s (.m (.v 4) (.v 4)) (.v 0)) (.v 2))) (.v 2) (by kernel_rfl))
    (F.lin (fun i => [B.1, B.2, C.1, C.2, m].getD i F.zero) [((.n (.k 1)), (.m (.v 4) (.s (.v 0) (.v 2))), (.s (.v 1) (.v 3)))] (.s (.m (.n (.v 4)) (.s (.v 0) (.s (.s (.m (.n (.v 4)) (.n (.v 4))) (.v 0)) (.s (.s (.m (.v 4) (.v 4)) (.v 0)) (.v 2))))) (.n (.v 1))) (.v 3) (And.intro h.1 True.intro) (by kernel_rfl))
theorem back_opp {B C : α × α} {m : α} : ¬ opp (F.agst B) (F.third B C m) := fun h => h.2 (
  F.lin (fun i => [B.1, B.2, C.1, C.2, m].getD i F.zero) [((.n (.v 4)), (.v 0), (.s (.s (.m (.v 4) (.v 4)) (.v 0)) (.v 2)))] (.n (.v 1)) (.s (.m (.v 4) (.s (.v 0) (.s (.s (.m (.v 4) (.v 4)) (.v 0)) (.v 2)))) (.v 1)) (And.intro h.1 True.intro) (by kernel_rfl))
/-- How slopes of three points go on. -/
theorem slopes {A B C : α × α} {m1 m2 m3 : α} (h1 : F.Sl A B m1) (h3 : F.Sl B C m3) (h2 : F.Sl (F.third A B m1) C m2) (ne : (F.third A B m1).1 ≠ C.1 ∨ F.add (F.third A B m1).2 C.2 ≠ F.zero) : F.mul (F.add m1 m2) (F.sub m1 m3) = F.sub A.1 C.1 := by
  rcases ne with ne | ne
  · refine F.mul_cancel (F.sub_ne ne) ?_
    exact F.lin (fun i => [A.1, A.2, B.1, B.2, C.1, C.2, m1, m2, m3].getD i F.zero) [((.s (.v 6) (.v 8)), (.m (.v 7) (.s (.s (.s (.m (.v 6) (.v 6)) (.v 0)) (.v 2)) (.v 4))), (.s (.s (.m (.v 6) (.s (.v 0) (.s (.s (.m (.v 6) (.v 6)) (.v 0)) (.v 2)))) (.v 1)) (.v 5))), ((.n (.v 8)), (.m (.v 6) (.s (.v 0) (.v 2))), (.s (.v 1) (.v 3))), ((.n (.v 6)), (.m (.v 8) (.s (.v 2) (.v 4))), (.s (.v 3) (.v 5))), ((.n (.k 1)), (.m (.v 6) (.a (.v 1) (.v 3))), (.a (.a (.m (.v 0) (.v 0)) (.m (.v 0) (.v 2))) (.m (.v 2) (.v 2)))), ((.k 1), (.m (.v 8) (.a (.v 3) (.v 5))), (.a (.a (.m (.v 2) (.v 2)) (.m (.v 2) (.v 4))) (.m (.v 4) (.v 4))))] (.m (.s (.s (.s (.m (.v 6) (.v 6)) (.v 0)) (.v 2)) (.v 4)) (.m (.a (.v 6) (.v 7)) (.s (.v 6) (.v 8)))) (.m (.s (.s (.s (.m (.v 6) (.v 6)) (.v 0)) (.v 2)) (.v 4)) (.s (.v 0) (.v 4))) (And.intro h2.1 (And.intro h1.1 (And.intro h3.1 (And.intro h1.2 (And.intro h3.2 True.intro))))) (by kernel_rfl)
  · refine F.mul_cancel ne ?_
    exact F.lin (fun i => [A.1, A.2, B.1, B.2, C.1, C.2, m1, m2, m3].getD i F.zero) [((.s (.v 6) (.v 8)), (.m (.v 7) (.a (.s (.m (.v 6) (.s (.v 0) (.s (.s (.m (.v 6) (.v 6)) (.v 0)) (.v 2)))) (.v 1)) (.v 5))), (.a (.a (.m (.s (.s (.m (.v 6) (.v 6)) (.v 0)) (.v 2)) (.s (.s (.m (.v 6) (.v 6)) (.v 0)) (.v 2))) (.m (.s (.s (.m (.v 6) (.v 6)) (.v 0)) (.v 2)) (.v 4))) (.m (.v 4) (.v 4)))), ((.a (.a (.s (.s (.m (.v 6) (.v 6)) (.m (.v 6) (.v 8))) (.v 0)) (.v 4)) (.m (.v 8) (.v 6))), (.m (.v 6) (.s (.v 0) (.v 2))), (.s (.v 1) (.v 3))), ((.a (.a (.s (.s (.m (.v 6) (.v 6)) (.m (.v 6) (.v 8))) (.v 0)) (.v 4)) (.m (.v 6) (.v 8))), (.m (.v 8) (.s (.v 2) (.v 4))), (.s (.v 3) (.v 5))), ((.v 8), (.m (.v 6) (.a (.v 1) (.v 3))), (.a (.a (.m (.v 0) (.v 0)) (.m (.v 0) (.v 2))) (.m (.v 2) (.v 2)))), ((.n (.v 6)), (.m (.v 8) (.a (.v 3) (.v 5))), (.a (.a (.m (.v 2) (.v 2)) (.m (.v 2) (.v 4))) (.m (.v 4) (.v 4))))] (.m (.a (.s (.m (.v 6) (.s (.v 0) (.s (.s (.m (.v 6) (.v 6)) (.v 0)) (.v 2)))) (.v 1)) (.v 5)) (.m (.a (.v 6) (.v 7)) (.s (.v 6) (.v 8)))) (.m (.a (.s (.m (.v 6) (.s (.v 0) (.s (.s (.m (.v 6) (.v 6)) (.v 0)) (.v 2)))) (.v 1)) (.v 5)) (.s (.v 0) (.v 4))) (And.intro h2.2 (And.intro h1.1 (And.intro h3.1 (And.intro h1.2 (And.intro h3.2 True.intro))))) (by kernel_rfl)
theorem same_ends {A B C : α × α} {m2 m3 : α} (h1 : F.Sl A B m3) (h3 : F.Sl B C m3) (hE : F.mul (F.add m3 m2) (F.sub m3 m3) = F.sub A.1 C.1) : A = C := by
  have ex : A.1 = C.1 := F.lin (fun i => [A.1, A.2, B.1, B.2, C.1, C.2, m3, m2].getD i F.zero) [((.n (.k 1)), (.m (.a (.v 6) (.v 7)) (.s (.v 6) (.v 6))), (.s (.v 0) (.v 4)))] (.v 0) (.v 4) (And.intro hE True.intro) (by kernel_rfl)
  exact Prod.ext ex (F.lin (fun i => [A.1, A.2, B.1, B.2, C.1, C.2, m3, m2].getD i F.zero) [((.n (.k 1)), (.m (.v 6) (.s (.v 0) (.v 2))), (.s (.v 1) (.v 3))), ((.n (.k 1)), (.m (.v 6) (.s (.v 2) (.v 4))), (.s (.v 3) (.v 5))), ((.v 6), (.v 0), (.v 4))] (.v 1) (.v 5) (And.intro h1.1 (And.intro h3.1 (And.intro ex True.intro))) (by kernel_rfl))
theorem slope_on {A B C : α × α} {m1 m2 m3 : α} (h1 : F.Sl A B m1) (h3 : F.Sl B C m3) (h2 : F.Sl (F.third A B m1) C m2) (hE : F.mul (F.add m1 m2) (F.sub m1 m3) = F.sub A.1 C.1) (ne : m3 ≠ m1) : F.Sl A (F.third B C m3) (F.sub (F.add m1 m2) m3) := by
  refine ⟨F.lin (fun i => [A.1, A.2, B.1, B.2, C.1, C.2, m1, m2, m3].getD i F.zero) [((.a (.v 6) (.v 8)), (.m (.a (.v 6) (.v 7)) (.s (.v 6) (.v 8))), (.s (.v 0) (.v 4))), ((.n (.k 1)), (.m (.v 7) (.s (.s (.s (.m (.v 6) (.v 6)) (.v 0)) (.v 2)) (.v 4))), (.s (.s (.m (.v 6) (.s (.v 0) (.s (.s (.m (.v 6) (.v 6)) (.v 0)) (.v 2)))) (.v 1)) (.v 5))), ((.k 1), (.m (.v 8) (.s (.v 2) (.v 4))), (.s (.v 3) (.v 5)))] (.m (.s (.a (.v 6) (.v 7)) (.v 8)) (.s (.v 0) (.s (.s (.m (.v 8) (.v 8)) (.v 2)) (.v 4)))) (.s (.v 1) (.s (.m (.v 8) (.s (.v 2) (.s (.s (.m (.v 8) (.v 8)) (.v 2)) (.v 4)))) (.v 3))) (And.intro hE (And.intro h2.1 (And.intro h3.1 True.intro))) (by kernel_rfl), F.mul_cancel (F.sub_ne ne) ?_⟩
  exact F.lin (fun i => [A.1, A.2, B.1, B.2, C.1, C.2, m1, m2, m3].getD i F.zero) [((.n (.a (.s (.m (.v 8) (.s (.v 2) (.s (.s (.m (.v 8) (.v 8)) (.v 2)) (.v 4)))) (.v 3)) (.v 1))), (.m (.a (.v 6) (.v 7)) (.s (.v 6) (.v 8))), (.s (.v 0) (.v 4))), ((.a (.s (.a (.s (.m (.v 8) (.v 8)) (.m (.v 6) (.v 8))) (.v 0)) (.v 4)) (.m (.v 8) (.v 6))), (.m (.v 6) (.s (.v 0) (.v 2))), (.s (.v 1) (.v 3))), ((.v 8), (.m (.v 6) (.a (.v 1) (.v 3))), (.a (.a (.m (.v 0) (.v 0)) (.m (.v 0) (.v 2))) (.m (.v 2) (.v 2)))), ((.n (.v 6)), (.m (.v 8) (.a (.v 3) (.v 5))), (.a (.a (.m (.v 2) (.v 2)) (.m (.v 2) (.v 4))) (.m (.v 4) (.v 4)))), ((.m (.v 6) (.v 8)), (.m (.v 8) (.s (.v 2) (.v 4))), (.s (.v 3) (.v 5)))] (.m (.s (.v 8) (.v 6)) (.m (.s (.a (.v 6) (.v 7)) (.v 8)) (.a (.v 1) (.s (.m (.v 8) (.s (.v 2) (.s (.s (.m (.v 8) (.v 8)) (.v 2)) (.v 4)))) (.v 3))))) (.m (.s (.v 8) (.v 6)) (.a (.a (.m (.v 0) (.v 0)) (.m (.v 0) (.s (.s (.m (.v 8) (.v 8)) (.v 2)) (.v 4)))) (.m (.s (.s (.m (.v 8) (.v 8)) (.v 2)) (.v 4)) (.s (.s (.m (.v 8) (.v 8)) (.v 2)) (.v 4))))) (And.intro hE (And.intro h1.1 (And.intro h1.2 (And.intro h3.2 (And.intro h3.1 True.intro))))) (by kernel_rfl)
theorem same_third {A B C : α × α} {m1 m2 m3 : α} (h1 : F.Sl A B m1) (h3 : F.Sl B C m3) (h2 : F.Sl (F.third A B m1) C m2) (hE : F.mul (F.add m1 m2) (F.sub m1 m3) = F.sub A.1 C.1) : F.third (F.third A B m1) C m2 = F.third A (F.third B C m3) (F.sub (F.add m1 m2) m3) :=
  Prod.ext (F.lin (fun i => [A.1, A.2, B.1, B.2, C.1, C.2, m1, m2, m3].getD i F.zero) [((.n (.k 2)), (.m (.a (.v 6) (.v 7)) (.s (.v 6) (.v 8))), (.s (.v 0) (.v 4)))] (.s (.s (.m (.v 7) (.v 7)) (.s (.s (.m (.v 6) (.v 6)) (.v 0)) (.v 2))) (.v 4)) (.s (.s (.m (.s (.a (.v 6) (.v 7)) (.v 8)) (.s (.a (.v 6) (.v 7)) (.v 8))) (.v 0)) (.s (.s (.m (.v 8) (.v 8)) (.v 2)) (.v 4))) (And.intro hE True.intro) (by kernel_rfl))
    (F.lin (fun i => [A.1, A.2, B.1, B.2, C.1, C.2, m1, m2, m3].getD i F.zero) [((.n (.k 1)), (.m (.v 6) (.s (.v 0) (.v 2))), (.s (.v 1) (.v 3))), ((.n (.k 1)), (.m (.v 8) (.s (.v 2) (.v 4))), (.s (.v 3) (.v 5))), ((.k 1), (.m (.v 7) (.s (.s (.s (.m (.v 6) (.v 6)) (.v 0)) (.v 2)) (.v 4))), (.s (.s (.m (.v 6) (.s (.v 0) (.s (.s (.m (.v 6) (.v 6)) (.v 0)) (.v 2)))) (.v 1)) (.v 5))), ((.s (.a (.v 6) (.m (.k 3) (.v 7))) (.m (.k 2) (.v 8))), (.m (.a (.v 6) (.v 7)) (.s (.v 6) (.v 8))), (.s (.v 0) (.v 4)))] (.s (.m (.v 7) (.s (.s (.s (.m (.v 6) (.v 6)) (.v 0)) (.v 2)) (.s (.s (.m (.v 7) (.v 7)) (.s (.s (.m (.v 6) (.v 6)) (.v 0)) (.v 2))) (.v 4)))) (.s (.m (.v 6) (.s (.v 0) (.s (.s (.m (.v 6) (.v 6)) (.v 0)) (.v 2)))) (.v 1))) (.s (.m (.s (.a (.v 6) (.v 7)) (.v 8)) (.s (.v 0) (.s (.s (.m (.s (.a (.v 6) (.v 7)) (.v 8)) (.s (.a (.v 6) (.v 7)) (.v 8))) (.v 0)) (.s (.s (.m (.v 8) (.v 8)) (.v 2)) (.v 4))))) (.v 1)) (And.intro h1.1 (And.intro h3.1 (And.intro h2.1 (And.intro hE True.intro)))) (by kernel_rfl))
def minus : Option (α × α) → Option (α × α)
  | none => none
  | some A => some (F.agst A)
def OnO (b : α) : Option (α × α) → Prop
  | none => True
  | some A => F.On b A
/-- No point has y = 0. -/
def Odd (b : α) : Prop := ∀ q : α × α, F.On b q → q.2 ≠ F.zero
theorem minus_on {b : α} : ∀ {P : Option (α × α)}, F.OnO b P → F.OnO b (F.minus P)
  | none, _ => trivial
  | some _, h => F.agst_on h
theorem minus_minus : ∀ P : Option (α × α), F.minus (F.minus P) = P
  | none => rfl
  | some A => congrArg some (F.agst_agst A)
theorem opp_comm {A B : α × α} (h : opp A B) : opp B A := ⟨h.1.symm, Ne.symm h.2⟩
end
/-! Sums of points. -/
section
variable {α : Type} (F : Fd α) [DecidableEq α]
def slope (A B : α × α) : α := if A.1 = B.1 then F.mul (F.add (F.add (F.mul A.1 A.1) (F.mul A.1 A.1)) (F.mul A.1 A.1)) (F.inv (F.add A.2 A.2)) else F.mul (F.sub B.2 A.2) (F.inv (F.sub B.1 A.1))
def plus : Option (α × α) → Option (α × α) → Option (α × α)
  | none, Q => Q
  | some A, none => some A
  | some A, some B => if A.1 = B.1 ∧ (A.2 = F.zero ∨ A.2 ≠ B.2) then none else some (F.third A B (F.slope A B))
variable {F} {b : α}
theorem slope_sl {A B : α × α} (ho : F.Odd b) (hA : F.On b A) (hB : F.On b B) (h : ¬ opp A B) : F.Sl A B (F.slope A B) := by
  unfold slope
  split
  · rename_i h1
    have h2 : A.2 = B.2 := Classical.byContradiction fun k => h ⟨h1, k⟩
    have e : A = B := Prod.ext h1 h2
    rw [← e]
    exact F.sl_tangent (by rw [F.mul_assoc, F.mul_comm (F.inv _), F.mul_inv _ (F.twice_ne (ho A hA)), F.mul_one])
  · rename_i h1
    exact F.sl_chord hA hB h1 (by rw [F.mul_assoc, F.mul_comm (F.inv _), F.mul_inv _ (F.sub_ne (Ne.symm h1)), F.mul_one])
theorem plus_opp {A B : α × α} (h : opp A B) : F.plus (some A) (some B) = none := if_pos ⟨h.1, .inr h.2⟩
theorem plus_some {A B : α × α} {m : α} (ho : F.Odd b) (hA : F.On b A) (hB : F.On b B) (h : ¬ opp A B) (hm : F.Sl A B m) : F.plus (some A) (some B) = some (F.third A B m) := by
  have e := F.sl_one (slope_sl ho hA hB h) hm (F.not_opp hA hB (ho A hA) h)
  have hn : ¬ (A.1 = B.1 ∧ (A.2 = F.zero ∨ A.2 ≠ B.2)) := fun k => k.2.elim (ho A hA) fun k2 => h ⟨k.1, k2⟩
  show (if _ then none else _) = _
  rw [if_neg hn, e]
theorem plus_comm (ho : F.Odd b) : ∀ {P Q : Option (α × α)}, F.OnO b P → F.OnO b Q → F.plus P Q = F.plus Q P
  | none, none, _, _ => rfl
  | none, some _, _, _ => rfl
  | some _, none, _, _ => rfl
  | some A, some B, hA, hB => by
    by_cases h : opp A B
    · rw [plus_opp h, plus_opp (opp_comm h)]
    · have s := slope_sl ho hA hB h
      rw [plus_some ho hA hB h s, plus_some ho hB hA (fun k => h (opp_comm k)) (F.sl_comm s), F.third_comm s]
theorem plus_on (ho : F.Odd b) : ∀ {P Q : Option (α × α)}, F.OnO b P → F.OnO b Q → F.OnO b (F.plus P Q)
  | none, _, _, hQ => hQ
  | some _, none, hP, _ => hP
  | some A, some B, hA, hB => by
    by_cases h : opp A B
    · rw [plus_opp h]; trivial
    · have s := slope_sl ho hA hB h
      rw [plus_some ho hA hB h s]
      exact F.third_on hA s
theorem plus_none (P : Option (α × α)) : F.plus P none = P := by cases P <;> rfl
theorem plus_minus (ho : F.Odd b) : ∀ {P : Option (α × α)}, F.OnO b P → F.plus P (F.minus P) = none
  | none, _ => rfl
  | some A, h => plus_opp (F.agst_opp (ho A h))
theorem minus_plus (ho : F.Odd b) : ∀ {P Q : Option (α × α)}, F.OnO b P → F.OnO b Q → F.plus (F.minus P) (F.minus Q) = F.minus (F.plus P Q)
  | none, _, _, _ => rfl
  | some _, none, _, _ => rfl
  | some A, some B, hA, hB => by
    show F.plus (some (F.agst A)) (some (F.agst B)) = _
    by_cases h : opp A B
    · rw [plus_opp h, plus_opp (F.opp_agst_iff.2 h)]; rfl
    · have s := slope_sl ho hA hB h
      rw [plus_some ho hA hB h s, plus_some ho (F.agst_on hA) (F.agst_on hB) (fun k => h (F.opp_agst_iff.1 k)) (F.sl_agst s), F.third_agst]
      rfl
theorem back (ho : F.Odd b) : ∀ {P Q : Option (α × α)}, F.OnO b P → F.OnO b Q → F.plus (F.minus P) (F.plus P Q) = Q
  | none, _, _, _ => rfl
  | some B, none, hB, _ => by
    show F.plus (some (F.agst B)) (some B) = none
    exact plus_opp (opp_comm (F.agst_opp (ho B hB)))
  | some B, some C, hB, hC => by
    show F.plus (some (F.agst B)) _ = _
    by_cases h : opp B C
    · rw [plus_opp h, F.opp_agst hB hC h]; rfl
    · have s := slope_sl ho hB hC h
      rw [plus_some ho hB hC h s, plus_some ho (F.agst_on hB) (F.third_on hB s) F.back_opp (F.sl_back s), F.third_back s]
theorem back_comm (ho : F.Odd b) {P Q : Option (α × α)} (hP : F.OnO b P) (hQ : F.OnO b Q) : F.plus (F.plus Q P) (F.minus P) = Q := by
  rw [plus_comm ho (plus_on ho hQ hP) (F.minus_on hP), plus_comm ho hQ hP, back ho hP hQ]
theorem plus_assoc (ho : F.Odd b) : ∀ {P Q R : Option (α × α)}, F.OnO b P → F.OnO b Q → F.OnO b R → F.plus (F.plus P Q) R = F.plus P (F.plus Q R)
  | none, _, _, _, _, _ => rfl
  | some _, none, _, _, _, _ => rfl
  | some A, some B, none, _, _, _ => plus_none _
  | some A, some B, some C, hA, hB, hC => by
    by_cases hAB : opp A B
    · have e := F.opp_agst hA hB hAB
      rw [plus_opp hAB, e]
      have k := back (P := some (F.agst A)) (Q := some C) ho (F.agst_on hA) hC
      rw [show F.minus (some (F.agst A)) = some A from congrArg some (F.agst_agst A)] at k
      exact k.symm
    by_cases hBC : opp B C
    · have e := F.opp_agst hB hC hBC
      rw [plus_opp hBC, e]
      exact back_comm (P := some B) (Q := some A) ho hB hA
    have s1 := slope_sl ho hA hB hAB
    have s3 := slope_sl ho hB hC hBC
    have hS := F.third_on hA s1
    have hV := F.third_on hB s3
    have eS := plus_some ho hA hB hAB s1
    have eV := plus_some ho hB hC hBC s3
    generalize F.slope A B = m1 at *
    generalize F.slope B C = m3 at *
    by_cases hSC : opp (F.third A B m1) C
    · rw [eS, plus_opp hSC]
      have e : some C = F.minus (F.plus (some A) (some B)) := by rw [eS, F.opp_agst hS hC hSC]; rfl
      have k : F.plus (some B) (some C) = F.minus (some A) := by
        have k1 := minus_plus (P := F.minus (some B)) (Q := F.plus (some B) (some A)) ho (F.minus_on (P := some B) hB) (plus_on (P := some B) (Q := some A) ho hB hA)
        rw [back (P := some B) (Q := some A) ho hB hA, F.minus_minus] at k1
        rw [e, plus_comm (P := some A) (Q := some B) ho hA hB, k1]
      rw [k]
      exact (plus_minus (P := some A) ho hA).symm
    by_cases hAV : opp A (F.third B C m3)
    · rw [eV, plus_opp hAV]
      have e : F.plus (some B) (some C) = F.minus (some A) := by rw [eV, F.opp_agst hA hV hAV]; rfl
      have k : some C = F.minus (F.plus (some A) (some B)) := by
        have k1 := back (P := some B) (Q := some C) ho hB hC
        rw [e, minus_plus (P := some B) (Q := some A) ho hB hA, plus_comm (P := some B) (Q := some A) ho hB hA] at k1
        exact k1.symm
      rw [k]
      exact plus_minus ho (plus_on (P := some A) (Q := some B) ho hA hB)
    rw [eS, eV]
    have s2 := slope_sl ho hS hC hSC
    generalize F.slope (F.third A B m1) C = m2 at *
    have hE := F.slopes s1 s3 s2 (F.not_opp hS hC (ho _ hS) hSC)
    by_cases hm : m3 = m1
    · subst hm
      have hAC := F.same_ends s1 s3 hE
      subst hAC
      rw [← eS, ← eV, plus_comm (P := some A) (Q := some B) ho hA hB]
      exact plus_comm (P := F.plus (some B) (some A)) (Q := some A) ho (plus_on (P := some B) (Q := some A) ho hB hA) hA
    · rw [plus_some ho hS hC hSC s2, plus_some ho hA hV hAV (F.slope_on s1 s3 s2 hE hm), F.same_third s1 s3 s2 hE]
end
end Fd
end Go.Proofs.Ytkmmlfocidfghaa

import Derived.Test.YtdajgcgliidjbaaGreatMAll
import Derived.Test.YtdajgcgliidjbaaGreatUInvs
import Derived.Test.YtdajgcgliidjbaaGreatYMath
namespace Go.Proofs.YtdajgcgliidjbaaGreat
structure Fd (α : Type) where
 add : α → α → α
 mul : α → α → α
 neg : α → α
 zero : α
 one : α
 inv : α → α
 add_comm : ∀ a b, add a b = add b a
 add_assoc : ∀ a b c, add (add a b) c = add a (add b c)
 add_zero : ∀ a, add a zero = a
 add_neg : ∀ a, add a (neg a) = zero
 mul_comm : ∀ a b, mul a b = mul b a
 mul_assoc : ∀ a b c, mul (mul a b) c = mul a (mul b c)
 mul_one : ∀ a, mul a one = a
 mul_add : ∀ a b c, mul a (add b c) = add (mul a b) (mul a c)
 mul_inv : ∀ a, a ≠ zero → mul a (inv a) = one
 two_ne : add one one ≠ zero
namespace Fd
section
variable {α : Type} (F : Fd α)
def num : Nat → α
 | 0 => F.zero
 | k + 1 => F.add (num k) F.one
def sub (a b : α) : α := F.add a (F.neg b)
theorem zero_add (a : α) : F.add F.zero a = a := by rw [F.add_comm, F.add_zero]
theorem add_left_comm (a b c : α) : F.add a (F.add b c) = F.add b (F.add a c) := by rw [← F.add_assoc, F.add_comm a b, F.add_assoc]
theorem mul_left_comm (a b c : α) : F.mul a (F.mul b c) = F.mul b (F.mul a c) := by rw [← F.mul_assoc, F.mul_comm a b, F.mul_assoc]
theorem neg_add_self (a : α) : F.add (F.neg a) a = F.zero := by rw [F.add_comm, F.add_neg]
theorem add_cancel {a b c : α} (h : F.add a b = F.add a c) : b = c := by
 have e := congrArg (F.add (F.neg a)) h
 rw [← F.add_assoc, ← F.add_assoc, F.neg_add_self, F.zero_add, F.zero_add] at e
 exact e
theorem mul_zero (a : α) : F.mul a F.zero = F.zero := by
 have e : F.add (F.mul a F.zero) (F.mul a F.zero) = F.add (F.mul a F.zero) F.zero := by rw [← F.mul_add, F.add_zero, F.add_zero]
 exact F.add_cancel e
theorem zero_mul (a : α) : F.mul F.zero a = F.zero := by rw [F.mul_comm, F.mul_zero]
theorem one_mul (a : α) : F.mul F.one a = a := by rw [F.mul_comm, F.mul_one]
theorem add_mul (a b c : α) : F.mul (F.add a b) c = F.add (F.mul a c) (F.mul b c) := by rw [F.mul_comm, F.mul_add, F.mul_comm c a, F.mul_comm c b]
theorem neg_of {a b : α} (h : F.add a b = F.zero) : b = F.neg a := F.add_cancel (h.trans (F.add_neg a).symm)
theorem neg_mul (a b : α) : F.mul (F.neg a) b = F.neg (F.mul a b) := F.neg_of (by rw [← F.add_mul, F.add_neg, F.zero_mul])
theorem mul_neg (a b : α) : F.mul a (F.neg b) = F.neg (F.mul a b) := by rw [F.mul_comm, F.neg_mul, F.mul_comm]
theorem neg_neg (a : α) : F.neg (F.neg a) = a := (F.neg_of (F.neg_add_self a)).symm
theorem neg_zero : F.neg F.zero = F.zero := (F.neg_of (F.add_zero F.zero)).symm
theorem neg_add (a b : α) : F.neg (F.add a b) = F.add (F.neg a) (F.neg b) :=
 (F.neg_of (by rw [F.add_assoc, F.add_left_comm b, F.add_neg, F.add_zero, F.add_neg])).symm
theorem num_add (a b : Nat) : F.num (a + b) = F.add (F.num a) (F.num b) := by
 induction b with
 | zero => exact (F.add_zero _).symm
 | succ k ih =>
  show F.add (F.num (a + k)) F.one = F.add (F.num a) (F.add (F.num k) F.one)
  rw [ih, F.add_assoc]
theorem num_mul (a b : Nat) : F.num (a * b) = F.mul (F.num a) (F.num b) := by
 induction b with
 | zero => exact (F.mul_zero _).symm
 | succ k ih =>
  rw [Nat.mul_succ, F.num_add, ih]
  show _ = F.mul (F.num a) (F.add (F.num k) F.one)
  rw [F.mul_add, F.mul_one]
theorem sub_eq {a b : α} (h : F.sub a b = F.zero) : a = b := by
 have e := F.neg_of h
 rw [← F.neg_neg a, ← e, F.neg_neg]
def cf (p q : Nat) : α := F.add (F.num p) (F.neg (F.num q))
theorem cf_add (p q p' q' : Nat) : F.cf (p + p') (q + q') = F.add (F.cf p q) (F.cf p' q') := by
 unfold cf
 rw [F.num_add, F.num_add, F.neg_add, F.add_assoc, F.add_assoc, F.add_left_comm (F.num p')]
theorem cf_neg (p q : Nat) : F.cf q p = F.neg (F.cf p q) := by
 unfold cf
 rw [F.neg_add, F.neg_neg, F.add_comm]
theorem cf_same (p : Nat) : F.cf p p = F.zero := F.add_neg _
theorem cf_mul (p q p' q' : Nat) : F.cf (p * p' + q * q') (p * q' + q * p') = F.mul (F.cf p q) (F.cf p' q') := by
 unfold cf
 rw [F.num_add, F.num_add, F.num_mul, F.num_mul, F.num_mul, F.num_mul, F.add_mul, F.mul_add, F.mul_add, F.mul_neg, F.neg_mul, F.neg_mul, F.mul_neg, F.neg_neg, F.neg_add, F.add_assoc, F.add_assoc]
 congr 1
 rw [F.add_left_comm]
 congr 1
 rw [F.add_comm]
variable (ρ : Nat → α)
def mon : List Nat → α
 | [] => F.one
 | i :: m => F.mul (ρ i) (mon m)
def insv (i : Nat) : List Nat → List Nat
 | [] => [i]
 | j :: m => if Nat.ble i j then i :: j :: m else j :: insv i m
theorem mon_insv (i : Nat) : ∀ m : List Nat, F.mon ρ (insv i m) = F.mul (ρ i) (F.mon ρ m)
 | [] => rfl
 | j :: m => by
  unfold insv
  split
  ·rfl
  ·show F.mul (ρ j) (F.mon ρ (insv i m)) = F.mul (ρ i) (F.mul (ρ j) (F.mon ρ m))
   rw [mon_insv i m, F.mul_left_comm]
def mmul : List Nat → List Nat → List Nat
 | [], k => k
 | i :: m, k => insv i (mmul m k)
theorem mon_mmul : ∀ m k : List Nat, F.mon ρ (mmul m k) = F.mul (F.mon ρ m) (F.mon ρ k)
 | [], k => (F.one_mul _).symm
 | i :: m, k => by
  show F.mon ρ (insv i (mmul m k)) = F.mul (F.mul (ρ i) (F.mon ρ m)) (F.mon ρ k)
  rw [mon_insv, mon_mmul m k, F.mul_assoc]
abbrev Tm := List Nat × Nat × Nat
def term (t : Tm) : α := F.mul (F.cf t.2.1 t.2.2) (F.mon ρ t.1)
def sem : List Tm → α
 | [] => F.zero
 | t :: P => F.add (F.term ρ t) (sem P)
def sameL : List Nat → List Nat → Bool
 | [], [] => true
 | i :: m, j :: k => Nat.beq i j && sameL m k
 | _, _ => false
theorem sameL_eq : ∀ {m k : List Nat}, sameL m k = true → m = k
 | [], [], _ => rfl
 | i :: m, j :: k, h => by
  simp only [sameL, Bool.and_eq_true] at h
  rw [Nat.eq_of_beq_eq_true h.1, sameL_eq h.2]
 | [], _ :: _, h => by cases h
 | _ :: _, [], h => by cases h
def ins (t : Tm) : List Tm → List Tm
 | [] => [t]
 | u :: P => if sameL t.1 u.1 then (u.1, t.2.1 + u.2.1, t.2.2 + u.2.2) :: P else u :: ins t P
theorem sem_ins (t : Tm) : ∀ P : List Tm, F.sem ρ (ins t P) = F.add (F.term ρ t) (F.sem ρ P)
 | [] => rfl
 | u :: P => by
  unfold ins
  split
  ·rename_i h
   have e := sameL_eq h
   show F.add (F.mul (F.cf _ _) _) _ = F.add (F.mul _ (F.mon ρ t.1)) (F.add (F.mul _ _) _)
   rw [F.cf_add, F.add_mul, F.add_assoc, e]
  ·show F.add _ (F.sem ρ (ins t P)) = F.add _ (F.add _ _)
   rw [sem_ins t P, F.add_left_comm]
def padd : List Tm → List Tm → List Tm
 | [], Q => Q
 | t :: P, Q => ins t (padd P Q)
theorem sem_padd : ∀ P Q : List Tm, F.sem ρ (padd P Q) = F.add (F.sem ρ P) (F.sem ρ Q)
 | [], Q => (F.zero_add _).symm
 | t :: P, Q => by
  show F.sem ρ (ins t (padd P Q)) = F.add (F.add _ _) _
  rw [sem_ins, sem_padd P Q, F.add_assoc]
def scale (t : Tm) : List Tm → List Tm
 | [] => []
 | u :: P => (mmul t.1 u.1, t.2.1 * u.2.1 + t.2.2 * u.2.2, t.2.1 * u.2.2 + t.2.2 * u.2.1) :: scale t P
theorem sem_scale (t : Tm) : ∀ P : List Tm, F.sem ρ (scale t P) = F.mul (F.term ρ t) (F.sem ρ P)
 | [] => (F.mul_zero _).symm
 | u :: P => by
  show F.add (F.mul (F.cf _ _) (F.mon ρ (mmul _ _))) (F.sem ρ (scale t P)) = F.mul _ (F.add (F.mul _ _) _)
  rw [sem_scale t P, F.cf_mul, mon_mmul, F.mul_add]
  congr 1
  unfold term
  rw [F.mul_assoc, F.mul_assoc, F.mul_left_comm (F.cf u.2.1 u.2.2)]
def pmul : List Tm → List Tm → List Tm
 | [], _ => []
 | t :: P, Q => padd (scale t Q) (pmul P Q)
theorem sem_pmul : ∀ P Q : List Tm, F.sem ρ (pmul P Q) = F.mul (F.sem ρ P) (F.sem ρ Q)
 | [], Q => (F.zero_mul _).symm
 | t :: P, Q => by
  show F.sem ρ (padd (scale t Q) (pmul P Q)) = F.mul (F.add _ _) _
  rw [sem_padd, sem_scale, sem_pmul P Q, F.add_mul]
def pneg : List Tm → List Tm
 | [] => []
 | t :: P => (t.1, t.2.2, t.2.1) :: pneg P
theorem sem_pneg : ∀ P : List Tm, F.sem ρ (pneg P) = F.neg (F.sem ρ P)
 | [] => F.neg_zero.symm
 | t :: P => by
  show F.add (F.mul (F.cf t.2.2 t.2.1) (F.mon ρ t.1)) (F.sem ρ (pneg P)) = F.neg (F.add (F.mul (F.cf t.2.1 t.2.2) _) _)
  rw [sem_pneg P, F.neg_add, F.cf_neg, F.neg_mul]
inductive Ex where
 | v (i : Nat)
 | k (n : Nat)
 | a (x y : Ex)
 | m (x y : Ex)
 | s (x y : Ex)
 | n (x : Ex)
def ev : Ex → α
 | .v i => ρ i
 | .k n => F.num n
 | .a x y => F.add (ev x) (ev y)
 | .m x y => F.mul (ev x) (ev y)
 | .s x y => F.sub (ev x) (ev y)
 | .n x => F.neg (ev x)
def nf : Ex → List Tm
 | .v i => [([i], 1, 0)]
 | .k n => [([], n, 0)]
 | .a x y => padd (nf x) (nf y)
 | .m x y => pmul (nf x) (nf y)
 | .s x y => padd (nf x) (pneg (nf y))
 | .n x => pneg (nf x)
theorem cf_num (n : Nat) : F.cf n 0 = F.num n := by unfold cf; rw [show F.num 0 = F.zero from rfl, F.neg_zero, F.add_zero]
theorem num_one : F.num 1 = F.one := F.zero_add _
theorem sem_nf : ∀ x : Ex, F.sem ρ (nf x) = F.ev ρ x
 | .v i => by
  show F.add (F.mul (F.cf 1 0) (F.mul (ρ i) F.one)) F.zero = ρ i
  rw [F.add_zero, F.mul_one, F.cf_num, F.num_one, F.one_mul]
 | .k n => by
  show F.add (F.mul (F.cf n 0) F.one) F.zero = F.num n
  rw [F.add_zero, F.mul_one, F.cf_num]
 | .a x y => by
  show F.sem ρ (padd (nf x) (nf y)) = F.add (F.ev ρ x) (F.ev ρ y)
  rw [sem_padd, sem_nf x, sem_nf y]
 | .m x y => by
  show F.sem ρ (pmul (nf x) (nf y)) = F.mul (F.ev ρ x) (F.ev ρ y)
  rw [sem_pmul, sem_nf x, sem_nf y]
 | .s x y => by
  show F.sem ρ (padd (nf x) (pneg (nf y))) = F.add (F.ev ρ x) (F.neg (F.ev ρ y))
  rw [sem_padd, sem_pneg, sem_nf x, sem_nf y]
 | .n x => by
  show F.sem ρ (pneg (nf x)) = F.neg (F.ev ρ x)
  rw [sem_pneg, sem_nf x]
def allSame : List Tm → Bool
 | [] => true
 | t :: P => Nat.beq t.2.1 t.2.2 && allSame P
theorem sem_same : ∀ {P : List Tm}, allSame P = true → F.sem ρ P = F.zero
 | [], _ => rfl
 | t :: P, h => by
  simp only [allSame, Bool.and_eq_true] at h
  show F.add (F.mul (F.cf t.2.1 t.2.2) _) _ = F.zero
  rw [sem_same h.2, Nat.eq_of_beq_eq_true h.1, F.cf_same, F.zero_mul, F.add_zero]
theorem ring (x y : Ex) (h : allSame (nf (.s x y)) = true) : F.ev ρ x = F.ev ρ y := F.sub_eq (by
 have e := F.sem_same ρ h
 rw [sem_nf] at e
 exact e)
def left : List (Ex × Ex × Ex) → Ex
 | [] => .k 0
 | t :: T => .a (.m t.1 t.2.1) (left T)
def right : List (Ex × Ex × Ex) → Ex
 | [] => .k 0
 | t :: T => .a (.m t.1 t.2.2) (right T)
def holds : List (Ex × Ex × Ex) → Prop
 | [] => True
 | t :: T => F.ev ρ t.2.1 = F.ev ρ t.2.2 ∧ holds T
theorem sides : ∀ {T : List (Ex × Ex × Ex)}, F.holds ρ T → F.ev ρ (left T) = F.ev ρ (right T)
 | [], _ => rfl
 | t :: T, h => by
  show F.add (F.mul _ _) _ = F.add (F.mul _ _) _
  rw [h.1, sides h.2]
theorem lin (T : List (Ex × Ex × Ex)) (x y : Ex) (hT : F.holds ρ T) (h : allSame (nf (.s (.a x (right T)) (.a y (left T)))) = true) : F.ev ρ x = F.ev ρ y := by
 have e : F.add (F.ev ρ x) (F.ev ρ (right T)) = F.add (F.ev ρ y) (F.ev ρ (left T)) := F.ring ρ _ _ h
 rw [sides F ρ hT, F.add_comm, F.add_comm (F.ev ρ y)] at e
 exact F.add_cancel e
end
section
variable {α : Type} (F : Fd α)
theorem mul_cancel {a b c : α} (ha : a ≠ F.zero) (h : F.mul a b = F.mul a c) : b = c := by
 have e := congrArg (F.mul (F.inv a)) h
 rw [← F.mul_assoc, ← F.mul_assoc, F.mul_comm (F.inv a), F.mul_inv a ha, F.one_mul, F.one_mul] at e
 exact e
theorem mul_none {a b : α} (ha : a ≠ F.zero) (h : F.mul a b = F.zero) : b = F.zero := F.mul_cancel ha (h.trans (F.mul_zero a).symm)
theorem sub_self (a : α) : F.sub a a = F.zero := F.add_neg a
theorem sub_ne {a b : α} (h : a ≠ b) : F.sub a b ≠ F.zero := fun e => h (F.sub_eq e)
theorem twice_ne {a : α} (h : a ≠ F.zero) : F.add a a ≠ F.zero := fun e => h (by
 have e2 : F.mul (F.add F.one F.one) a = F.zero := by rw [F.add_mul, F.one_mul, e]
 exact F.mul_none F.two_ne e2)
end
end Fd
end Go.Proofs.YtdajgcgliidjbaaGreat
namespace Go.Proofs.YtdajgcgliidjbaaGreat
namespace Fd
section
variable {α : Type} (F : Fd α)
def On (b : α) (q : α × α) : Prop := F.mul q.2 q.2 = F.add (F.mul (F.mul q.1 q.1) q.1) b
def Sl (A B : α × α) (m : α) : Prop := F.mul m (F.sub A.1 B.1) = F.sub A.2 B.2 ∧ F.mul m (F.add A.2 B.2) = F.add (F.add (F.mul A.1 A.1) (F.mul A.1 B.1)) (F.mul B.1 B.1)
def thirdX (A B : α × α) (m : α) : α := F.sub (F.sub (F.mul m m) A.1) B.1
def third (A B : α × α) (m : α) : α × α := (F.thirdX A B m, F.sub (F.mul m (F.sub A.1 (F.thirdX A B m))) A.2)
def opp (A B : α × α) : Prop := A.1 = B.1 ∧ A.2 ≠ B.2
def agst (A : α × α) : α × α := (A.1, F.neg A.2)
theorem sl_comm {A B : α × α} {m : α} (h : F.Sl A B m) : F.Sl B A m :=
  ⟨F.lin (fun i => [A.1, A.2, B.1, B.2, m, m, m].getD i F.zero) [((.n (.k 1)), (.m (.v 4) (.s (.v 0) (.v 2))), (.s (.v 1) (.v 3)))] (.m (.v 4) (.s (.v 2) (.v 0))) (.s (.v 3) (.v 1)) (And.intro h.1 True.intro) (by kernel_rfl),
   F.lin (fun i => [A.1, A.2, B.1, B.2, m, m, m].getD i F.zero) [((.k 1), (.m (.v 4) (.a (.v 1) (.v 3))), (.a (.a (.m (.v 0) (.v 0)) (.m (.v 0) (.v 2))) (.m (.v 2) (.v 2))))] (.m (.v 4) (.a (.v 3) (.v 1))) (.a (.a (.m (.v 2) (.v 2)) (.m (.v 2) (.v 0))) (.m (.v 0) (.v 0))) (And.intro h.2 True.intro) (by kernel_rfl)⟩
theorem third_comm {A B : α × α} {m : α} (h : F.Sl A B m) : F.third A B m = F.third B A m :=
 Prod.ext (F.ring (fun i => [A.1, A.2, B.1, B.2, m, m, m].getD i F.zero) (.s (.s (.m (.v 4) (.v 4)) (.v 0)) (.v 2)) (.s (.s (.m (.v 4) (.v 4)) (.v 2)) (.v 0)) (by kernel_rfl))
  (F.lin (fun i => [A.1, A.2, B.1, B.2, m, m, m].getD i F.zero) [((.k 1), (.m (.v 4) (.s (.v 0) (.v 2))), (.s (.v 1) (.v 3)))] (.s (.m (.v 4) (.s (.v 0) (.s (.s (.m (.v 4) (.v 4)) (.v 0)) (.v 2)))) (.v 1)) (.s (.m (.v 4) (.s (.v 2) (.s (.s (.m (.v 4) (.v 4)) (.v 2)) (.v 0)))) (.v 3)) (And.intro h.1 True.intro) (by kernel_rfl))
theorem third_on {b : α} {A B : α × α} {m : α} (hA : F.On b A) (h : F.Sl A B m) : F.On b (F.third A B m) :=
 F.lin (fun i => [A.1, A.2, B.1, B.2, m, b, m].getD i F.zero) [((.k 1), (.m (.v 1) (.v 1)), (.a (.m (.m (.v 0) (.v 0)) (.v 0)) (.v 5))), ((.m (.s (.v 0) (.s (.s (.m (.v 4) (.v 4)) (.v 0)) (.v 2))) (.v 4)), (.m (.v 4) (.s (.v 0) (.v 2))), (.s (.v 1) (.v 3))), ((.n (.s (.v 0) (.s (.s (.m (.v 4) (.v 4)) (.v 0)) (.v 2)))), (.m (.v 4) (.a (.v 1) (.v 3))), (.a (.a (.m (.v 0) (.v 0)) (.m (.v 0) (.v 2))) (.m (.v 2) (.v 2))))] (.m (.s (.m (.v 4) (.s (.v 0) (.s (.s (.m (.v 4) (.v 4)) (.v 0)) (.v 2)))) (.v 1)) (.s (.m (.v 4) (.s (.v 0) (.s (.s (.m (.v 4) (.v 4)) (.v 0)) (.v 2)))) (.v 1))) (.a (.m (.m (.s (.s (.m (.v 4) (.v 4)) (.v 0)) (.v 2)) (.s (.s (.m (.v 4) (.v 4)) (.v 0)) (.v 2))) (.s (.s (.m (.v 4) (.v 4)) (.v 0)) (.v 2))) (.v 5)) (And.intro hA (And.intro h.1 (And.intro h.2 True.intro))) (by kernel_rfl)
theorem agst_on {b : α} {A : α × α} (hA : F.On b A) : F.On b (F.agst A) :=
 F.lin (fun i => [A.1, A.2, A.1, A.2, b, b, b].getD i F.zero) [((.k 1), (.m (.v 1) (.v 1)), (.a (.m (.m (.v 0) (.v 0)) (.v 0)) (.v 5)))] (.m (.n (.v 1)) (.n (.v 1))) (.a (.m (.m (.v 0) (.v 0)) (.v 0)) (.v 5)) (And.intro hA True.intro) (by kernel_rfl)
theorem agst_agst (A : α × α) : F.agst (F.agst A) = A := Prod.ext rfl (F.neg_neg A.2)
theorem opp_agst {b : α} {A B : α × α} (hA : F.On b A) (hB : F.On b B) (h : opp A B) : B = F.agst A := by
 obtain ⟨h1, h2⟩ := h
 have e : F.mul (F.sub A.2 B.2) (F.add A.2 B.2) = F.zero := F.lin (fun i => [A.1, A.2, B.1, B.2, b, b, b].getD i F.zero) [((.k 1), (.m (.v 1) (.v 1)), (.a (.m (.m (.v 0) (.v 0)) (.v 0)) (.v 5))), ((.n (.k 1)), (.m (.v 3) (.v 3)), (.a (.m (.m (.v 2) (.v 2)) (.v 2)) (.v 5))), ((.a (.a (.m (.v 0) (.v 0)) (.m (.v 0) (.v 2))) (.m (.v 2) (.v 2))), (.v 0), (.v 2))] (.m (.s (.v 1) (.v 3)) (.a (.v 1) (.v 3))) (.k 0) (And.intro hA (And.intro hB (And.intro h1 True.intro))) (by kernel_rfl)
 have e2 := F.mul_none (F.sub_ne h2) e
 exact Prod.ext h1.symm (F.neg_of e2)
theorem ne_neg {y : α} (h : y ≠ F.zero) : y ≠ F.neg y := fun e => F.twice_ne h (by
 have e2 := congrArg (F.add y) e
 rw [F.add_neg] at e2
 exact e2)
theorem agst_opp {A : α × α} (h : A.2 ≠ F.zero) : opp A (F.agst A) := ⟨rfl, F.ne_neg h⟩
theorem not_opp {b : α} {A B : α × α} (_hA : F.On b A) (_hB : F.On b B) (hy : A.2 ≠ F.zero) (h : ¬ opp A B) : A.1 ≠ B.1 ∨ F.add A.2 B.2 ≠ F.zero := by
 by_cases h1 : A.1 = B.1
 ·right
  have h2 : A.2 = B.2 := Classical.byContradiction fun k => h ⟨h1, k⟩
  rw [← h2]
  exact F.twice_ne hy
 ·exact .inl h1
theorem sl_one {A B : α × α} {m n : α} (h : F.Sl A B m) (k : F.Sl A B n) (ne : A.1 ≠ B.1 ∨ F.add A.2 B.2 ≠ F.zero) : m = n := by
 rcases ne with ne | ne
 ·have e : F.mul (F.sub A.1 B.1) m = F.mul (F.sub A.1 B.1) n := by rw [F.mul_comm, h.1, ← k.1, F.mul_comm]
  exact F.mul_cancel (F.sub_ne ne) e
 ·have e : F.mul (F.add A.2 B.2) m = F.mul (F.add A.2 B.2) n := by rw [F.mul_comm, h.2, ← k.2, F.mul_comm]
  exact F.mul_cancel ne e
theorem sl_chord {b : α} {A B : α × α} {m : α} (hA : F.On b A) (hB : F.On b B) (ne : A.1 ≠ B.1) (h : F.mul m (F.sub B.1 A.1) = F.sub B.2 A.2) : F.Sl A B m := by
 refine ⟨F.lin (fun i => [A.1, A.2, B.1, B.2, m, b].getD i F.zero) [((.n (.k 1)), (.m (.v 4) (.s (.v 2) (.v 0))), (.s (.v 3) (.v 1)))] (.m (.v 4) (.s (.v 0) (.v 2))) (.s (.v 1) (.v 3)) (And.intro h True.intro) (by kernel_rfl), F.mul_cancel (F.sub_ne (Ne.symm ne)) ?_⟩
 exact F.lin (fun i => [A.1, A.2, B.1, B.2, m, b].getD i F.zero) [((.a (.v 1) (.v 3)), (.m (.v 4) (.s (.v 2) (.v 0))), (.s (.v 3) (.v 1))), ((.k 1), (.m (.v 3) (.v 3)), (.a (.m (.m (.v 2) (.v 2)) (.v 2)) (.v 5))), ((.n (.k 1)), (.m (.v 1) (.v 1)), (.a (.m (.m (.v 0) (.v 0)) (.v 0)) (.v 5)))] (.m (.s (.v 2) (.v 0)) (.m (.v 4) (.a (.v 1) (.v 3)))) (.m (.s (.v 2) (.v 0)) (.a (.a (.m (.v 0) (.v 0)) (.m (.v 0) (.v 2))) (.m (.v 2) (.v 2)))) (And.intro h (And.intro hB (And.intro hA True.intro))) (by kernel_rfl)
theorem sl_tangent {A : α × α} {m : α} (h : F.mul m (F.add A.2 A.2) = F.add (F.add (F.mul A.1 A.1) (F.mul A.1 A.1)) (F.mul A.1 A.1)) : F.Sl A A m := ⟨by rw [F.sub_self, F.sub_self, F.mul_zero], h⟩
theorem sl_agst {A B : α × α} {m : α} (h : F.Sl A B m) : F.Sl (F.agst A) (F.agst B) (F.neg m) :=
  ⟨F.lin (fun i => [A.1, A.2, B.1, B.2, m].getD i F.zero) [((.n (.k 1)), (.m (.v 4) (.s (.v 0) (.v 2))), (.s (.v 1) (.v 3)))] (.m (.n (.v 4)) (.s (.v 0) (.v 2))) (.s (.n (.v 1)) (.n (.v 3))) (And.intro h.1 True.intro) (by kernel_rfl),
   F.lin (fun i => [A.1, A.2, B.1, B.2, m].getD i F.zero) [((.k 1), (.m (.v 4) (.a (.v 1) (.v 3))), (.a (.a (.m (.v 0) (.v 0)) (.m (.v 0) (.v 2))) (.m (.v 2) (.v 2))))] (.m (.n (.v 4)) (.a (.n (.v 1)) (.n (.v 3)))) (.a (.a (.m (.v 0) (.v 0)) (.m (.v 0) (.v 2))) (.m (.v 2) (.v 2))) (And.intro h.2 True.intro) (by kernel_rfl)⟩
theorem third_agst (A B : α × α) (m : α) : F.third (F.agst A) (F.agst B) (F.neg m) = F.agst (F.third A B m) :=
 Prod.ext (F.ring (fun i => [A.1, A.2, B.1, B.2, m].getD i F.zero) (.s (.s (.m (.n (.v 4)) (.n (.v 4))) (.v 0)) (.v 2)) (.s (.s (.m (.v 4) (.v 4)) (.v 0)) (.v 2)) (by kernel_rfl))
  (F.ring (fun i => [A.1, A.2, B.1, B.2, m].getD i F.zero) (.s (.m (.n (.v 4)) (.s (.v 0) (.s (.s (.m (.n (.v 4)) (.n (.v 4))) (.v 0)) (.v 2)))) (.n (.v 1))) (.n (.s (.m (.v 4) (.s (.v 0) (.s (.s (.m (.v 4) (.v 4)) (.v 0)) (.v 2)))) (.v 1))) (by kernel_rfl))
theorem opp_agst_iff {A B : α × α} : opp (F.agst A) (F.agst B) ↔ opp A B :=
 ⟨fun h => ⟨h.1, fun e => h.2 (congrArg F.neg e)⟩, fun h => ⟨h.1, fun e => h.2 (by rw [← F.neg_neg A.2, ← F.neg_neg B.2]; exact congrArg F.neg e)⟩⟩
theorem sl_back {B C : α × α} {m : α} (h : F.Sl B C m) : F.Sl (F.agst B) (F.third B C m) (F.neg m) :=
  ⟨F.ring (fun i => [B.1, B.2, C.1, C.2, m].getD i F.zero) (.m (.n (.v 4)) (.s (.v 0) (.s (.s (.m (.v 4) (.v 4)) (.v 0)) (.v 2)))) (.s (.n (.v 1)) (.s (.m (.v 4) (.s (.v 0) (.s (.s (.m (.v 4) (.v 4)) (.v 0)) (.v 2)))) (.v 1))) (by kernel_rfl),
   F.lin (fun i => [B.1, B.2, C.1, C.2, m].getD i F.zero) [((.k 1), (.m (.v 4) (.a (.v 1) (.v 3))), (.a (.a (.m (.v 0) (.v 0)) (.m (.v 0) (.v 2))) (.m (.v 2) (.v 2)))), ((.n (.v 4)), (.m (.v 4) (.s (.v 0) (.v 2))), (.s (.v 1) (.v 3)))] (.m (.n (.v 4)) (.a (.n (.v 1)) (.s (.m (.v 4) (.s (.v 0) (.s (.s (.m (.v 4) (.v 4)) (.v 0)) (.v 2)))) (.v 1)))) (.a (.a (.m (.v 0) (.v 0)) (.m (.v 0) (.s (.s (.m (.v 4) (.v 4)) (.v 0)) (.v 2)))) (.m (.s (.s (.m (.v 4) (.v 4)) (.v 0)) (.v 2)) (.s (.s (.m (.v 4) (.v 4)) (.v 0)) (.v 2)))) (And.intro h.2 (And.intro h.1 True.intro)) (by kernel_rfl)⟩
theorem third_back {B C : α × α} {m : α} (h : F.Sl B C m) : F.third (F.agst B) (F.third B C m) (F.neg m) = C :=
 Prod.ext (F.ring (fun i => [B.1, B.2, C.1, C.2, m].getD i F.zero) (.s (.s (.m (.n (.v 4)) (.n (.v 4))) (.v 0)) (.s (.s (.m (.v 4) (.v 4)) (.v 0)) (.v 2))) (.v 2) (by kernel_rfl))
  (F.lin (fun i => [B.1, B.2, C.1, C.2, m].getD i F.zero) [((.n (.k 1)), (.m (.v 4) (.s (.v 0) (.v 2))), (.s (.v 1) (.v 3)))] (.s (.m (.n (.v 4)) (.s (.v 0) (.s (.s (.m (.n (.v 4)) (.n (.v 4))) (.v 0)) (.s (.s (.m (.v 4) (.v 4)) (.v 0)) (.v 2))))) (.n (.v 1))) (.v 3) (And.intro h.1 True.intro) (by kernel_rfl))
theorem back_opp {B C : α × α} {m : α} : ¬ opp (F.agst B) (F.third B C m) := fun h => h.2 (
 F.lin (fun i => [B.1, B.2, C.1, C.2, m].getD i F.zero) [((.n (.v 4)), (.v 0), (.s (.s (.m (.v 4) (.v 4)) (.v 0)) (.v 2)))] (.n (.v 1)) (.s (.m (.v 4) (.s (.v 0) (.s (.s (.m (.v 4) (.v 4)) (.v 0)) (.v 2)))) (.v 1)) (And.intro h.1 True.intro) (by kernel_rfl))
theorem slopes {A B C : α × α} {m1 m2 m3 : α} (h1 : F.Sl A B m1) (h3 : F.Sl B C m3) (h2 : F.Sl (F.third A B m1) C m2) (ne : (F.third A B m1).1 ≠ C.1 ∨ F.add (F.third A B m1).2 C.2 ≠ F.zero) : F.mul (F.add m1 m2) (F.sub m1 m3) = F.sub A.1 C.1 := by
 rcases ne with ne | ne
 ·refine F.mul_cancel (F.sub_ne ne) ?_
  exact F.lin (fun i => [A.1, A.2, B.1, B.2, C.1, C.2, m1, m2, m3].getD i F.zero) [((.s (.v 6) (.v 8)), (.m (.v 7) (.s (.s (.s (.m (.v 6) (.v 6)) (.v 0)) (.v 2)) (.v 4))), (.s (.s (.m (.v 6) (.s (.v 0) (.s (.s (.m (.v 6) (.v 6)) (.v 0)) (.v 2)))) (.v 1)) (.v 5))), ((.n (.v 8)), (.m (.v 6) (.s (.v 0) (.v 2))), (.s (.v 1) (.v 3))), ((.n (.v 6)), (.m (.v 8) (.s (.v 2) (.v 4))), (.s (.v 3) (.v 5))), ((.n (.k 1)), (.m (.v 6) (.a (.v 1) (.v 3))), (.a (.a (.m (.v 0) (.v 0)) (.m (.v 0) (.v 2))) (.m (.v 2) (.v 2)))), ((.k 1), (.m (.v 8) (.a (.v 3) (.v 5))), (.a (.a (.m (.v 2) (.v 2)) (.m (.v 2) (.v 4))) (.m (.v 4) (.v 4))))] (.m (.s (.s (.s (.m (.v 6) (.v 6)) (.v 0)) (.v 2)) (.v 4)) (.m (.a (.v 6) (.v 7)) (.s (.v 6) (.v 8)))) (.m (.s (.s (.s (.m (.v 6) (.v 6)) (.v 0)) (.v 2)) (.v 4)) (.s (.v 0) (.v 4))) (And.intro h2.1 (And.intro h1.1 (And.intro h3.1 (And.intro h1.2 (And.intro h3.2 True.intro))))) (by kernel_rfl)
 ·refine F.mul_cancel ne ?_
  exact F.lin (fun i => [A.1, A.2, B.1, B.2, C.1, C.2, m1, m2, m3].getD i F.zero) [((.s (.v 6) (.v 8)), (.m (.v 7) (.a (.s (.m (.v 6) (.s (.v 0) (.s (.s (.m (.v 6) (.v 6)) (.v 0)) (.v 2)))) (.v 1)) (.v 5))), (.a (.a (.m (.s (.s (.m (.v 6) (.v 6)) (.v 0)) (.v 2)) (.s (.s (.m (.v 6) (.v 6)) (.v 0)) (.v 2))) (.m (.s (.s (.m (.v 6) (.v 6)) (.v 0)) (.v 2)) (.v 4))) (.m (.v 4) (.v 4)))), ((.a (.a (.s (.s (.m (.v 6) (.v 6)) (.m (.v 6) (.v 8))) (.v 0)) (.v 4)) (.m (.v 8) (.v 6))), (.m (.v 6) (.s (.v 0) (.v 2))), (.s (.v 1) (.v 3))), ((.a (.a (.s (.s (.m (.v 6) (.v 6)) (.m (.v 6) (.v 8))) (.v 0)) (.v 4)) (.m (.v 6) (.v 8))), (.m (.v 8) (.s (.v 2) (.v 4))), (.s (.v 3) (.v 5))), ((.v 8), (.m (.v 6) (.a (.v 1) (.v 3))), (.a (.a (.m (.v 0) (.v 0)) (.m (.v 0) (.v 2))) (.m (.v 2) (.v 2)))), ((.n (.v 6)), (.m (.v 8) (.a (.v 3) (.v 5))), (.a (.a (.m (.v 2) (.v 2)) (.m (.v 2) (.v 4))) (.m (.v 4) (.v 4))))] (.m (.a (.s (.m (.v 6) (.s (.v 0) (.s (.s (.m (.v 6) (.v 6)) (.v 0)) (.v 2)))) (.v 1)) (.v 5)) (.m (.a (.v 6) (.v 7)) (.s (.v 6) (.v 8)))) (.m (.a (.s (.m (.v 6) (.s (.v 0) (.s (.s (.m (.v 6) (.v 6)) (.v 0)) (.v 2)))) (.v 1)) (.v 5)) (.s (.v 0) (.v 4))) (And.intro h2.2 (And.intro h1.1 (And.intro h3.1 (And.intro h1.2 (And.intro h3.2 True.intro))))) (by kernel_rfl)
theorem same_ends {A B C : α × α} {m2 m3 : α} (h1 : F.Sl A B m3) (h3 : F.Sl B C m3) (hE : F.mul (F.add m3 m2) (F.sub m3 m3) = F.sub A.1 C.1) : A = C := by
 have ex : A.1 = C.1 := F.lin (fun i => [A.1, A.2, B.1, B.2, C.1, C.2, m3, m2].getD i F.zero) [((.n (.k 1)), (.m (.a (.v 6) (.v 7)) (.s (.v 6) (.v 6))), (.s (.v 0) (.v 4)))] (.v 0) (.v 4) (And.intro hE True.intro) (by kernel_rfl)
 exact Prod.ext ex (F.lin (fun i => [A.1, A.2, B.1, B.2, C.1, C.2, m3, m2].getD i F.zero) [((.n (.k 1)), (.m (.v 6) (.s (.v 0) (.v 2))), (.s (.v 1) (.v 3))), ((.n (.k 1)), (.m (.v 6) (.s (.v 2) (.v 4))), (.s (.v 3) (.v 5))), ((.v 6), (.v 0), (.v 4))] (.v 1) (.v 5) (And.intro h1.1 (And.intro h3.1 (And.intro ex True.intro))) (by kernel_rfl))
theorem slope_on {A B C : α × α} {m1 m2 m3 : α} (h1 : F.Sl A B m1) (h3 : F.Sl B C m3) (h2 : F.Sl (F.third A B m1) C m2) (hE : F.mul (F.add m1 m2) (F.sub m1 m3) = F.sub A.1 C.1) (ne : m3 ≠ m1) : F.Sl A (F.third B C m3) (F.sub (F.add m1 m2) m3) := by
 refine ⟨F.lin (fun i => [A.1, A.2, B.1, B.2, C.1, C.2, m1, m2, m3].getD i F.zero) [((.a (.v 6) (.v 8)), (.m (.a (.v 6) (.v 7)) (.s (.v 6) (.v 8))), (.s (.v 0) (.v 4))), ((.n (.k 1)), (.m (.v 7) (.s (.s (.s (.m (.v 6) (.v 6)) (.v 0)) (.v 2)) (.v 4))), (.s (.s (.m (.v 6) (.s (.v 0) (.s (.s (.m (.v 6) (.v 6)) (.v 0)) (.v 2)))) (.v 1)) (.v 5))), ((.k 1), (.m (.v 8) (.s (.v 2) (.v 4))), (.s (.v 3) (.v 5)))] (.m (.s (.a (.v 6) (.v 7)) (.v 8)) (.s (.v 0) (.s (.s (.m (.v 8) (.v 8)) (.v 2)) (.v 4)))) (.s (.v 1) (.s (.m (.v 8) (.s (.v 2) (.s (.s (.m (.v 8) (.v 8)) (.v 2)) (.v 4)))) (.v 3))) (And.intro hE (And.intro h2.1 (And.intro h3.1 True.intro))) (by kernel_rfl), F.mul_cancel (F.sub_ne ne) ?_⟩
 exact F.lin (fun i => [A.1, A.2, B.1, B.2, C.1, C.2, m1, m2, m3].getD i F.zero) [((.n (.a (.s (.m (.v 8) (.s (.v 2) (.s (.s (.m (.v 8) (.v 8)) (.v 2)) (.v 4)))) (.v 3)) (.v 1))), (.m (.a (.v 6) (.v 7)) (.s (.v 6) (.v 8))), (.s (.v 0) (.v 4))), ((.a (.s (.a (.s (.m (.v 8) (.v 8)) (.m (.v 6) (.v 8))) (.v 0)) (.v 4)) (.m (.v 8) (.v 6))), (.m (.v 6) (.s (.v 0) (.v 2))), (.s (.v 1) (.v 3))), ((.v 8), (.m (.v 6) (.a (.v 1) (.v 3))), (.a (.a (.m (.v 0) (.v 0)) (.m (.v 0) (.v 2))) (.m (.v 2) (.v 2)))), ((.n (.v 6)), (.m (.v 8) (.a (.v 3) (.v 5))), (.a (.a (.m (.v 2) (.v 2)) (.m (.v 2) (.v 4))) (.m (.v 4) (.v 4)))), ((.m (.v 6) (.v 8)), (.m (.v 8) (.s (.v 2) (.v 4))), (.s (.v 3) (.v 5)))] (.m (.s (.v 8) (.v 6)) (.m (.s (.a (.v 6) (.v 7)) (.v 8)) (.a (.v 1) (.s (.m (.v 8) (.s (.v 2) (.s (.s (.m (.v 8) (.v 8)) (.v 2)) (.v 4)))) (.v 3))))) (.m (.s (.v 8) (.v 6)) (.a (.a (.m (.v 0) (.v 0)) (.m (.v 0) (.s (.s (.m (.v 8) (.v 8)) (.v 2)) (.v 4)))) (.m (.s (.s (.m (.v 8) (.v 8)) (.v 2)) (.v 4)) (.s (.s (.m (.v 8) (.v 8)) (.v 2)) (.v 4))))) (And.intro hE (And.intro h1.1 (And.intro h1.2 (And.intro h3.2 (And.intro h3.1 True.intro))))) (by kernel_rfl)
theorem same_third {A B C : α × α} {m1 m2 m3 : α} (h1 : F.Sl A B m1) (h3 : F.Sl B C m3) (h2 : F.Sl (F.third A B m1) C m2) (hE : F.mul (F.add m1 m2) (F.sub m1 m3) = F.sub A.1 C.1) : F.third (F.third A B m1) C m2 = F.third A (F.third B C m3) (F.sub (F.add m1 m2) m3) :=
 Prod.ext (F.lin (fun i => [A.1, A.2, B.1, B.2, C.1, C.2, m1, m2, m3].getD i F.zero) [((.n (.k 2)), (.m (.a (.v 6) (.v 7)) (.s (.v 6) (.v 8))), (.s (.v 0) (.v 4)))] (.s (.s (.m (.v 7) (.v 7)) (.s (.s (.m (.v 6) (.v 6)) (.v 0)) (.v 2))) (.v 4)) (.s (.s (.m (.s (.a (.v 6) (.v 7)) (.v 8)) (.s (.a (.v 6) (.v 7)) (.v 8))) (.v 0)) (.s (.s (.m (.v 8) (.v 8)) (.v 2)) (.v 4))) (And.intro hE True.intro) (by kernel_rfl))
  (F.lin (fun i => [A.1, A.2, B.1, B.2, C.1, C.2, m1, m2, m3].getD i F.zero) [((.n (.k 1)), (.m (.v 6) (.s (.v 0) (.v 2))), (.s (.v 1) (.v 3))), ((.n (.k 1)), (.m (.v 8) (.s (.v 2) (.v 4))), (.s (.v 3) (.v 5))), ((.k 1), (.m (.v 7) (.s (.s (.s (.m (.v 6) (.v 6)) (.v 0)) (.v 2)) (.v 4))), (.s (.s (.m (.v 6) (.s (.v 0) (.s (.s (.m (.v 6) (.v 6)) (.v 0)) (.v 2)))) (.v 1)) (.v 5))), ((.s (.a (.v 6) (.m (.k 3) (.v 7))) (.m (.k 2) (.v 8))), (.m (.a (.v 6) (.v 7)) (.s (.v 6) (.v 8))), (.s (.v 0) (.v 4)))] (.s (.m (.v 7) (.s (.s (.s (.m (.v 6) (.v 6)) (.v 0)) (.v 2)) (.s (.s (.m (.v 7) (.v 7)) (.s (.s (.m (.v 6) (.v 6)) (.v 0)) (.v 2))) (.v 4)))) (.s (.m (.v 6) (.s (.v 0) (.s (.s (.m (.v 6) (.v 6)) (.v 0)) (.v 2)))) (.v 1))) (.s (.m (.s (.a (.v 6) (.v 7)) (.v 8)) (.s (.v 0) (.s (.s (.m (.s (.a (.v 6) (.v 7)) (.v 8)) (.s (.a (.v 6) (.v 7)) (.v 8))) (.v 0)) (.s (.s (.m (.v 8) (.v 8)) (.v 2)) (.v 4))))) (.v 1)) (And.intro h1.1 (And.intro h3.1 (And.intro h2.1 (And.intro hE True.intro)))) (by kernel_rfl))
def minus : Option (α × α) → Option (α × α)
 | none => none
 | some A => some (F.agst A)
def OnO (b : α) : Option (α × α) → Prop
 | none => True
 | some A => F.On b A
def Odd (b : α) : Prop := ∀ q : α × α, F.On b q → q.2 ≠ F.zero
theorem minus_on {b : α} : ∀ {P : Option (α × α)}, F.OnO b P → F.OnO b (F.minus P)
 | none, _ => trivial
 | some _, h => F.agst_on h
theorem minus_minus : ∀ P : Option (α × α), F.minus (F.minus P) = P
 | none => rfl
 | some A => congrArg some (F.agst_agst A)
theorem opp_comm {A B : α × α} (h : opp A B) : opp B A := ⟨h.1.symm, Ne.symm h.2⟩
end
section
variable {α : Type} (F : Fd α) [DecidableEq α]
def slope (A B : α × α) : α := if A.1 = B.1 then F.mul (F.add (F.add (F.mul A.1 A.1) (F.mul A.1 A.1)) (F.mul A.1 A.1)) (F.inv (F.add A.2 A.2)) else F.mul (F.sub B.2 A.2) (F.inv (F.sub B.1 A.1))
def plus : Option (α × α) → Option (α × α) → Option (α × α)
 | none, Q => Q
 | some A, none => some A
 | some A, some B => if A.1 = B.1 ∧ (A.2 = F.zero ∨ A.2 ≠ B.2) then none else some (F.third A B (F.slope A B))
variable {F} {b : α}
theorem slope_sl {A B : α × α} (ho : F.Odd b) (hA : F.On b A) (hB : F.On b B) (h : ¬ opp A B) : F.Sl A B (F.slope A B) := by
 unfold slope
 split
 ·rename_i h1
  have h2 : A.2 = B.2 := Classical.byContradiction fun k => h ⟨h1, k⟩
  have e : A = B := Prod.ext h1 h2
  rw [← e]
  exact F.sl_tangent (by rw [F.mul_assoc, F.mul_comm (F.inv _), F.mul_inv _ (F.twice_ne (ho A hA)), F.mul_one])
 ·rename_i h1
  exact F.sl_chord hA hB h1 (by rw [F.mul_assoc, F.mul_comm (F.inv _), F.mul_inv _ (F.sub_ne (Ne.symm h1)), F.mul_one])
theorem plus_opp {A B : α × α} (h : opp A B) : F.plus (some A) (some B) = none := if_pos ⟨h.1, .inr h.2⟩
theorem plus_some {A B : α × α} {m : α} (ho : F.Odd b) (hA : F.On b A) (hB : F.On b B) (h : ¬ opp A B) (hm : F.Sl A B m) : F.plus (some A) (some B) = some (F.third A B m) := by
 have e := F.sl_one (slope_sl ho hA hB h) hm (F.not_opp hA hB (ho A hA) h)
 have hn : ¬ (A.1 = B.1 ∧ (A.2 = F.zero ∨ A.2 ≠ B.2)) := fun k => k.2.elim (ho A hA) fun k2 => h ⟨k.1, k2⟩
 show (if _ then none else _) = _
 rw [if_neg hn, e]
theorem plus_comm (ho : F.Odd b) : ∀ {P Q : Option (α × α)}, F.OnO b P → F.OnO b Q → F.plus P Q = F.plus Q P
 | none, none, _, _ => rfl
 | none, some _, _, _ => rfl
 | some _, none, _, _ => rfl
 | some A, some B, hA, hB => by
  by_cases h : opp A B
  ·rw [plus_opp h, plus_opp (opp_comm h)]
  ·have s := slope_sl ho hA hB h
   rw [plus_some ho hA hB h s, plus_some ho hB hA (fun k => h (opp_comm k)) (F.sl_comm s), F.third_comm s]
theorem plus_on (ho : F.Odd b) : ∀ {P Q : Option (α × α)}, F.OnO b P → F.OnO b Q → F.OnO b (F.plus P Q)
 | none, _, _, hQ => hQ
 | some _, none, hP, _ => hP
 | some A, some B, hA, hB => by
  by_cases h : opp A B
  ·rw [plus_opp h]; trivial
  ·have s := slope_sl ho hA hB h
   rw [plus_some ho hA hB h s]
   exact F.third_on hA s
theorem plus_none (P : Option (α × α)) : F.plus P none = P := by cases P <;> rfl
theorem plus_minus (ho : F.Odd b) : ∀ {P : Option (α × α)}, F.OnO b P → F.plus P (F.minus P) = none
 | none, _ => rfl
 | some A, h => plus_opp (F.agst_opp (ho A h))
theorem minus_plus (ho : F.Odd b) : ∀ {P Q : Option (α × α)}, F.OnO b P → F.OnO b Q → F.plus (F.minus P) (F.minus Q) = F.minus (F.plus P Q)
 | none, _, _, _ => rfl
 | some _, none, _, _ => rfl
 | some A, some B, hA, hB => by
  show F.plus (some (F.agst A)) (some (F.agst B)) = _
  by_cases h : opp A B
  ·rw [plus_opp h, plus_opp (F.opp_agst_iff.2 h)]; rfl
  ·have s := slope_sl ho hA hB h
   rw [plus_some ho hA hB h s, plus_some ho (F.agst_on hA) (F.agst_on hB) (fun k => h (F.opp_agst_iff.1 k)) (F.sl_agst s), F.third_agst]
   rfl
theorem back (ho : F.Odd b) : ∀ {P Q : Option (α × α)}, F.OnO b P → F.OnO b Q → F.plus (F.minus P) (F.plus P Q) = Q
 | none, _, _, _ => rfl
 | some B, none, hB, _ => by
  show F.plus (some (F.agst B)) (some B) = none
  exact plus_opp (opp_comm (F.agst_opp (ho B hB)))
 | some B, some C, hB, hC => by
  show F.plus (some (F.agst B)) _ = _
  by_cases h : opp B C
  ·rw [plus_opp h, F.opp_agst hB hC h]; rfl
  ·have s := slope_sl ho hB hC h
   rw [plus_some ho hB hC h s, plus_some ho (F.agst_on hB) (F.third_on hB s) F.back_opp (F.sl_back s), F.third_back s]
theorem back_comm (ho : F.Odd b) {P Q : Option (α × α)} (hP : F.OnO b P) (hQ : F.OnO b Q) : F.plus (F.plus Q P) (F.minus P) = Q := by
 rw [plus_comm ho (plus_on ho hQ hP) (F.minus_on hP), plus_comm ho hQ hP, back ho hP hQ]
theorem plus_assoc (ho : F.Odd b) : ∀ {P Q R : Option (α × α)}, F.OnO b P → F.OnO b Q → F.OnO b R → F.plus (F.plus P Q) R = F.plus P (F.plus Q R)
 | none, _, _, _, _, _ => rfl
 | some _, none, _, _, _, _ => rfl
 | some A, some B, none, _, _, _ => plus_none _
 | some A, some B, some C, hA, hB, hC => by
  by_cases hAB : opp A B
  ·have e := F.opp_agst hA hB hAB
   rw [plus_opp hAB, e]
   have k := back (P := some (F.agst A)) (Q := some C) ho (F.agst_on hA) hC
   rw [show F.minus (some (F.agst A)) = some A from congrArg some (F.agst_agst A)] at k
   exact k.symm
  by_cases hBC : opp B C
  ·have e := F.opp_agst hB hC hBC
   rw [plus_opp hBC, e]
   exact back_comm (P := some B) (Q := some A) ho hB hA
  have s1 := slope_sl ho hA hB hAB
  have s3 := slope_sl ho hB hC hBC
  have hS := F.third_on hA s1
  have hV := F.third_on hB s3
  have eS := plus_some ho hA hB hAB s1
  have eV := plus_some ho hB hC hBC s3
  generalize F.slope A B = m1 at *
  generalize F.slope B C = m3 at *
  by_cases hSC : opp (F.third A B m1) C
  ·rw [eS, plus_opp hSC]
   have e : some C = F.minus (F.plus (some A) (some B)) := by rw [eS, F.opp_agst hS hC hSC]; rfl
   have k : F.plus (some B) (some C) = F.minus (some A) := by
    have k1 := minus_plus (P := F.minus (some B)) (Q := F.plus (some B) (some A)) ho (F.minus_on (P := some B) hB) (plus_on (P := some B) (Q := some A) ho hB hA)
    rw [back (P := some B) (Q := some A) ho hB hA, F.minus_minus] at k1
    rw [e, plus_comm (P := some A) (Q := some B) ho hA hB, k1]
   rw [k]
   exact (plus_minus (P := some A) ho hA).symm
  by_cases hAV : opp A (F.third B C m3)
  ·rw [eV, plus_opp hAV]
   have e : F.plus (some B) (some C) = F.minus (some A) := by rw [eV, F.opp_agst hA hV hAV]; rfl
   have k : some C = F.minus (F.plus (some A) (some B)) := by
    have k1 := back (P := some B) (Q := some C) ho hB hC
    rw [e, minus_plus (P := some B) (Q := some A) ho hB hA, plus_comm (P := some B) (Q := some A) ho hB hA] at k1
    exact k1.symm
   rw [k]
   exact plus_minus ho (plus_on (P := some A) (Q := some B) ho hA hB)
  rw [eS, eV]
  have s2 := slope_sl ho hS hC hSC
  generalize F.slope (F.third A B m1) C = m2 at *
  have hE := F.slopes s1 s3 s2 (F.not_opp hS hC (ho _ hS) hSC)
  by_cases hm : m3 = m1
  ·subst hm
   have hAC := F.same_ends s1 s3 hE
   subst hAC
   rw [← eS, ← eV, plus_comm (P := some A) (Q := some B) ho hA hB]
   exact plus_comm (P := F.plus (some B) (some A)) (Q := some A) ho (plus_on (P := some B) (Q := some A) ho hB hA) hA
  ·rw [plus_some ho hS hC hSC s2, plus_some ho hA hV hAV (F.slope_on s1 s3 s2 hE hm), F.same_third s1 s3 s2 hE]
end
end Fd
end Go.Proofs.YtdajgcgliidjbaaGreat
namespace Go.Proofs.YtdajgcgliidjbaaGreat
open Go.RowKit
abbrev PF (p : Nat) : Type := {x : Pn // InP2 p x}
theorem addP_comm (n : Nat) (x y : Pn) : addP n x y = addP n y x := by unfold addP; rw [Nat.add_comm x.1, Nat.add_comm x.2]
theorem addP_assoc (n : Nat) (x y z : Pn) : addP n (addP n x y) z = addP n x (addP n y z) := by
 unfold addP
 refine Prod.ext ?_ ?_
 ·show ((x.1 + y.1) % n + z.1) % n = (x.1 + (y.1 + z.1) % n) % n
  rw [Nat.mod_add_mod, Nat.add_mod_mod, Nat.add_assoc]
 ·show ((x.2 + y.2) % n + z.2) % n = (x.2 + (y.2 + z.2) % n) % n
  rw [Nat.mod_add_mod, Nat.add_mod_mod, Nat.add_assoc]
theorem addP_none {n : Nat} {x : Pn} (h : InP2 n x) : addP n x (0, 0) = x := Prod.ext (Nat.mod_eq_of_lt h.1) (Nat.mod_eq_of_lt h.2)
theorem mulP_one {n : Nat} {x : Pn} (h : InP2 n x) : mulP n x (1, 0) = x := by
 unfold mulP
 refine Prod.ext ?_ ?_
 ·show (x.1 * 1 % n + n - x.2 * 0 % n) % n = x.1
  rw [Nat.mul_one, Nat.mul_zero, Nat.zero_mod, Nat.sub_zero, Nat.add_mod_right, Nat.mod_mod, Nat.mod_eq_of_lt h.1]
 ·show (x.1 * 0 % n + x.2 * 1 % n) % n = x.2
  rw [Nat.mul_zero, Nat.zero_mod, Nat.zero_add, Nat.mul_one, Nat.mod_mod, Nat.mod_eq_of_lt h.2]
theorem subP_neg {n : Nat} {x y : Pn} (hy : InP2 n y) : subP n x y = addP n x (negP n y) := by
 obtain ⟨h1, h2⟩ := hy
 unfold subP addP negP subP
 refine Prod.ext ?_ ?_
 ·show (x.1 + n - y.1) % n = (x.1 + (0 + n - y.1) % n) % n
  rw [Nat.add_mod_mod, show x.1 + (0 + n - y.1) = x.1 + n - y.1 by omega]
 ·show (x.2 + n - y.2) % n = (x.2 + (0 + n - y.2) % n) % n
  rw [Nat.add_mod_mod, show x.2 + (0 + n - y.2) = x.2 + n - y.2 by omega]
theorem norm_none {p : Nat} (h : Prm p) (h4 : p % 4 = 3) {x : Pn} (hx : InP2 p x) (hd : p ∣ normP p x) : x = (0, 0) := by
 have h0 : 0 < p := by have := h.1; omega
 have e : (x.1 * x.1 + x.2 * x.2) % p = 0 := by
  have k := Nat.eq_zero_of_dvd_of_lt hd (Nat.mod_lt _ h0)
  unfold normP at k
  rw [← Nat.add_mod] at k
  exact k
 obtain ⟨d1, d2⟩ := h.two_squares h4 (Nat.dvd_of_mod_eq_zero e)
 exact Prod.ext (Nat.eq_zero_of_dvd_of_lt d1 hx.1) (Nat.eq_zero_of_dvd_of_lt d2 hx.2)
theorem gcd_norm {p : Nat} (h : Prm p) (h4 : p % 4 = 3) {x : Pn} (hx : InP2 p x) (hne : x ≠ (0, 0)) : Nat.gcd p (normP p x) = 1 := h.cop fun hd => hne (norm_none h h4 hx hd)
theorem mul_inv7 {p : Nat} (h : Prm p) (h4 : p % 4 = 3) {x : Pn} (hx : InP2 p x) (hne : x ≠ (0, 0)) : mulP p x (inv7 x p) = (1, 0) := by
 have hp := h.1
 have hg := gcd_norm h h4 hx hne
 unfold inv7
 rw [if_pos hg]
 exact mul_invP hp hx (inv_of (normP_lt (by omega) x) hp hg).2
def pairF {p : Nat} (h : Prm p) (h4 : p % 4 = 3) : Fd (PF p) where
 add x y := ⟨addP p x.1 y.1, addP_in (by omega) _ _⟩
 mul x y := ⟨mulP p x.1 y.1, mulP_in (by omega) _ _⟩
 neg x := ⟨negP p x.1, negP_in (by omega) _⟩
 zero := ⟨(0, 0), zero_in (by omega)⟩
 one := ⟨(1, 0), by have := h.1; exact ⟨by show 1 < p; omega, by show 0 < p; omega⟩⟩
 inv x := ⟨inv7 x.1 p, inv7_in (by omega)⟩
 add_comm x y := Subtype.ext (addP_comm _ _ _)
 add_assoc x y z := Subtype.ext (addP_assoc _ _ _ _)
 add_zero x := Subtype.ext (addP_none x.2)
 add_neg x := Subtype.ext (add_negP (by omega) x.2)
 mul_comm x y := Subtype.ext (mulP_comm (by omega) _ _)
 mul_assoc x y z := Subtype.ext (mulP_assoc (by omega) x.2 z.2)
 mul_one x := Subtype.ext (mulP_one x.2)
 mul_add x y z := Subtype.ext (mulP_addP (by omega) x.2)
 mul_inv x hx := Subtype.ext (mul_inv7 h h4 x.2 fun e => hx (Subtype.ext e))
 two_ne e := by
  have k : (1 + 1) % p = 0 := congrArg (fun x : PF p => x.1.1) e
  have h3 : 3 ≤ p := by omega
  rw [Nat.mod_eq_of_lt (by omega)] at k
  omega
abbrev P2 := Option (Pn × Pn)
def lineP (p : Nat) (A B : Pn × Pn) (u d : Pn) : Pn × Pn :=
  (subP p (subP p (mulP p (mulP p u (inv7 d p)) (mulP p u (inv7 d p))) A.1) B.1,
   subP p (mulP p (mulP p u (inv7 d p)) (subP p A.1 (subP p (subP p (mulP p (mulP p u (inv7 d p)) (mulP p u (inv7 d p))) A.1) B.1))) A.2)
def tripleP (p : Nat) (x : Pn) : Pn := addP p (addP p (mulP p x x) (mulP p x x)) (mulP p x x)
def plusP (p : Nat) : P2 → P2 → P2
 | none, Q => Q
 | some A, none => some A
 | some A, some B => if subP p B.1 A.1 = (0, 0) then (if A.2 = (0, 0) ∨ subP p B.2 A.2 ≠ (0, 0) then none else some (lineP p A B (tripleP p A.1) (addP p A.2 A.2))) else some (lineP p A B (subP p B.2 A.2) (subP p B.1 A.1))
def minusP (p : Nat) : P2 → P2
 | none => none
 | some A => some (A.1, negP p A.2)
def onP (p : Nat) (b : Pn) : P2 → Prop
 | none => True
 | some A => InP2 p A.1 ∧ InP2 p A.2 ∧ mulP p A.2 A.2 = rightP p b A.1
section
variable {p : Nat} (h : Prm p) (h4 : p % 4 = 3)
def numsP (Q : Option (PF p × PF p)) : P2 := Q.map fun A => (A.1.1, A.2.1)
theorem sub_val (x y : PF p) : ((pairF h h4).sub x y).1 = subP p x.1 y.1 := (subP_neg y.2).symm
theorem sub_none (h : Prm p) (h4 : p % 4 = 3) {x y : PF p} : subP p x.1 y.1 = (0, 0) ↔ x = y := by
 refine ⟨fun e => (pairF h h4).sub_eq (Subtype.ext ((sub_val h h4 x y).trans e)), fun e => ?_⟩
 rw [e, ← sub_val h h4 y y, (pairF h h4).sub_self]
 rfl
theorem line_val (A B : PF p × PF p) (u d : PF p) (m : PF p) (hm : m = (pairF h h4).mul u ((pairF h h4).inv d)) : ((((pairF h h4).third A B m)).1.1, (((pairF h h4).third A B m)).2.1) = lineP p (A.1.1, A.2.1) (B.1.1, B.2.1) u.1 d.1 := by
 subst hm
 unfold Fd.third Fd.thirdX lineP
 refine Prod.ext ?_ ?_
 ·simp only [sub_val]
  rfl
 ·simp only [sub_val]
  rw [show ∀ x y : PF p, ((pairF h h4).mul x y).1 = mulP p x.1 y.1 from fun _ _ => rfl, sub_val, sub_val, sub_val]
  rfl
theorem plus_val (P Q : Option (PF p × PF p)) : numsP ((pairF h h4).plus P Q) = plusP p (numsP P) (numsP Q) := by
 cases P with
 | none => rfl
 | some A =>
  cases Q with
  | none => rfl
  | some B =>
   show numsP (if A.1 = B.1 ∧ (A.2 = (pairF h h4).zero ∨ A.2 ≠ B.2) then none else some ((pairF h h4).third A B ((pairF h h4).slope A B))) = plusP p (some (A.1.1, A.2.1)) (some (B.1.1, B.2.1))
   unfold plusP
   simp only
   by_cases hx : A.1 = B.1
   ·rw [if_pos ((sub_none h h4).2 hx.symm)]
    by_cases hy : A.2 = (pairF h h4).zero ∨ A.2 ≠ B.2
    ·rw [if_pos ⟨hx, hy⟩, if_pos]
     ·rfl
     ·rcases hy with hy | hy
      ·exact .inl (congrArg Subtype.val hy)
      ·exact .inr fun e => hy ((sub_none h h4).1 e).symm
    ·rw [if_neg (fun k => hy k.2), if_neg]
     ·refine congrArg some ((line_val h h4 A B _ _ _ (by unfold Fd.slope; rw [if_pos hx])).trans ?_)
      rfl
     ·rintro (k | k)
      ·exact hy (.inl (Subtype.ext k))
      ·exact k ((sub_none h h4).2 (Classical.byContradiction fun e => hy (.inr fun e2 => e e2.symm)))
   ·rw [if_neg (fun k => hx k.1), if_neg (fun k => hx ((sub_none h h4).1 k).symm)]
    refine congrArg some ((line_val h h4 A B _ _ _ (by unfold Fd.slope; rw [if_neg hx])).trans ?_)
    rw [sub_val, sub_val]
theorem minus_val (P : Option (PF p × PF p)) : numsP ((pairF h h4).minus P) = minusP p (numsP P) := by cases P <;> rfl
theorem on_val {b : PF p} {P : Option (PF p × PF p)} : (pairF h h4).OnO b P ↔ onP p b.1 (numsP P) := by
 cases P with
 | none => exact Iff.rfl
 | some A => exact ⟨fun e => ⟨A.1.2, A.2.2, congrArg Subtype.val e⟩, fun e => Subtype.ext e.2.2⟩
theorem of_on {b : Pn} {P : P2} (hP : onP p b P) : ∃ Q : Option (PF p × PF p), numsP Q = P := by
 cases P with
 | none => exact ⟨none, rfl⟩
 | some A => exact ⟨some (⟨A.1, hP.1⟩, ⟨A.2, hP.2.1⟩), rfl⟩
end
structure SumLaws (p : Nat) (b : Pn) : Prop where
 on : ∀ {P Q : P2}, onP p b P → onP p b Q → onP p b (plusP p P Q)
 neg : ∀ {P : P2}, onP p b P → onP p b (minusP p P)
 comm : ∀ {P Q : P2}, onP p b P → onP p b Q → plusP p P Q = plusP p Q P
 assoc : ∀ {P Q R : P2}, onP p b P → onP p b Q → onP p b R → plusP p (plusP p P Q) R = plusP p P (plusP p Q R)
 against : ∀ {P : P2}, onP p b P → plusP p P (minusP p P) = none
 none : ∀ P : P2, plusP p P none = P
 twice : ∀ {P : P2}, onP p b P → minusP p (minusP p P) = P
 odd : ∀ {A : Pn × Pn}, onP p b (some A) → A.2 ≠ (0, 0)
theorem sum_laws {p : Nat} (h : Prm p) (h4 : p % 4 = 3) {b : PF p} (ho : (pairF h h4).Odd b) : SumLaws p b.1 := by
 refine ⟨?_, ?_, ?_, ?_, ?_, ?_, ?_, ?_⟩
 ·intro P Q hP hQ
  obtain ⟨P, rfl⟩ := of_on hP
  obtain ⟨Q, rfl⟩ := of_on hQ
  rw [← plus_val h h4]
  exact (on_val h h4).1 (Fd.plus_on ho ((on_val h h4).2 hP) ((on_val h h4).2 hQ))
 ·intro P hP
  obtain ⟨P, rfl⟩ := of_on hP
  rw [← minus_val h h4]
  exact (on_val h h4).1 (Fd.minus_on _ ((on_val h h4).2 hP))
 ·intro P Q hP hQ
  obtain ⟨P, rfl⟩ := of_on hP
  obtain ⟨Q, rfl⟩ := of_on hQ
  rw [← plus_val h h4, ← plus_val h h4, Fd.plus_comm ho ((on_val h h4).2 hP) ((on_val h h4).2 hQ)]
 ·intro P Q R hP hQ hR
  obtain ⟨P, rfl⟩ := of_on hP
  obtain ⟨Q, rfl⟩ := of_on hQ
  obtain ⟨R, rfl⟩ := of_on hR
  rw [← plus_val h h4, ← plus_val h h4, ← plus_val h h4, ← plus_val h h4, Fd.plus_assoc ho ((on_val h h4).2 hP) ((on_val h h4).2 hQ) ((on_val h h4).2 hR)]
 ·intro P hP
  obtain ⟨P, rfl⟩ := of_on hP
  rw [← minus_val h h4, ← plus_val h h4, Fd.plus_minus ho ((on_val h h4).2 hP)]
  rfl
 ·intro P; cases P <;> rfl
 ·intro P hP
  obtain ⟨P, rfl⟩ := of_on hP
  rw [← minus_val h h4, ← minus_val h h4, Fd.minus_minus]
 ·intro A hA e
  obtain ⟨Q, hQ⟩ := of_on hA
  cases Q with
  | none => cases hQ
  | some B =>
   have eA : (B.1.1, B.2.1) = A := Option.some.inj hQ
   rw [← eA] at hA e
   exact ho B ((on_val h h4 (P := some B)).2 hA) (Subtype.ext e)
theorem odd_of {p : Nat} (h : Prm p) (h4 : p % 4 = 3) {b : PF p} (f : Nat) (h3 : p % 3 = 1) (hf : (p - 1) / 3 < 2 ^ f) (hc : pm p f (normP p b.1) ((p - 1) / 3) ≠ 1 ∧ pm p f (normP p b.1) ((p - 1) / 3) ≠ 0) : (pairF h h4).Odd b := by
 intro q hq e
 have h0 : 0 < p := by omega
 have e1 : (pairF h h4).mul ((pairF h h4).mul ((pairF h h4).neg q.1) ((pairF h h4).neg q.1)) ((pairF h h4).neg q.1) = b := by
  have k : (pairF h h4).mul q.2 q.2 = (pairF h h4).add ((pairF h h4).mul ((pairF h h4).mul q.1 q.1) q.1) b := hq
  rw [e] at k
  rw [(pairF h h4).mul_zero] at k
  have k2 := (pairF h h4).neg_of k.symm
  rw [k2]
  exact (pairF h h4).ring (fun _ => q.1) (.m (.m (.n (.v 0)) (.n (.v 0))) (.n (.v 0))) (.n (.m (.m (.v 0) (.v 0)) (.v 0))) (by kernel_rfl)
 have e2 : mulP p (mulP p (negP p q.1.1) (negP p q.1.1)) (negP p q.1.1) = b.1 := congrArg Subtype.val e1
 generalize negP p q.1.1 = y at *
 have e3 : normP p b.1 = normP p y * normP p y % p * normP p y % p := by rw [← e2, normP_mul h0, normP_mul h0]
 rw [pm_eq _ _ _ _ hf, e3] at hc
 generalize normP p y = n at *
 have e4 : (n * n % p * n % p) ^ ((p - 1) / 3) % p = n ^ (p - 1) % p := by
  rw [← Nat.pow_mod, Nat.pow_mod (n * n % p * n), Nat.mul_mod, Nat.mod_mod, ← Nat.mul_mod, ← Nat.pow_mod, show n * n * n = n ^ 3 by rw [Nat.pow_succ, Nat.pow_succ, Nat.pow_one], ← Nat.pow_mul, show 3 * ((p - 1) / 3) = p - 1 by omega]
 rw [e4] at hc
 by_cases hd : p ∣ n
 ·refine hc.2 ?_
  have hp1 : 0 < p - 1 := by have := h.1; omega
  exact Nat.mod_eq_zero_of_dvd (Nat.dvd_trans hd (Nat.dvd_trans (by rw [Nat.pow_one]; exact Nat.dvd_refl n : n ∣ n ^ 1) (Nat.pow_dvd_pow n (by omega))))
 ·exact hc.1 (h.fermat1 hd)
structure CurveSums (id : Int) : Prop where
 prm : Prm (gV (cvPT id))
 m4 : gV (cvPT id) % 4 = 3
 base : SumLaws (gV (cvPT id)) (gV (cvBT id), 0)
 pair : SumLaws (gV (cvPT id)) (valP (cvKT id))
theorem curve_sums {id : Int} (h : cvB id = true) : CurveSums id := by
 have hp := (primeB_p (curve_says h).p).2.prm
 have k : gV (cvPT id) % 4 = 3 ∧ gV (cvPT id) % 3 = 1 ∧ (gV (cvPT id) - 1) / 3 < 2 ^ 400 ∧ gV (cvBT id) < gV (cvPT id) ∧ (valP (cvKT id)).1 < gV (cvPT id) ∧ (valP (cvKT id)).2 < gV (cvPT id) ∧
   (pm (gV (cvPT id)) 400 (normP (gV (cvPT id)) (gV (cvBT id), 0)) ((gV (cvPT id) - 1) / 3) ≠ 1 ∧ pm (gV (cvPT id)) 400 (normP (gV (cvPT id)) (gV (cvBT id), 0)) ((gV (cvPT id) - 1) / 3) ≠ 0) ∧
   (pm (gV (cvPT id)) 400 (normP (gV (cvPT id)) (valP (cvKT id))) ((gV (cvPT id) - 1) / 3) ≠ 1 ∧ pm (gV (cvPT id)) 400 (normP (gV (cvPT id)) (valP (cvKT id))) ((gV (cvPT id) - 1) / 3) ≠ 0) := by
  rcases four_ids h with rfl | rfl | rfl | rfl
  ·exact ⟨by decide +kernel, by decide +kernel, by decide +kernel, by decide +kernel, by decide +kernel, by decide +kernel, by decide +kernel, by decide +kernel⟩
  ·exact ⟨by decide +kernel, by decide +kernel, by decide +kernel, by decide +kernel, by decide +kernel, by decide +kernel, by decide +kernel, by decide +kernel⟩
  ·exact ⟨by decide +kernel, by decide +kernel, by decide +kernel, by decide +kernel, by decide +kernel, by decide +kernel, by decide +kernel, by decide +kernel⟩
  ·exact ⟨by decide +kernel, by decide +kernel, by decide +kernel, by decide +kernel, by decide +kernel, by decide +kernel, by decide +kernel, by decide +kernel⟩
 obtain ⟨k4, k3, kf, kb, kk1, kk2, c1, c2⟩ := k
 have h0 : 0 < gV (cvPT id) := by have := hp.1; omega
 exact ⟨hp, k4, sum_laws hp k4 (odd_of hp k4 (b := ⟨(gV (cvBT id), 0), kb, h0⟩) 400 k3 kf c1), sum_laws hp k4 (odd_of hp k4 (b := ⟨valP (cvKT id), kk1, kk2⟩) 400 k3 kf c2)⟩
end Go.Proofs.YtdajgcgliidjbaaGreat

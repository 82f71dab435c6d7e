import Derived.Test.YtkmmlfocidfghaaMAll
namespace Go.Proofs.Ytkmmlfocidfghaa
structure Fd (α : Type) where
  add : α → α → α
  mul : α → α → α
  neg : α → α
  zero : α
  one : α
  inv : α → α
  add_comm : ∀ a b, add a b = add b a
  add_assoc : ∀ a b c, add (add a b) c = add a (add b c)
  add_zero : ∀ a, add a zero = a
  add_neg : ∀ a, add a (neg a) = zero
  mul_comm : ∀ a b, mul a b = mul b a
  mul_assoc : ∀ a b c, mul (mul a b) c = mul a (mul b c)
  mul_one : ∀ a, mul a one = a
  mul_add : ∀ a b c, mul a (add b c) = add (mul a b) (mul a c)
  mul_inv : ∀ a, a ≠ zero → mul a (inv a) = one
  two_ne : add one one ≠ zero
namespace Fd
section
variable {α : Type} (F : Fd α)
def num : Nat → α
  | 0 => F.zero
  | k + 1 => F.add (num k) F.one
def sub (a b : α) : α := F.add a (F.neg b)
theorem zero_add (a : α) : F.add F.zero a = a := by rw [F.add_comm, F.add_zero]
theorem add_left_comm (a b c : α) : F.add a (F.add b c) = F.add b (F.add a c) := by rw [← F.add_assoc, F.add_comm a b, F.add_assoc]
theorem mul_left_comm (a b c : α) : F.mul a (F.mul b c) = F.mul b (F.mul a c) := by rw [← F.mul_assoc, F.mul_comm a b, F.mul_assoc]
theorem neg_add_self (a : α) : F.add (F.neg a) a = F.zero := by rw [F.add_comm, F.add_neg]
theorem add_cancel {a b c : α} (h : F.add a b = F.add a c) : b = c := by
  have e := congrArg (F.add (F.neg a)) h
  rw [← F.add_assoc, ← F.add_assoc, F.neg_add_self, F.zero_add, F.zero_add] at e
  exact e
theorem mul_zero (a : α) : F.mul a F.zero = F.zero := by
  have e : F.add (F.mul a F.zero) (F.mul a F.zero) = F.add (F.mul a F.zero) F.zero := by rw [← F.mul_add, F.add_zero, F.add_zero]
  exact F.add_cancel e
theorem zero_mul (a : α) : F.mul F.zero a = F.zero := by rw [F.mul_comm, F.mul_zero]
theorem one_mul (a : α) : F.mul F.one a = a := by rw [F.mul_comm, F.mul_one]
theorem add_mul (a b c : α) : F.mul (F.add a b) c = F.add (F.mul a c) (F.mul b c) := by rw [F.mul_comm, F.mul_add, F.mul_comm c a, F.mul_comm c b]
theorem neg_of {a b : α} (h : F.add a b = F.zero) : b = F.neg a := F.add_cancel (h.trans (F.add_neg a).symm)
theorem neg_mul (a b : α) : F.mul (F.neg a) b = F.neg (F.mul a b) := F.neg_of (by rw [← F.add_mul, F.add_neg, F.zero_mul])
theorem mul_neg (a b : α) : F.mul a (F.neg b) = F.neg (F.mul a b) := by rw [F.mul_comm, F.neg_mul, F.mul_comm]
theorem neg_neg (a : α) : F.neg (F.neg a) = a := (F.neg_of (F.neg_add_self a)).symm
theorem neg_zero : F.neg F.zero = F.zero := (F.neg_of (F.add_zero F.zero)).symm
theorem neg_add (a b : α) : F.neg (F.add a b) = F.add (F.neg a) (F.neg b) :=
  (F.neg_of (by rw [F.add_assoc, F.add_left_comm b, F.add_neg, F.add_zero, F.add_neg])).symm
theorem num_add (a b : Nat) : F.num (a + b) = F.add (F.num a) (F.num b) := by
  induction b with
  | zero => exact (F.add_zero _).symm
  | succ k ih =>
    show F.add (F.num (a + k)) F.one = F.add (F.num a) (F.add (F.num k) F.one)
    rw [ih, F.add_assoc]
theorem num_mul (a b : Nat) : F.num (a * b) = F.mul (F.num a) (F.num b) := by
  induction b with
  | zero => exact (F.mul_zero _).symm
  | succ k ih =>
    rw [Nat.mul_succ, F.num_add, ih]
    show _ = F.mul (F.num a) (F.add (F.num k) F.one)
    rw [F.mul_add, F.mul_one]
theorem sub_eq {a b : α} (h : F.sub a b = F.zero) : a = b := by
  have e := F.neg_of h
  rw [← F.neg_neg a, ← e, F.neg_neg]
/-- A coefficient: what is added and what is taken away. -/
def cf (p q : Nat) : α := F.add (F.num p) (F.neg (F.num q))
theorem cf_add (p q p' q' : Nat) : F.cf (p + p') (q + q') = F.add (F.cf p q) (F.cf p' q') := by
  unfold cf
  rw [F.num_add, F.num_add, F.neg_add, F.add_assoc, F.add_assoc, F.add_left_comm (F.num p')]
theorem cf_neg (p q : Nat) : F.cf q p = F.neg (F.cf p q) := by
  unfold cf
  rw [F.neg_add, F.neg_neg, F.add_comm]
theorem cf_same (p : Nat) : F.cf p p = F.zero := F.add_neg _
theorem cf_mul (p q p' q' : Nat) : F.cf (p * p' + q * q') (p * q' + q * p') = F.mul (F.cf p q) (F.cf p' q') := by
  unfold cf
  rw [F.num_add, F.num_add, F.num_mul, F.num_mul, F.num_mul, F.num_mul, F.add_mul, F.mul_add, F.mul_add, F.mul_neg, F.neg_mul, F.neg_mul, F.mul_neg, F.neg_neg, F.neg_add, F.add_assoc, F.add_assoc]
  congr 1
  rw [F.add_left_comm]
  congr 1
  rw [F.add_comm]
variable (ρ : Nat → α)
def mon : List Nat → α
  | [] => F.one
  | i :: m => F.mul (ρ i) (mon m)
def insv (i : Nat) : List Nat → List Nat
  | [] => [i]
  | j :: m => if Nat.ble i j then i :: j :: m else j :: insv i m
theorem mon_insv (i : Nat) : ∀ m : List Nat, F.mon ρ (insv i m) = F.mul (ρ i) (F.mon ρ m)
  | [] => rfl
  | j :: m => by
    unfold insv
    split
    · rfl
    · show F.mul (ρ j) (F.mon ρ (insv i m)) = F.mul (ρ i) (F.mul (ρ j) (F.mon ρ m))
      rw [mon_insv i m, F.mul_left_comm]
def mmul : List Nat → List Nat → List Nat
  | [], k => k
  | i :: m, k => insv i (mmul m k)
theorem mon_mmul : ∀ m k : List Nat, F.mon ρ (mmul m k) = F.mul (F.mon ρ m) (F.mon ρ k)
  | [], k => (F.one_mul _).symm
  | i :: m, k => by
    show F.mon ρ (insv i (mmul m k)) = F.mul (F.mul (ρ i) (F.mon ρ m)) (F.mon ρ k)
    rw [mon_insv, mon_mmul m k, F.mul_assoc]
abbrev Tm := List Nat × Nat × Nat
def term (t : Tm) : α := F.mul (F.cf t.2.1 t.2.2) (F.mon ρ t.1)
def sem : List Tm → α
  | [] => F.zero
  | t :: P => F.add (F.term ρ t) (sem P)
def sameL : List Nat → List Nat → Bool
  | [], [] => true
  | i :: m, j :: k => Nat.beq i j && sameL m k
  | _, _ => false
theorem sameL_eq : ∀ {m k : List Nat}, sameL m k = true → m = k
  | [], [], _ => rfl
  | i :: m, j :: k, h => by
    simp only [sameL, Bool.and_eq_true] at h
    rw [Nat.eq_of_beq_eq_true h.1, sameL_eq h.2]
  | [], _ :: _, h => by cases h
  | _ :: _, [], h => by cases h
def ins (t : Tm) : List Tm → List Tm
  | [] => [t]
  | u :: P => if sameL t.1 u.1 then (u.1, t.2.1 + u.2.1, t.2.2 + u.2.2) :: P else u :: ins t P
theorem sem_ins (t : Tm) : ∀ P : List Tm, F.sem ρ (ins t P) = F.add (F.term ρ t) (F.sem ρ P)
  | [] => rfl
  | u :: P => by
    unfold ins
    split
    · rename_i h
      have e := sameL_eq h
      show F.add (F.mul (F.cf _ _) _) _ = F.add (F.mul _ (F.mon ρ t.1)) (F.add (F.mul _ _) _)
      rw [F.cf_add, F.add_mul, F.add_assoc, e]
    · show F.add _ (F.sem ρ (ins t P)) = F.add _ (F.add _ _)
      rw [sem_ins t P, F.add_left_comm]
def padd : List Tm → List Tm → List Tm
  | [], Q => Q
  | t :: P, Q => ins t (padd P Q)
theorem sem_padd : ∀ P Q : List Tm, F.sem ρ (padd P Q) = F.add (F.sem ρ P) (F.sem ρ Q)
  | [], Q => (F.zero_add _).symm
  | t :: P, Q => by
    show F.sem ρ (ins t (padd P Q)) = F.add (F.add _ _) _
    rw [sem_ins, sem_padd P Q, F.add_assoc]
def scale (t : Tm) : List Tm → List Tm
  | [] => []
  | u :: P => (mmul t.1 u.1, t.2.1 * u.2.1 + t.2.2 * u.2.2, t.2.1 * u.2.2 + t.2.2 * u.2.1) :: scale t P
theorem sem_scale (t : Tm) : ∀ P : List Tm, F.sem ρ (scale t P) = F.mul (F.term ρ t) (F.sem ρ P)
  | [] => (F.mul_zero _).symm
  | u :: P => by
    show F.add (F.mul (F.cf _ _) (F.mon ρ (mmul _ _))) (F.sem ρ (scale t P)) = F.mul _ (F.add (F.mul _ _) _)
    rw [sem_scale t P, F.cf_mul, mon_mmul, F.mul_add]
    congr 1
    unfold term
    rw [F.mul_assoc, F.mul_assoc, F.mul_left_comm (F.cf u.2.1 u.2.2)]
def pmul : List Tm → List Tm → List Tm
  | [], _ => []
  | t :: P, Q => padd (scale t Q) (pmul P Q)
theorem sem_pmul : ∀ P Q : List Tm, F.sem ρ (pmul P Q) = F.mul (F.sem ρ P) (F.sem ρ Q)
  | [], Q => (F.zero_mul _).symm
  | t :: P, Q => by
    show F.sem ρ (padd (scale t Q) (pmul P Q)) = F.mul (F.add _ _) _
    rw [sem_padd, sem_scale, sem_pmul P Q, F.add_mul]
def pneg : List Tm → List Tm
  | [] => []
  | t :: P => (t.1, t.2.2, t.2.1) :: pneg P
theorem sem_pneg : ∀ P : List Tm, F.sem ρ (pneg P) = F.neg (F.sem ρ P)
  | [] => F.neg_zero.symm
  | t :: P => by
    show F.add (F.mul (F.cf t.2.2 t.2.1) (F.mon ρ t.1)) (F.sem ρ (pneg P)) = F.neg (F.add (F.mul (F.cf t.2.1 t.2.2) _) _)
    rw [sem_pneg P, F.neg_add, F.cf_neg, F.neg_mul]
/-- What is written of polynomials. -/
inductive Ex where
  | v (i : Nat)
  | k (n : Nat)
  | a (x y : Ex)
  | m (x y : Ex)
  | s (x y : Ex)
  | n (x : Ex)
def ev : Ex → α
  | .v i => ρ i
  | .k n => F.num n
  | .a x y => F.add (ev x) (ev y)
  | .m x y => F.mul (ev x) (ev y)
  | .s x y => F.sub (ev x) (ev y)
  | .n x => F.neg (ev x)
def nf : Ex → List Tm
  | .v i => [([i], 1, 0)]
  | .k n => [([], n, 0)]
  | .a x y => padd (nf x) (nf y)
  | .m x y => pmul (nf x) (nf y)
  | .s x y => padd (nf x) (pneg (nf y))
  | .n x => pneg (nf x)
theorem cf_num (n : Nat) : F.cf n 0 = F.num n := by unfold cf; rw [show F.num 0 = F.zero from rfl, F.neg_zero, F.add_zero]
theorem num_one : F.num 1 = F.one := F.zero_add _
theorem sem_nf : ∀ x : Ex, F.sem ρ (nf x) = F.ev ρ x
  | .v i => by
    show F.add (F.mul (F.cf 1 0) (F.mul (ρ i) F.one)) F.zero = ρ i
    rw [F.add_zero, F.mul_one, F.cf_num, F.num_one, F.one_mul]
  | .k n => by
    show F.add (F.mul (F.cf n 0) F.one) F.zero = F.num n
    rw [F.add_zero, F.mul_one, F.cf_num]
  | .a x y => by
    show F.sem ρ (padd (nf x) (nf y)) = F.add (F.ev ρ x) (F.ev ρ y)
    rw [sem_padd, sem_nf x, sem_nf y]
  | .m x y => by
    show F.sem ρ (pmul (nf x) (nf y)) = F.mul (F.ev ρ x) (F.ev ρ y)
    rw [sem_pmul, sem_nf x, sem_nf y]
  | .s x y => by
    show F.sem ρ (padd (nf x) (pneg (nf y))) = F.add (F.ev ρ x) (F.neg (F.ev ρ y))
    rw [sem_padd, sem_pneg, sem_nf x, sem_nf y]
  | .n x => by
    show F.sem ρ (pneg (nf x)) = F.neg (F.ev ρ x)
    rw [sem_pneg, sem_nf x]
def allSame : List Tm → Bool
  | [] => true
  | t :: P => Nat.beq t.2.1 t.2.2 && allSame P
theorem sem_same : ∀ {P : List Tm}, allSame P = true → F.sem ρ P = F.zero
  | [], _ => rfl
  | t :: P, h => by
    simp only [allSame, Bool.and_eq_true] at h
    show F.add (F.mul (F.cf t.2.1 t.2.2) _) _ = F.zero
    rw [sem_same h.2, Nat.eq_of_beq_eq_true h.1, F.cf_same, F.zero_mul, F.add_zero]
/-- Both are the same polynomial. -/
theorem ring (x y : Ex) (h : allSame (nf (.s x y)) = true) : F.ev ρ x = F.ev ρ y := F.sub_eq (by
  have e := F.sem_same ρ h
  rw [sem_nf] at e
  exact e)
/-- What follows of equations, by their multiples. -/
def left : List (Ex × Ex × Ex) → Ex
  | [] => .k 0
  | t :: T => .a (.m t.1 t.2.1) (left T)
def right : List (Ex × Ex × Ex) → Ex
  | [] => .k 0
  | t :: T => .a (.m t.1 t.2.2) (right T)
def holds : List (Ex × Ex × Ex) → Prop
  | [] => True
  | t :: T => F.ev ρ t.2.1 = F.ev ρ t.2.2 ∧ holds T
theorem sides : ∀ {T : List (Ex × Ex × Ex)}, F.holds ρ T → F.ev ρ (left T) = F.ev ρ (right T)
  | [], _ => rfl
  | t :: T, h => by
    show F.add (F.mul _ _) _ = F.add (F.mul _ _) _
    rw [h.1, sides h.2]
theorem lin (T : List (Ex × Ex × Ex)) (x y : Ex) (hT : F.holds ρ T) (h : allSame (nf (.s (.a x (right T)) (.a y (left T)))) = true) : F.ev ρ x = F.ev ρ y := by
  have e : F.add (F.ev ρ x) (F.ev ρ (right T)) = F.add (F.ev ρ y) (F.ev ρ (left T)) := F.ring ρ _ _ h
  rw [sides F ρ hT, F.add_comm, F.add_comm (F.ev ρ y)] at e
  exact F.add_cancel e
end
section
variable {α : Type} (F : Fd α)
theorem mul_cancel {a b c : α} (ha : a ≠ F.zero) (h : F.mul a b = F.mul a c) : b = c := by
  have e := congrArg (F.mul (F.inv a)) h
  rw [← F.mul_assoc, ← F.mul_assoc, F.mul_comm (F.inv a), F.mul_inv a ha, F.one_mul, F.one_mul] at e
  exact e
theorem mul_none {a b : α} (ha : a ≠ F.zero) (h : F.mul a b = F.zero) : b = F.zero := F.mul_cancel ha (h.trans (F.mul_zero a).symm)
theorem sub_self (a : α) : F.sub a a = F.zero := F.add_neg a
theorem sub_ne {a b : α} (h : a ≠ b) : F.sub a b ≠ F.zero := fun e => h (F.sub_eq e)
theorem twice_ne {a : α} (h : a ≠ F.zero) : F.add a a ≠ F.zero := fun e => h (by
  have e2 : F.mul (F.add F.one F.one) a = F.zero := by rw [F.add_mul, F.one_mul, e]
  exact F.mul_none F.two_ne e2)
end
end Fd
end Go.Proofs.Ytkmmlfocidfghaa

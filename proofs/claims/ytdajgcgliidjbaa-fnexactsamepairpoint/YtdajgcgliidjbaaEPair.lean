import Derived.Test.YtdajgcgliidjbaaMAll
import Derived.Test.YtdajgcgliidjbaaUBase
import Derived.Test.YtdajgcgliidjbaaILow
import Derived.Test.YtdajgcgliidjbaaYMath
/-
  A field by its laws; equations of polynomials over it, by a normal form that the kernel computes.
-/
namespace Go.Proofs.Ytdajgcgliidjbaa
structure Fd (α : Type) where
  add : α → α → α
  mul : α → α → α
  neg : α → α
  zero : α
  one : α
  inv : α → α
  add_comm : ∀ a b, add a b = add b a
  add_assoc : ∀ a b c, add (add a b) c = add a (add b c)
  add_zero : ∀ a, add a zero = a
  add_neg : ∀ a, add a (neg a) = zero
  mul_comm : ∀ a b, mul a b = mul b a
  mul_assoc : ∀ a b c, mul (mul a b) c = mul a (mul b c)
  mul_one : ∀ a, mul a one = a
  mul_add : ∀ a b c, mul a (add b c) = add (mul a b) (mul a c)
  mul_inv : ∀ a, a ≠ zero → mul a (inv a) = one
  two_ne : add one one ≠ zero
namespace Fd
section
variable {α : Type} (F : Fd α)
theorem zero_add (a : α) : F.add F.zero a = a := by rw [F.add_comm, F.add_zero]
theorem add_mul (a b c : α) : F.mul (F.add a b) c = F.add (F.mul a c) (F.mul b c) := by rw [F.mul_comm, F.mul_add, F.mul_comm c a, F.mul_comm c b]
variable (ρ : Nat → α)
inductive Ex where
  | v (i : Nat)
  | k (n : Nat)
  | a (x y : Ex)
  | m (x y : Ex)
  | s (x y : Ex)
  | n (x : Ex)
end
section
variable {α : Type} (F : Fd α)
end
end Fd
end Go.Proofs.Ytdajgcgliidjbaa
/-
  The group of a curve y y = x x x + b over a field, where no point has y = 0: sums are added in any order.
-/
namespace Go.Proofs.Ytdajgcgliidjbaa
namespace Fd
section
variable {α : Type} (F : Fd α)
end
section
variable {α : Type} (F : Fd α) [DecidableEq α]
variable {F} {b : α}
end
end Fd
end Go.Proofs.Ytdajgcgliidjbaa
/-
  Pairs over a prime that leaves 3 as a field; sums of points as numbers; no point of the curves has Y = 0.
-/
namespace Go.Proofs.Ytdajgcgliidjbaa
open Go.RowKit
section
variable {p : Nat} (h : Prm p) (h4 : p % 4 = 3)
end
end Go.Proofs.Ytdajgcgliidjbaa

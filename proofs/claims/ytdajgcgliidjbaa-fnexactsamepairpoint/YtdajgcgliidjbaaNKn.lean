import Derived.Test.YtdajgcgliidjbaaNArith
/-
  The contract of spec.l02Left.
-/
namespace Go.Proofs.Ytdajgcgliidjbaa
open Go.RowKit
end Go.Proofs.Ytdajgcgliidjbaa
/-
  Long division over limbs, as plain lemmas: the guess, its correction, the subtraction, the adding back.
-/
namespace Go.Proofs.Ytdajgcgliidjbaa
open Go.RowKit
structure Top (X V P top u3 v1 v2 : Nat) : Prop where
  hP : 0 < P
  hX : X / P = top * 16777216 + u3
  hV : V / P = v1 * 16777216 + v2
  h1 : 8388608 ≤ v1
  h1' : v1 < 16777216
  h2 : v2 < 16777216
  h3 : u3 < 16777216
  hlt : X < V * 16777216
namespace Top
variable {X V P top u3 v1 v2 : Nat}
theorem VD (t : Top X V P top u3 v1 v2) : (v1 * 16777216 + v2) * P ≤ V := by rw [← t.hV]; exact Nat.div_mul_le_self V P
theorem XT' (t : Top X V P top u3 v1 v2) : X < (top * 16777216 + u3 + 1) * P := by
  rw [← t.hX]; have := Nat.div_add_mod X P; have := Nat.mod_lt X t.hP; rw [Nat.add_mul, Nat.mul_comm (X / P)]; omega
theorem qT (t : Top X V P top u3 v1 v2) : X / V * (v1 * 16777216 + v2) ≤ top * 16777216 + u3 := by
  have a := Nat.div_mul_le_self X V
  have b := Nat.mul_le_mul_left (X / V) t.VD
  have c := t.XT'
  rw [← Nat.mul_assoc] at b
  have : X / V * (v1 * 16777216 + v2) * P < (top * 16777216 + u3 + 1) * P := by omega
  have := Nat.lt_of_mul_lt_mul_right this
  omega
theorem q1 (t : Top X V P top u3 v1 v2) : X / V * v1 ≤ top := by
  have a := t.qT
  have h3 := t.h3
  rw [Nat.mul_add, ← Nat.mul_assoc] at a
  generalize X / V * v1 = p at *
  generalize X / V * v2 = p2 at *
  omega
end Top
end Go.Proofs.Ytdajgcgliidjbaa
/-
  Long division over limbs, the lists: the window's top, the subtraction, the adding back, one step, the whole.
-/
namespace Go.Proofs.Ytdajgcgliidjbaa
open Go.RowKit
end Go.Proofs.Ytdajgcgliidjbaa
/-
  The contract of spec.l02Div: what is less, and one limb.
-/
namespace Go.Proofs.Ytdajgcgliidjbaa
open Go.RowKit
end Go.Proofs.Ytdajgcgliidjbaa
/-
  The contract of spec.l02Div by one limb.
-/
namespace Go.Proofs.Ytdajgcgliidjbaa
open Go.RowKit
end Go.Proofs.Ytdajgcgliidjbaa
/-
  The three rows that long division holds, as one fact that walks along.
-/
namespace Go.Proofs.Ytdajgcgliidjbaa
open Go.RowKit
end Go.Proofs.Ytdajgcgliidjbaa

import Derived.WalkKit
import Derived.ProofKit
import Derived.Deep.AppendLies
import Derived.Lib.UnsafeStr
import Derived.Laws.IdiomStrings
import Derived.Laws.BytesArg
/-
  Great numbers as plain lists: bN (bytes, the highest first), gT (the one text of a number), limbs of 24 bits (lV, limbs), okG.
-/
namespace Go.Proofs.Ytdajgcgliidjbaa
open Go.RowKit
end Go.Proofs.Ytdajgcgliidjbaa
/-
  Limbs of 32 bits and long division over them, as plain lemmas (the same as for limbs of 24 bits, in a namespace of their own).
-/
namespace Go.Proofs.Ytdajgcgliidjbaa
open Go.RowKit
namespace W
structure Top (X V P top u3 v1 v2 : Nat) : Prop where
  hP : 0 < P
  hX : X / P = top * 4294967296 + u3
  hV : V / P = v1 * 4294967296 + v2
  h1 : 2147483648 ≤ v1
  h1' : v1 < 4294967296
  h2 : v2 < 4294967296
  h3 : u3 < 4294967296
  hlt : X < V * 4294967296
namespace Top
variable {X V P top u3 v1 v2 : Nat}
theorem VD (t : Top X V P top u3 v1 v2) : (v1 * 4294967296 + v2) * P ≤ V := by rw [← t.hV]; exact Nat.div_mul_le_self V P
theorem XT' (t : Top X V P top u3 v1 v2) : X < (top * 4294967296 + u3 + 1) * P := by
  rw [← t.hX]; have := Nat.div_add_mod X P; have := Nat.mod_lt X t.hP; rw [Nat.add_mul, Nat.mul_comm (X / P)]; omega
theorem qT (t : Top X V P top u3 v1 v2) : X / V * (v1 * 4294967296 + v2) ≤ top * 4294967296 + u3 := by
  have a := Nat.div_mul_le_self X V
  have b := Nat.mul_le_mul_left (X / V) t.VD
  have c := t.XT'
  rw [← Nat.mul_assoc] at b
  have : X / V * (v1 * 4294967296 + v2) * P < (top * 4294967296 + u3 + 1) * P := by omega
  have := Nat.lt_of_mul_lt_mul_right this
  omega
theorem q1 (t : Top X V P top u3 v1 v2) : X / V * v1 ≤ top := by
  have a := t.qT
  have h3 := t.h3
  rw [Nat.mul_add, ← Nat.mul_assoc] at a
  generalize X / V * v1 = p at *
  generalize X / V * v2 = p2 at *
  omega
end Top
end W
end Go.Proofs.Ytdajgcgliidjbaa

/-
  Long division over limbs, as plain lemmas: the guess, its correction, the subtraction, the adding back.
-/
import Derived.Test.YtkpcocdflcpnoaaNMul
namespace Go.Proofs.Ytkpcocdflcpnoaa
open Go.RowKit

/-! Limbs by division. -/
theorem lV_div {l : List Nat} (h : Limbs l) (k : Nat) : lV l / 16777216 ^ k = lV (l.drop k) := by
  have hp : 0 < 16777216 ^ k := Nat.pow_pos (by omega)
  by_cases hk : k ≤ l.length
  · rw [lV_split l k, Nat.min_eq_left hk, Nat.add_mul_div_left _ _ hp]
    have := lV_lt (h.take k)
    rw [List.length_take, Nat.min_eq_left hk] at this
    rw [Nat.div_eq_of_lt this]; omega
  · rw [List.drop_of_length_le (by omega)]
    have := lV_lt h
    have : 16777216 ^ l.length ≤ 16777216 ^ k := Nat.pow_le_pow_right (by omega) (by omega)
    rw [Nat.div_eq_of_lt (by omega)]; rfl
theorem lV_dig {l : List Nat} (h : Limbs l) (k : Nat) : lV l / 16777216 ^ k = l.getD k 0 + 16777216 * (lV l / 16777216 ^ (k + 1)) := by
  rw [lV_div h, lV_div h]
  by_cases hk : k < l.length
  · rw [List.drop_eq_getElem_cons hk, lV_cons, getD_eq hk]
  · rw [List.drop_of_length_le (by omega), List.drop_of_length_le (by omega), List.getD_eq_getElem?_getD, List.getElem?_eq_none (by omega)]; rfl
theorem high_zero {l : List Nat} (h : Limbs l) {m : Nat} (hl : lV l < 16777216 ^ m) {k : Nat} (hk : m ≤ k) : l.getD k 0 = 0 := by
  have e := lV_dig h k
  have : 16777216 ^ m ≤ 16777216 ^ k := Nat.pow_le_pow_right (by omega) hk
  rw [Nat.div_eq_of_lt (by omega)] at e
  omega
theorem lV_zeros {l : List Nat} (h : ∀ x ∈ l, x = 0) : lV l = 0 := by
  induction l with
  | nil => rfl
  | cons x r ih => rw [lV_cons, h x (by simp), ih (fun y hy => h y (by simp [hy]))]
theorem low_of_zero {l : List Nat} (h : Limbs l) {m : Nat} (hz : ∀ k, m ≤ k → l.getD k 0 = 0) : lV l < 16777216 ^ m := by
  have hp : 0 < 16777216 ^ m := Nat.pow_pos (by omega)
  have e := lV_div h m
  have z : lV (l.drop m) = 0 := lV_zeros fun x hx => by
    obtain ⟨i, hi, rfl⟩ := List.getElem_of_mem hx
    rw [List.length_drop] at hi
    have := hz (m + i) (by omega)
    rw [getD_eq (by omega)] at this
    rw [List.getElem_drop]; exact this
  rw [z] at e
  rcases Nat.lt_or_ge (lV l) (16777216 ^ m) with h | h
  · exact h
  · have := Nat.div_pos h hp; omega

/-! The guess. X is what stands in the window, V the divisor, P the weight of their third limb from above. -/
structure Top (X V P top u3 v1 v2 : Nat) : Prop where
  hP : 0 < P
  hX : X / P = top * 16777216 + u3
  hV : V / P = v1 * 16777216 + v2
  h1 : 8388608 ≤ v1
  h1' : v1 < 16777216
  h2 : v2 < 16777216
  h3 : u3 < 16777216
  hlt : X < V * 16777216
namespace Top
variable {X V P top u3 v1 v2 : Nat}
theorem Vpos (t : Top X V P top u3 v1 v2) : P * 16777216 ≤ V := by
  have := Nat.div_mul_le_self V P
  rw [t.hV] at this
  have h : 16777216 * P ≤ (v1 * 16777216 + v2) * P := Nat.mul_le_mul_right _ (by have := t.h1; omega)
  rw [Nat.mul_comm P]; omega
theorem Vpos' (t : Top X V P top u3 v1 v2) : 0 < V := by have := t.Vpos; have := t.hP; omega
theorem qd (t : Top X V P top u3 v1 v2) : X / V < 16777216 := (Nat.div_lt_iff_lt_mul t.Vpos').2 (by rw [Nat.mul_comm]; exact t.hlt)
theorem VD (t : Top X V P top u3 v1 v2) : (v1 * 16777216 + v2) * P ≤ V := by rw [← t.hV]; exact Nat.div_mul_le_self V P
theorem VD' (t : Top X V P top u3 v1 v2) : V < (v1 * 16777216 + v2 + 1) * P := by
  rw [← t.hV]; have := Nat.div_add_mod V P; have := Nat.mod_lt V t.hP; rw [Nat.add_mul, Nat.mul_comm (V / P)]; omega
theorem XT (t : Top X V P top u3 v1 v2) : (top * 16777216 + u3) * P ≤ X := by rw [← t.hX]; exact Nat.div_mul_le_self X P
theorem XT' (t : Top X V P top u3 v1 v2) : X < (top * 16777216 + u3 + 1) * P := by
  rw [← t.hX]; have := Nat.div_add_mod X P; have := Nat.mod_lt X t.hP; rw [Nat.add_mul, Nat.mul_comm (X / P)]; omega
/-- The quotient times the divisor's two limbs. -/
theorem qT (t : Top X V P top u3 v1 v2) : X / V * (v1 * 16777216 + v2) ≤ top * 16777216 + u3 := by
  have a := Nat.div_mul_le_self X V
  have b := Nat.mul_le_mul_left (X / V) t.VD
  have c := t.XT'
  rw [← Nat.mul_assoc] at b
  have : X / V * (v1 * 16777216 + v2) * P < (top * 16777216 + u3 + 1) * P := by omega
  have := Nat.lt_of_mul_lt_mul_right this
  omega
theorem q1 (t : Top X V P top u3 v1 v2) : X / V * v1 ≤ top := by
  have a := t.qT
  have h3 := t.h3
  rw [Nat.mul_add, ← Nat.mul_assoc] at a
  generalize X / V * v1 = p at *
  generalize X / V * v2 = p2 at *
  omega
theorem top_lt (t : Top X V P top u3 v1 v2) : top < v1 * 16777216 + 16777216 := by
  have a := t.XT
  have b := t.VD'
  have c := t.hlt
  have d : V * 16777216 < (v1 * 16777216 + v2 + 1) * P * 16777216 := Nat.mul_lt_mul_of_pos_right b (by omega)
  have e : (top * 16777216 + u3) * P < (v1 * 16777216 + v2 + 1) * 16777216 * P := by rw [Nat.mul_right_comm]; omega
  have := Nat.lt_of_mul_lt_mul_right e
  have := t.h2
  omega
/-- A guess that is too great is seen. -/
theorem more (t : Top X V P top u3 v1 v2) {g r : Nat} (h : g * v1 + r = top) (h2 : r * 16777216 + u3 < g * v2) : X / V < g := by
  have e : top * 16777216 + u3 < g * (v1 * 16777216 + v2) := by
    have h' : g * v1 * 16777216 + r * 16777216 = top * 16777216 := by rw [← Nat.add_mul, h]
    rw [Nat.mul_add, ← Nat.mul_assoc, ← h', Nat.add_assoc]
    exact Nat.add_lt_add_left h2 _
  exact Nat.lt_of_mul_lt_mul_right (Nat.lt_of_le_of_lt t.qT e)
theorem less (t : Top X V P top u3 v1 v2) {g r : Nat} (h : g * v1 + r = top) (hg : g ≤ 16777216) (h2 : g * v2 ≤ r * 16777216 + u3) : g ≤ X / V + 1 := by
  have e : g * (v1 * 16777216 + v2) ≤ top * 16777216 + u3 := by
    have h' : g * v1 * 16777216 + r * 16777216 = top * 16777216 := by rw [← Nat.add_mul, h]
    rw [Nat.mul_add, ← Nat.mul_assoc, ← h', Nat.add_assoc]
    exact Nat.add_le_add_left h2 _
  have a := Nat.le_trans (Nat.mul_le_mul_right P e) t.XT
  have b : g * V < g * ((v1 * 16777216 + v2 + 1) * P) ∨ g = 0 := by
    rcases Nat.eq_zero_or_pos g with h | h
    · exact .inr h
    · exact .inl (Nat.mul_lt_mul_of_pos_left t.VD' h)
  rcases b with b | b
  · have c : g * P ≤ 16777216 * P := Nat.mul_le_mul_right _ hg
    have d : g * ((v1 * 16777216 + v2 + 1) * P) = g * (v1 * 16777216 + v2) * P + g * P := by rw [Nat.add_mul _ 1 P, Nat.one_mul, Nat.mul_add, ← Nat.mul_assoc]
    have f := t.Vpos
    rw [Nat.mul_comm P] at f
    have hx := Nat.lt_div_mul_add (a := X) t.Vpos'
    have : g * V < (X / V + 2) * V := by
      rw [Nat.add_mul]
      generalize X / V * V = z at *
      generalize g * V = z2 at *
      generalize g * P = z3 at *
      generalize g * (v1 * 16777216 + v2) * P = z4 at *
      omega
    have := Nat.lt_of_mul_lt_mul_right this
    omega
  · rw [b]; exact Nat.zero_le _
theorem past (t : Top X V P top u3 v1 v2) {g r : Nat} (h : g * v1 + r = top) (hr : 16777216 ≤ r) (hg : g ≤ 16777216) : g ≤ X / V := by
  rw [Nat.le_div_iff_mul_le t.Vpos']
  have a := t.XT
  have b : V ≤ (v1 + 1) * 16777216 * P := by
    have := t.VD'
    have h2 := t.h2
    have : (v1 * 16777216 + v2 + 1) * P ≤ (v1 + 1) * 16777216 * P := Nat.mul_le_mul_right _ (by omega)
    omega
  have c := Nat.mul_le_mul_left g b
  have d : g * ((v1 + 1) * 16777216 * P) ≤ top * 16777216 * P := by
    rw [← Nat.mul_assoc, ← Nat.mul_assoc]
    refine Nat.mul_le_mul_right _ (Nat.mul_le_mul_right _ ?_)
    rw [Nat.mul_add]; omega
  have e : top * 16777216 * P ≤ (top * 16777216 + u3) * P := Nat.mul_le_mul_right _ (by omega)
  omega
theorem first (t : Top X V P top u3 v1 v2) : X / V ≤ top / v1 ∧ top / v1 ≤ 16777217 := by
  have h1 := t.h1
  refine ⟨(Nat.le_div_iff_mul_le (by omega)).2 t.q1, ?_⟩
  have := (Nat.div_lt_iff_lt_mul (k := v1) (x := top) (y := 16777218) (by omega)).2 (by have := t.top_lt; omega)
  omega
end Top
end Go.Proofs.Ytkpcocdflcpnoaa

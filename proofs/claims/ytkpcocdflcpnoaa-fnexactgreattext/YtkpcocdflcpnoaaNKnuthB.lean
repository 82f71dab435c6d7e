/-
  Long division over limbs, the lists: the window's top, the subtraction, the adding back, one step, the whole.
-/
import Derived.Test.YtkpcocdflcpnoaaNKnuth
namespace Go.Proofs.Ytkpcocdflcpnoaa
open Go.RowKit

/-- What the rows hold with j limbs of the quotient to come. -/
structure DivRel (u0 : Nat) (v : List Nat) (n j m : Nat) (U q : List Nat) : Prop where
  lU : Limbs U
  lq : Limbs q
  nU : U.length = m + n
  nq : q.length = m
  sum : u0 = lV v * lV q + lV U
  lt : lV U < lV v * 16777216 ^ j
  zero : ∀ k, k < j → q.getD k 0 = 0
/-- The divisor. -/
structure Dvr (v : List Nat) (n : Nat) : Prop where
  lv : Limbs v
  nv : v.length = n
  two : 2 ≤ n
  top : 8388608 ≤ v.getD (n - 1) 0
theorem Dvr.lt {v : List Nat} {n : Nat} (d : Dvr v n) : lV v < 16777216 ^ n := by have := lV_lt d.lv; rw [d.nv] at this; exact this
theorem window {u0 n j m : Nat} {v U q : List Nat} (d : Dvr v n) (r : DivRel u0 v n (j + 1) m U q) : lV U < 16777216 ^ (j + n + 1) := by
  have a := r.lt
  have b := Nat.mul_lt_mul_of_pos_right d.lt (Nat.pow_pos (n := j + 1) (show 0 < 16777216 by omega))
  rw [← Nat.pow_add, show n + (j + 1) = j + n + 1 from by omega] at b
  omega
theorem top_of {u0 n j m : Nat} {v U q : List Nat} (d : Dvr v n) (r : DivRel u0 v n (j + 1) m U q) :
    Top (lV U / 16777216 ^ j) (lV v) (16777216 ^ (n - 2)) (U.getD (j + n) 0 * 16777216 + U.getD (j + n - 1) 0) (U.getD (j + n - 2) 0) (v.getD (n - 1) 0) (v.getD (n - 2) 0) := by
  have h2 := d.two
  have w := window d r
  refine ⟨Nat.pow_pos (by omega), ?_, ?_, d.top, getD_lt d.lv _, getD_lt d.lv _, getD_lt r.lU _, ?_⟩
  · rw [Nat.div_div_eq_div_mul, ← Nat.pow_add]
    have e1 := lV_dig r.lU (j + (n - 2))
    have e2 := lV_dig r.lU (j + (n - 2) + 1)
    have e3 := lV_dig r.lU (j + (n - 2) + 1 + 1)
    rw [show j + (n - 2) + 1 + 1 + 1 = j + n + 1 from by omega, Nat.div_eq_of_lt w] at e3
    rw [e1, e2, e3, show j + (n - 2) + 1 + 1 = j + n from by omega, show j + (n - 2) + 1 = j + n - 1 from by omega, show j + (n - 2) = j + n - 2 from by omega]
    generalize U.getD (j + n) 0 = a
    generalize U.getD (j + n - 1) 0 = b
    generalize U.getD (j + n - 2) 0 = c
    omega
  · have e1 := lV_dig d.lv (n - 2)
    have e2 := lV_dig d.lv (n - 2 + 1)
    rw [show n - 2 + 1 + 1 = n from by omega, Nat.div_eq_of_lt d.lt] at e2
    rw [e1, e2, show n - 2 + 1 = n - 1 from by omega]
    generalize v.getD (n - 1) 0 = a
    generalize v.getD (n - 2) 0 = b
    omega
  · rw [Nat.div_lt_iff_lt_mul (Nat.pow_pos (by omega)), Nat.mul_assoc, ← Nat.pow_succ']
    exact r.lt

/-! The subtraction of g times the divisor, limb by limb. -/
def MS (U v : List Nat) (j g i br : Nat) (Q : List Nat) : Prop :=
  Limbs Q ∧ Q.length = U.length ∧ lV Q + g * 16777216 ^ j * lV (v.take i) = lV U + 16777216 ^ (j + i) * br ∧ br ≤ g ∧ ∀ k, j + i ≤ k → Q.getD k 0 = U.getD k 0
theorem MS.start {U v : List Nat} (h : Limbs U) (j g : Nat) : MS U v j g 0 0 U := ⟨h, rfl, by simp [lV], Nat.zero_le _, fun _ _ => rfl⟩
theorem MS.next {U v Q : List Nat} {j g i br y br' : Nat} (h : MS U v j g i br Q) (lv : Limbs v) (hk : j + i < Q.length) (hy : y < 16777216)
    (hn : Q.getD (j + i) 0 + 16777216 * br' = g * v.getD i 0 + br + y) : MS U v j g (i + 1) br' (Q.set (j + i) y) := by
  obtain ⟨h1, h2, h3, h4, h5⟩ := h
  refine ⟨h1.set _ hy, by simp [h2], ?_, ?_, fun k hk2 => by rw [getD_set_ne _ (by omega)]; exact h5 k (by omega)⟩
  · have hs := lV_set Q (j + i) y hk
    have e : 16777216 ^ (j + i) * (Q.getD (j + i) 0 + 16777216 * br') = 16777216 ^ (j + i) * (g * v.getD i 0 + br + y) := by rw [hn]
    rw [lV_take_succ, Nat.mul_add]
    have e2 : g * 16777216 ^ j * (16777216 ^ i * v.getD i 0) = 16777216 ^ (j + i) * (g * v.getD i 0) := by
      rw [Nat.pow_add]; simp only [Nat.mul_assoc, Nat.mul_comm, Nat.mul_left_comm]
    have e3 : 16777216 ^ (j + (i + 1)) * br' = 16777216 ^ (j + i) * (16777216 * br') := by rw [← Nat.add_assoc, Nat.pow_succ, Nat.mul_assoc]
    rw [Nat.mul_add, Nat.mul_add, Nat.mul_add] at e
    rw [e2, e3]
    generalize 16777216 ^ (j + i) * (g * v.getD i 0) = z1 at *
    generalize 16777216 ^ (j + i) * (16777216 * br') = z2 at *
    generalize 16777216 ^ (j + i) * y = z3 at *
    generalize 16777216 ^ (j + i) * br = z4 at *
    generalize 16777216 ^ (j + i) * Q.getD (j + i) 0 = z5 at *
    generalize g * 16777216 ^ j * lV (v.take i) = z6 at *
    omega
  · have hv := getD_lt lv i
    have : g * v.getD i 0 ≤ g * 16777215 := Nat.mul_le_mul_left _ (by omega)
    omega
/-- The adding back is a row's sum with once the divisor. -/
def AB (Q v : List Nat) (j i c : Nat) (R : List Nat) : Prop := MulIn (List.replicate (j + 1) 1) v j Q i c R
theorem one_at (j : Nat) : (List.replicate (j + 1) 1).getD j 0 = 1 := by
  rw [List.getD_eq_getElem?_getD, List.getElem?_replicate]; simp
theorem AB.start {Q v : List Nat} (h : Limbs Q) (j : Nat) : AB Q v j 0 0 Q := ⟨h, rfl, by simp [lV], fun _ _ => rfl⟩
theorem AB.next {Q v R : List Nat} {j i c n : Nat} (h : AB Q v j i c R) (hk : j + i < R.length) (hn : n = R.getD (j + i) 0 + v.getD i 0 + c) : AB Q v j (i + 1) (n / 16777216) (R.set (j + i) (n % 16777216)) :=
  MulIn.next h hk (by rw [one_at, hn, Nat.one_mul])
/-- What one step leaves. -/
def Left1 (U v : List Nat) (j g : Nat) (R : List Nat) : Prop := Limbs R ∧ R.length = U.length ∧ lV R + lV v * (16777216 ^ j * g) = lV U ∧ lV R < lV v * 16777216 ^ j
theorem MS.low {u0 n j m g br : Nat} {v U q Q : List Nat} (d : Dvr v n) (r : DivRel u0 v n (j + 1) m U q) (h : MS U v j g (n + 1) br Q) :
    lV Q < 16777216 ^ (j + n + 1) ∧ lV Q + g * 16777216 ^ j * lV v = lV U + 16777216 ^ (j + n + 1) * br := by
  obtain ⟨h1, h2, h3, h4, h5⟩ := h
  have w := window d r
  refine ⟨low_of_zero h1 fun k hk => by rw [h5 k (by omega)]; exact high_zero r.lU w hk, ?_⟩
  rw [List.take_of_length_le (by rw [d.nv]; omega)] at h3
  exact h3
theorem fits {u0 n j m : Nat} {v U q : List Nat} (d : Dvr v n) (r : DivRel u0 v n (j + 1) m U q) {X : Nat} (hX : X = lV U / 16777216 ^ j) :
    lV v * (16777216 ^ j * (X / lV v)) ≤ lV U ∧ lV U < lV v * (16777216 ^ j * (X / lV v)) + lV v * 16777216 ^ j ∧ 0 < lV v := by
  have hv : 0 < lV v := (top_of d r).Vpos'
  have hp : 0 < 16777216 ^ j := Nat.pow_pos (by omega)
  have a := Nat.div_add_mod X (lV v)
  have b := Nat.mod_lt X hv
  have c := Nat.div_add_mod (lV U) (16777216 ^ j)
  have e := Nat.mod_lt (lV U) hp
  rw [← hX] at c
  have f : lV v * (16777216 ^ j * (X / lV v)) = 16777216 ^ j * (lV v * (X / lV v)) := by rw [Nat.mul_left_comm]
  rw [f, Nat.mul_comm (lV v) (16777216 ^ j)]
  have g1 : 16777216 ^ j * (lV v * (X / lV v)) + 16777216 ^ j * (X % lV v) = 16777216 ^ j * X := by rw [← Nat.mul_add, a]
  have g2 : 16777216 ^ j * (X % lV v + 1) ≤ 16777216 ^ j * lV v := Nat.mul_le_mul_left _ b
  rw [Nat.mul_add, Nat.mul_one] at g2
  generalize 16777216 ^ j * (lV v * (X / lV v)) = z1 at *
  generalize 16777216 ^ j * (X % lV v) = z2 at *
  generalize 16777216 ^ j * X = z3 at *
  generalize 16777216 ^ j * lV v = z4 at *
  generalize lV U % 16777216 ^ j = z5 at *
  generalize 16777216 ^ j = z6 at *
  exact ⟨by omega, by omega, hv⟩
theorem step_right {u0 n j m g : Nat} {v U q Q : List Nat} (d : Dvr v n) (r : DivRel u0 v n (j + 1) m U q) (h : MS U v j g (n + 1) 0 Q) (hg : lV U / 16777216 ^ j / lV v ≤ g) :
    g = lV U / 16777216 ^ j / lV v ∧ Left1 U v j g Q := by
  obtain ⟨lo, e⟩ := h.low d r
  obtain ⟨f1, f2, hv⟩ := fits d r rfl
  have e' : lV Q + lV v * (16777216 ^ j * g) = lV U := by
    rw [Nat.mul_zero, Nat.add_zero] at e
    rw [← e]; congr 1; rw [Nat.mul_comm g, Nat.mul_comm (lV v)]
  have hq : g = lV U / 16777216 ^ j / lV v := by
    refine Nat.le_antisymm ?_ hg
    rw [Nat.le_div_iff_mul_le hv, Nat.le_div_iff_mul_le (Nat.pow_pos (by omega))]
    have : g * lV v * 16777216 ^ j = lV v * (16777216 ^ j * g) := by simp only [Nat.mul_assoc, Nat.mul_comm, Nat.mul_left_comm]
    rw [this]; omega
  refine ⟨hq, h.1, h.2.1, e', ?_⟩
  rw [← hq] at f2
  omega
theorem step_back {u0 n j m g br c : Nat} {v U q Q R : List Nat} (d : Dvr v n) (r : DivRel u0 v n (j + 1) m U q) (h : MS U v j g (n + 1) br Q) (hbr : 0 < br)
    (hg2 : g ≤ lV U / 16777216 ^ j / lV v + 1) (ha : AB Q v j (n + 1) c R) : g = lV U / 16777216 ^ j / lV v + 1 ∧ Left1 U v j (g - 1) R := by
  obtain ⟨lo, e⟩ := h.low d r
  obtain ⟨f1, f2, hv⟩ := fits d r rfl
  have w := window d r
  have hp : 0 < 16777216 ^ j := Nat.pow_pos (by omega)
  generalize hqd : lV U / 16777216 ^ j / lV v = qd at *
  have hlow : g * 16777216 ^ j * lV v = lV v * (16777216 ^ j * g) := by simp only [Nat.mul_assoc, Nat.mul_comm]
  rw [hlow] at e
  have hge : 16777216 ^ (j + n + 1) * 1 ≤ 16777216 ^ (j + n + 1) * br := Nat.mul_le_mul_left _ hbr
  have hq : g = qd + 1 := by
    refine Nat.le_antisymm hg2 ?_
    rcases Nat.lt_or_ge qd g with h | h
    · exact h
    · exfalso
      have : lV v * (16777216 ^ j * g) ≤ lV v * (16777216 ^ j * qd) := Nat.mul_le_mul_left _ (Nat.mul_le_mul_left _ h)
      omega
  refine ⟨hq, ?_⟩
  obtain ⟨a1, a2, a3, a4⟩ := ha
  have aw : lV R < 16777216 ^ (j + n + 1) := low_of_zero a1 fun k hk => by
    rw [a4 k (by omega), h.2.2.2.2 k (by omega)]; exact high_zero r.lU w hk
  rw [one_at, Nat.one_mul, List.take_of_length_le (by rw [d.nv]; omega), ← Nat.add_assoc] at a3
  subst hq
  rw [Nat.add_sub_cancel]
  have ee : lV v * (16777216 ^ j * (qd + 1)) = lV v * (16777216 ^ j * qd) + lV v * 16777216 ^ j := by rw [Nat.mul_add, Nat.mul_one, Nat.mul_add]
  rw [ee] at e
  rw [Nat.mul_comm (16777216 ^ j) (lV v)] at a3
  have hvB : lV v * 16777216 ^ j ≤ 16777216 ^ (j + n + 1) := by
    have := Nat.mul_le_mul_right (16777216 ^ j) (Nat.le_of_lt d.lt)
    rw [← Nat.pow_add] at this
    have h2 : 16777216 ^ (n + j) ≤ 16777216 ^ (j + n + 1) := Nat.pow_le_pow_right (by omega) (by omega)
    omega
  obtain ⟨S, hS⟩ : ∃ S, lV U = lV v * (16777216 ^ j * qd) + S := ⟨lV U - lV v * (16777216 ^ j * qd), by omega⟩
  have hSlt : S < 16777216 ^ (j + n + 1) := by omega
  have key : lV R + 16777216 ^ (j + n + 1) * c = S + 16777216 ^ (j + n + 1) * br := by omega
  have hRS : lV R = S := by
    have k1 := congrArg (· % 16777216 ^ (j + n + 1)) key
    simp only [Nat.add_mul_mod_self_left] at k1
    rw [Nat.mod_eq_of_lt aw, Nat.mod_eq_of_lt hSlt] at k1
    exact k1
  exact ⟨a1, by rw [a2, h.2.1], by omega, by omega⟩
/-- One step of the whole. -/
theorem DivRel.next {u0 n j m g : Nat} {v U q R : List Nat} (r : DivRel u0 v n (j + 1) m U q) (hj : j < m) (h : Left1 U v j g R) (hg : g < 16777216) : DivRel u0 v n j m R (q.set j g) := by
  obtain ⟨h1, h2, h3, h4⟩ := h
  have hs := lV_set q j g (by rw [r.nq]; exact hj)
  rw [r.zero j (by omega), Nat.mul_zero, Nat.add_zero] at hs
  refine ⟨h1, r.lq.set _ hg, by rw [h2, r.nU], by rw [List.length_set, r.nq], ?_, h4, fun k hk => by rw [getD_set_ne _ (by omega)]; exact r.zero k (by omega)⟩
  rw [r.sum, hs, Nat.mul_add]
  generalize lV v * (16777216 ^ j * g) = z at *
  generalize lV v * lV q = z2 at *
  omega
theorem DivRel.done {u0 n m : Nat} {v U q : List Nat} (r : DivRel u0 v n 0 m U q) : lV q = u0 / lV v ∧ lV U = u0 % lV v := by
  have h := r.lt
  rw [Nat.pow_zero, Nat.mul_one] at h
  have s := r.sum
  have hv : 0 < lV v := by omega
  constructor
  · rw [s, Nat.mul_add_div hv, Nat.div_eq_of_lt h]; omega
  · rw [s, Nat.mul_add_mod, Nat.mod_eq_of_lt h]
end Go.Proofs.Ytkpcocdflcpnoaa

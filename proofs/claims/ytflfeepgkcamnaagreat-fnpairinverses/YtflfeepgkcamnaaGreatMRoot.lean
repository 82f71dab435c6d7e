/-
  Squares and roots of rests of a prime, as plain lemmas: trial by odd numbers, Euler's criterion, two roots, and a least number that is no square.
-/
import Derived.Test.YtflfeepgkcamnaaGreatMPrimes
namespace Go.Proofs.YtflfeepgkcamnaaGreat

/-- Trial by odd numbers. -/
theorem prm_trial {n : Nat} (h3 : 3 ≤ n) (ho : n % 2 = 1) (h : ∀ k, 3 ≤ k → k % 2 = 1 → k * k ≤ n → n % k ≠ 0) : Prm n := by
  refine prm_of_roots (by omega) fun r hr hrn => ?_
  rcases Nat.lt_or_ge n (r * r) with h1 | h1
  · exact h1
  · exfalso
    have hr1 := hr.1
    have hm := Nat.mod_eq_zero_of_dvd hrn
    by_cases h2 : r % 2 = 1
    · exact h r (by omega) h2 h1 hm
    · have : 2 ∣ n := Nat.dvd_trans (Nat.dvd_of_mod_eq_zero (by omega)) hrn
      omega
theorem Prm.no_part {n k : Nat} (hp : Prm n) (h3 : 3 ≤ k) (hk : k * k ≤ n) : n % k ≠ 0 := fun h => by
  rcases hp.2 k (Nat.dvd_of_mod_eq_zero h) with e | e
  · omega
  · subst e
    have := Nat.mul_le_mul_right k h3
    omega
theorem Prm.odd {p : Nat} (hp : Prm p) (h3 : 3 ≤ p) : p % 2 = 1 := by
  rcases Nat.mod_two_eq_zero_or_one p with h | h
  · rcases hp.2 2 (Nat.dvd_of_mod_eq_zero h) with e | e <;> omega
  · exact h

/-- What squares to 1. -/
theorem Prm.sq_one {p x : Nat} (h : Prm p) (hx : x * x % p = 1) : x % p = 1 ∨ x % p = p - 1 := by
  have hp := h.1
  rcases Nat.eq_zero_or_pos x with rfl | hx1
  · simp at hx
  obtain ⟨y, rfl⟩ : ∃ y, x = y + 1 := ⟨x - 1, by omega⟩
  have hd : p ∣ y * (y + 2) := by
    refine ⟨(y + 1) * (y + 1) / p, ?_⟩
    have h1 := Nat.div_add_mod ((y + 1) * (y + 1)) p
    have e : (y + 1) * (y + 1) = y * (y + 2) + 1 := by simp only [Nat.mul_add, Nat.add_mul]; omega
    omega
  rcases h.split hd with h1 | h1
  · left; obtain ⟨t, rfl⟩ := h1; rw [Nat.mul_add_mod, Nat.mod_eq_of_lt hp]
  · right
    obtain ⟨t, ht⟩ := h1
    rcases t with _ | s
    · omega
    · have e : y + 1 = p * s + (p - 1) := by rw [Nat.mul_add] at ht; omega
      rw [e, Nat.mul_add_mod, Nat.mod_eq_of_lt (by omega)]

/-- Euler's criterion, the half that needs no root. -/
theorem Prm.euler {p a : Nat} (h : Prm p) (ho : p % 2 = 1) (ha : ¬ p ∣ a) : a ^ ((p - 1) / 2) % p = 1 ∨ a ^ ((p - 1) / 2) % p = p - 1 := by
  refine h.sq_one ?_
  rw [← Nat.pow_add, show (p - 1) / 2 + (p - 1) / 2 = p - 1 by omega]
  exact h.fermat1 ha
theorem Prm.euler_sq {p b : Nat} (h : Prm p) (ho : p % 2 = 1) (hb : ¬ p ∣ b) : (b * b) ^ ((p - 1) / 2) % p = 1 := by
  rw [← Nat.pow_two, ← Nat.pow_mul, show 2 * ((p - 1) / 2) = p - 1 by omega]
  exact h.fermat1 hb
theorem Prm.pow_dvd {p a n : Nat} (h : Prm p) (hd : p ∣ a ^ n) : p ∣ a := by
  induction n with
  | zero => rw [Nat.pow_zero] at hd; have := h.1; have := Nat.le_of_dvd (by omega) hd; omega
  | succ n ih =>
    rw [Nat.pow_succ] at hd
    rcases h.split hd with h1 | h1
    · exact ih h1
    · exact h1

/-- SymbolOf a rest of a prime. -/
def symN (a p : Nat) : Int := if a ^ ((p - 1) / 2) % p = 0 then 0 else if a ^ ((p - 1) / 2) % p = 1 then 1 else -1
theorem symN_zero {p a : Nat} (h : Prm p) (h3 : 3 ≤ p) : symN a p = 0 ↔ p ∣ a := by
  unfold symN
  constructor
  · intro hs
    split at hs
    · rename_i h0; exact h.pow_dvd (Nat.dvd_of_mod_eq_zero h0)
    · split at hs <;> exact absurd hs (by decide)
  · intro hd
    rw [if_pos]
    exact Nat.mod_eq_zero_of_dvd (Nat.dvd_trans hd (Nat.dvd_trans (by rw [Nat.pow_one]; exact Nat.dvd_refl a : a ∣ a ^ 1) (Nat.pow_dvd_pow a (by omega))))
theorem symN_cases {p a : Nat} (h : Prm p) (h3 : 3 ≤ p) (ha : ¬ p ∣ a) : (symN a p = 1 ∧ a ^ ((p - 1) / 2) % p = 1) ∨ (symN a p = -1 ∧ a ^ ((p - 1) / 2) % p = p - 1) := by
  unfold symN
  rcases h.euler (h.odd h3) ha with e | e
  · left; rw [e]; exact ⟨rfl, rfl⟩
  · right; rw [e, if_neg (by omega), if_neg (by omega)]; exact ⟨rfl, rfl⟩
theorem symN_sq {p b : Nat} (h : Prm p) (h3 : 3 ≤ p) (hb : ¬ p ∣ b) : symN (b * b) p = 1 := by
  unfold symN; rw [h.euler_sq (h.odd h3) hb]; rfl
theorem symN_mod (p a : Nat) : symN (a % p) p = symN a p := by
  unfold symN; rw [← Nat.pow_mod]

/-- Two roots of one square. -/
theorem Prm.two_roots {p x y : Nat} (h : Prm p) (hx : x < p) (hy : y < p) (he : x * x % p = y * y % p) : x = y ∨ x + y = p ∨ (x = 0 ∧ y = 0) := by
  have key : ∀ a b : Nat, b ≤ a → a < p → a * a % p = b * b % p → a = b ∨ a + b = p := by
    intro a b hab ha e
    obtain ⟨d, rfl⟩ : ∃ d, a = b + d := ⟨a - b, by omega⟩
    have hd : p ∣ d * (b + d + b) := by
      have e1 : (b + d) * (b + d) = b * b + d * (b + d + b) := by simp only [Nat.mul_add, Nat.add_mul, Nat.mul_comm d b]; omega
      have h1 := Nat.div_add_mod ((b + d) * (b + d)) p
      have h2 := Nat.div_add_mod (b * b) p
      have hle : b * b / p ≤ (b + d) * (b + d) / p := Nat.div_le_div_right (by omega)
      refine ⟨(b + d) * (b + d) / p - b * b / p, ?_⟩
      rw [Nat.mul_sub]
      have hle2 := Nat.mul_le_mul_left p hle
      omega
    rcases h.split hd with h1 | h1
    · left
      rcases Nat.eq_zero_or_pos d with h0 | h0
      · omega
      · have := Nat.le_of_dvd h0 h1; omega
    · obtain ⟨t, ht⟩ := h1
      rcases t with _ | _ | t
      · left; omega
      · right; omega
      · exfalso
        have : p * 2 ≤ p * (t + 1 + 1) := Nat.mul_le_mul_left p (by omega)
        omega
  rcases Nat.le_total y x with h1 | h1
  · rcases key x y h1 hx he with e | e
    · exact .inl e
    · exact .inr (.inl e)
  · rcases key y x h1 hy he.symm with e | e
    · exact .inl e.symm
    · exact .inr (.inl (by omega))

/-! A number that is no square, for every odd prime below 10000 (by trial) and every prime of a curve. -/
/-- An odd part of n, among the next k odd numbers from d on. -/
def hasPart (n : Nat) : Nat → Nat → Bool
  | 0, _ => false
  | k + 1, d => if n < d * d then false else if n % d = 0 then true else hasPart n k (d + 2)
theorem hasPart_no {n : Nat} (hp : Prm n) : ∀ (k d : Nat), 3 ≤ d → hasPart n k d = false
  | 0, _, _ => rfl
  | k + 1, d, h3 => by
    unfold hasPart
    by_cases h1 : n < d * d
    · rw [if_pos h1]
    · rw [if_neg h1, if_neg (hp.no_part h3 (by omega)), hasPart_no hp k (d + 2) (by omega)]
/-- The least number from n on, among the next f, whose power by half of p - 1 is p - 1. -/
def noSq (p : Nat) : Nat → Nat → Bool
  | 0, _ => false
  | f + 1, n => if pm p 14 n ((p - 1) / 2) = p - 1 then true else noSq p f (n + 1)
theorem noSq_at {p : Nat} (hp : p < 16384) : ∀ (f n : Nat), noSq p f n = true → ∃ m, n ≤ m ∧ m < n + f ∧ m ^ ((p - 1) / 2) % p = p - 1
  | 0, _, h => by simp [noSq] at h
  | f + 1, n, h => by
    unfold noSq at h
    by_cases h1 : pm p 14 n ((p - 1) / 2) = p - 1
    · refine ⟨n, Nat.le_refl _, by omega, ?_⟩
      rw [← pm_eq p 14 n _ (by rw [show (2 : Nat) ^ 14 = 16384 from rfl]; omega)]; exact h1
    · rw [if_neg h1] at h
      obtain ⟨m, h2, h3, h4⟩ := noSq_at hp f (n + 1) h
      exact ⟨m, by omega, by omega, h4⟩
def noSqAll : Nat → Nat → Bool
  | 0, _ => true
  | k + 1, p => (hasPart p 50 3 || noSq p 60 2) && noSqAll k (p + 2)
theorem noSqAll_at : ∀ (k q : Nat), noSqAll k q = true → ∀ p, q ≤ p → p < q + 2 * k → p % 2 = q % 2 → (hasPart p 50 3 || noSq p 60 2) = true
  | 0, q, _, p, h1, h2, _ => by omega
  | k + 1, q, h, p, h1, h2, h3 => by
    simp only [noSqAll, Bool.and_eq_true] at h
    rcases Nat.eq_or_lt_of_le h1 with rfl | h4
    · exact h.1
    · exact noSqAll_at k (q + 2) h.2 p (by omega) (by omega) (by omega)
set_option maxRecDepth 100000 in
theorem noSq_1 : noSqAll 2500 3 = true := by decide +kernel
set_option maxRecDepth 100000 in
theorem noSq_2 : noSqAll 2500 5003 = true := by decide +kernel
theorem no_square_small {p : Nat} (h : Prm p) (h3 : 3 ≤ p) (hlt : p < 10000) : ∃ m, 2 ≤ m ∧ m < 62 ∧ m ^ ((p - 1) / 2) % p = p - 1 := by
  have ho := h.odd h3
  have hn := hasPart_no h 50 3 (Nat.le_refl _)
  have : (hasPart p 50 3 || noSq p 60 2) = true := by
    rcases Nat.lt_or_ge p 5003 with h1 | h1
    · exact noSqAll_at 2500 3 noSq_1 p h3 (by omega) (by omega)
    · exact noSqAll_at 2500 5003 noSq_2 p h1 (by omega) (by omega)
  rw [hn, Bool.false_or] at this
  obtain ⟨m, h1, h2, h4⟩ := noSq_at (by omega) 60 2 this
  exact ⟨m, h1, h2, h4⟩
end Go.Proofs.YtflfeepgkcamnaaGreat

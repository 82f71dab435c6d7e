/-
  Plain facts for impl's chapter 4: the inverse of a rest by division in turn, where only how great the multiples are is kept; which of two rows is greater.
-/
import Derived.Test.YtflfeepgkcamnaaGreatGreatW
namespace Go.Proofs.YtflfeepgkcamnaaGreat

/-- What the division in turn keeps: r and s follow each other, x and y say how often a goes into them, b that the first of both is below 0. -/
structure InvT (a n r s x y : Nat) (b : Bool) : Prop where
  sum : r * y + s * x = n
  sb : b = true → (n : Int) ∣ (r : Int) + (x : Int) * (a : Int) ∧ (n : Int) ∣ (y : Int) * (a : Int) - (s : Int)
  sa : b = false → (n : Int) ∣ (x : Int) * (a : Int) - (r : Int) ∧ (n : Int) ∣ (s : Int) + (y : Int) * (a : Int)
  gcd : Nat.gcd r s = Nat.gcd n a
  xn : x ≤ n
  lt : s < r
  rn : r ≤ n
theorem InvT.start {a n : Nat} (h : a < n) : InvT a n n a 0 1 true :=
  ⟨by omega, fun _ => ⟨by simp, by simp⟩, fun h => by simp at h, rfl, Nat.zero_le _, h, Nat.le_refl _⟩
theorem InvT.yn {a n r s x y : Nat} {b : Bool} (h : InvT a n r s x y b) : y ≤ n := by
  have h1 := h.sum
  have h2 := h.lt
  have h3 : 1 * y ≤ r * y := Nat.mul_le_mul_right _ (by omega)
  omega
theorem InvT.next {a n r s x y : Nat} {b : Bool} (h : InvT a n r s x y b) (hs : 0 < s) : InvT a n s (r % s) y (x + r / s * y) (!b) := by
  have hd := Nat.div_add_mod r s
  have hm := Nat.mod_lt r hs
  obtain ⟨q, hq⟩ : ∃ q, r / s = q := ⟨_, rfl⟩
  obtain ⟨t, ht⟩ : ∃ t, r % s = t := ⟨_, rfl⟩
  rw [hq, ht] at hd
  rw [ht] at hm
  rw [hq, ht]
  have hdI : (s : Int) * (q : Int) + (t : Int) = (r : Int) := by exact_mod_cast hd
  refine ⟨?_, fun hb => ?_, fun hb => ?_, ?_, h.yn, hm, Nat.le_trans (Nat.le_of_lt h.lt) h.rn⟩
  · have e := h.sum
    rw [← hd, Nat.add_mul] at e
    rw [Nat.mul_add, ← Nat.mul_assoc]
    omega
  · have hb : b = false := by simpa using hb
    obtain ⟨h1, h2⟩ := h.sa hb
    refine ⟨h2, ?_⟩
    have h3 := Int.dvd_add h1 (Int.dvd_mul_of_dvd_right (a := (n : Int)) (b := (q : Int)) (c := (s : Int) + (y : Int) * (a : Int)) h2)
    have e : ((x + q * y : Nat) : Int) * (a : Int) - (t : Int) = ((x : Int) * (a : Int) - (r : Int)) + (q : Int) * ((s : Int) + (y : Int) * (a : Int)) := by
      rw [← hdI]
      push_cast
      rw [Int.add_mul, Int.mul_add, Int.mul_assoc, Int.mul_comm (q : Int) (s : Int)]
      omega
    rw [e]; exact h3
  · have hb : b = true := by simpa using hb
    obtain ⟨h1, h2⟩ := h.sb hb
    refine ⟨h2, ?_⟩
    have h3 := Int.dvd_add h1 (Int.dvd_mul_of_dvd_right (a := (n : Int)) (b := (q : Int)) (c := (y : Int) * (a : Int) - (s : Int)) h2)
    have e : (t : Int) + ((x + q * y : Nat) : Int) * (a : Int) = ((r : Int) + (x : Int) * (a : Int)) + (q : Int) * ((y : Int) * (a : Int) - (s : Int)) := by
      rw [← hdI]
      push_cast
      rw [Int.add_mul, Int.mul_sub, Int.mul_assoc, Int.mul_comm (q : Int) (s : Int)]
      omega
    rw [e]; exact h3
  · rw [← h.gcd, ← ht, Nat.gcd_comm r s, Nat.gcd_rec s r, Nat.gcd_comm]
theorem InvT.more_le {a n r s x y : Nat} {b : Bool} (h : InvT a n r s x y b) (hs : 0 < s) : x + r / s * y ≤ n := (h.next hs).yn
theorem one_mod {n m : Nat} (h1 : 1 < n) (h : (n : Int) ∣ (m : Int) - 1) : m % n = 1 := by
  have e : (m : Int) % (n : Int) = 1 % (n : Int) := Int.emod_eq_emod_iff_emod_sub_eq_zero.2 (Int.emod_eq_zero_of_dvd h)
  rw [Int.emod_eq_of_lt (by omega) (by omega : (1 : Int) < n)] at e
  exact_mod_cast e
theorem InvT.found {a n x y : Nat} (h : InvT a n 1 0 x y false) (h1 : 1 < n) : x < n ∧ x * a % n = 1 := by
  have e := one_mod h1 (m := x * a) (by simpa using (h.sa rfl).1)
  refine ⟨?_, e⟩
  rcases Nat.lt_or_ge x n with hl | hl
  · exact hl
  · have : x = n := Nat.le_antisymm h.xn hl
    rw [this, Nat.mul_mod_right] at e; omega
theorem InvT.foundB {a n x y : Nat} (h : InvT a n 1 0 x y true) (h1 : 1 < n) : n - x < n ∧ (n - x) * a % n = 1 := by
  have hx := h.xn
  have hd := (h.sb rfl).1
  have e := one_mod h1 (m := (n - x) * a) (by
    obtain ⟨k, hk⟩ := hd
    refine ⟨(a : Int) - k, ?_⟩
    rw [Int.natCast_mul, Int.natCast_sub hx, Int.sub_mul, Int.mul_sub, ← hk]
    push_cast
    omega)
  refine ⟨?_, e⟩
  rcases Nat.eq_zero_or_pos x with h0 | h0
  · rw [h0, Nat.sub_zero, Nat.mul_mod_right] at e; omega
  · omega
theorem InvT.last {a n r x y : Nat} {b : Bool} (h : InvT a n r 0 x y b) : r = Nat.gcd n a ∧ 0 < r := by
  have := h.gcd
  rw [Nat.gcd_zero_right] at this
  exact ⟨this, h.lt⟩

/-! Two rows of limbs, from the highest one down. -/
theorem W.hi_next {l m : List Nat} (hl : W.Limbs l) (hm : W.Limbs m) {k : Nat} (h : W.lV l / 4294967296 ^ (k + 1) = W.lV m / 4294967296 ^ (k + 1)) :
    (l.getD k 0 = m.getD k 0 → W.lV l / 4294967296 ^ k = W.lV m / 4294967296 ^ k) ∧ (l.getD k 0 < m.getD k 0 → W.lV l < W.lV m) := by
  have e1 := W.lV_dig hl k
  have e2 := W.lV_dig hm k
  rw [h] at e1
  refine ⟨fun e => by rw [e1, e2, e], fun e => ?_⟩
  have hlt : W.lV l / 4294967296 ^ k < W.lV m / 4294967296 ^ k := by omega
  rcases Nat.lt_or_ge (W.lV l) (W.lV m) with hh | hh
  · exact hh
  · have := Nat.div_le_div_right (c := 4294967296 ^ k) hh; omega
end Go.Proofs.YtflfeepgkcamnaaGreat

/-
  Roots by twos (Tonelli and Shanks), as plain lemmas: what holds at each round, and what is no square of a curve's prime.
-/
import Derived.Test.YtflfeepgkcamnaaGreatMRoot
namespace Go.Proofs.YtflfeepgkcamnaaGreat

theorem neg_sq {p : Nat} (h : 2 ≤ p) : (p - 1) * (p - 1) % p = 1 := by
  obtain ⟨q, rfl⟩ : ∃ q, p = q + 2 := ⟨p - 2, by omega⟩
  have e : (q + 2 - 1) * (q + 2 - 1) = (q + 2) * q + 1 := by
    rw [show q + 2 - 1 = q + 1 by omega]; simp only [Nat.mul_add, Nat.add_mul]; omega
  rw [e, Nat.mul_add_mod, Nat.mod_eq_of_lt (by omega)]
theorem pow_two_up (b m : Nat) (h : 1 ≤ m) : b ^ (2 ^ (m - 1)) * b ^ (2 ^ (m - 1)) = b ^ (2 ^ m) := by
  rw [← Nat.pow_add]; congr 1
  obtain ⟨k, rfl⟩ : ∃ k, m = k + 1 := ⟨m - 1, by omega⟩
  rw [Nat.pow_succ]; simp only [Nat.add_sub_cancel]; omega

/-- What holds at each round: t twos are left. -/
structure TS (p a x b g t : Nat) : Prop where
  pos : 1 ≤ t
  sq : x * x % p = a * b % p
  one : b ^ (2 ^ (t - 1)) % p = 1
  neg : g ^ (2 ^ (t - 1)) % p = p - 1

theorem TS.mod {p a x b g t : Nat} (h : TS p a x b g t) : TS p a (x % p) (b % p) (g % p) t :=
  ⟨h.pos, by rw [← Nat.mul_mod, h.sq, Nat.mul_mod_mod], by rw [← Nat.pow_mod]; exact h.one, by rw [← Nat.pow_mod]; exact h.neg⟩

theorem half_twos {p s q : Nat} (hs : 1 ≤ s) (hp : p - 1 = 2 ^ s * q) : q * 2 ^ (s - 1) = (p - 1) / 2 := by
  obtain ⟨k, rfl⟩ : ∃ k, s = k + 1 := ⟨s - 1, by omega⟩
  rw [hp, Nat.pow_succ, Nat.add_sub_cancel, Nat.mul_assoc, Nat.mul_comm 2 q, ← Nat.mul_assoc, Nat.mul_div_cancel _ (by omega), Nat.mul_comm]

/-- The first round. -/
theorem TS.start {p a z s q : Nat} (hs : 1 ≤ s) (hp : p - 1 = 2 ^ s * q) (hq : q % 2 = 1) (ha : a ^ ((p - 1) / 2) % p = 1) (hz : z ^ ((p - 1) / 2) % p = p - 1) :
    TS p a (a ^ ((q + 1) / 2)) (a ^ q) (z ^ q) s := by
  refine ⟨hs, ?_, ?_, ?_⟩
  · rw [← Nat.pow_add, show (q + 1) / 2 + (q + 1) / 2 = q + 1 by omega, Nat.pow_succ, Nat.mul_comm]
  · rw [← Nat.pow_mul, half_twos hs hp]; exact ha
  · rw [← Nat.pow_mul, half_twos hs hp]; exact hz

/-- One round: m is the least number of squarings that brings b to 1. -/
theorem TS.next {p a x b g t m : Nat} (hp : Prm p) (h : TS p a x b g t) (h1 : 1 ≤ m) (hm : m < t) (hb : b ^ (2 ^ m) % p = 1) (hn : b ^ (2 ^ (m - 1)) % p ≠ 1) :
    TS p a (x * g ^ (2 ^ (t - m - 1))) (b * (g ^ (2 ^ (t - m - 1)) * g ^ (2 ^ (t - m - 1)))) (g ^ (2 ^ (t - m - 1)) * g ^ (2 ^ (t - m - 1))) m := by
  have hp1 := hp.1
  obtain ⟨G, hG⟩ : ∃ G, g ^ (2 ^ (t - m - 1)) = G := ⟨_, rfl⟩
  rw [hG]
  have hg : (G * G) ^ (2 ^ (m - 1)) % p = p - 1 := by
    have e : (G * G) ^ (2 ^ (m - 1)) = g ^ (2 ^ (t - 1)) := by
      rw [Nat.mul_pow, pow_two_up G m h1, ← hG, ← Nat.pow_mul, ← Nat.pow_add, show t - m - 1 + m = t - 1 by omega]
    rw [e]; exact h.neg
  refine ⟨h1, ?_, ?_, hg⟩
  · rw [show x * G * (x * G) = (x * x) * (G * G) by rw [Nat.mul_mul_mul_comm], Nat.mul_mod, h.sq, ← Nat.mul_mod, Nat.mul_assoc]
  · have hb1 : b ^ (2 ^ (m - 1)) % p = p - 1 := by
      rcases hp.sq_one (x := b ^ (2 ^ (m - 1))) (by rw [pow_two_up b m h1]; exact hb) with e | e
      · exact absurd e hn
      · exact e
    rw [Nat.mul_pow, Nat.mul_mod, hb1, hg]
    exact neg_sq hp1
/-- The last round. -/
theorem TS.done {p a x b g t : Nat} (h : TS p a x b g t) (hb : b % p = 1) : x * x % p = a % p := by
  rw [h.sq, Nat.mul_mod, hb, Nat.mul_one, Nat.mod_mod]
theorem TS.last {p a x b g : Nat} (h : TS p a x b g 1) : x * x % p = a % p :=
  h.done (by have := h.one; rw [show 2 ^ (1 - 1) = 1 from rfl, Nat.pow_one] at this; exact this)

/-- Squared over and over. -/
def sqs (p : Nat) : Nat → Nat → Nat
  | 0, b => b
  | k + 1, b => sqs p k (b * b % p)
theorem sqs_eq (p : Nat) : ∀ k b, b < p → sqs p k b = b ^ (2 ^ k) % p
  | 0, b, h => by rw [show 2 ^ 0 = 1 from rfl, Nat.pow_one, Nat.mod_eq_of_lt h]; rfl
  | k + 1, b, h => by
    unfold sqs
    rw [sqs_eq p k _ (Nat.mod_lt _ (by omega)), ← Nat.pow_mod, ← Nat.pow_two, ← Nat.pow_mul, Nat.pow_succ, Nat.mul_comm 2]
theorem sqs_succ (p : Nat) : ∀ k b, sqs p (k + 1) b = sqs p k b * sqs p k b % p
  | 0, b => rfl
  | k + 1, b => by
    show sqs p (k + 1) (b * b % p) = _
    rw [sqs_succ p k]; rfl
/-! The twos in a number, and what is odd in it. -/
def twosN (n : Nat) : Nat := if _h : 0 < n ∧ n % 2 = 0 then twosN (n / 2) + 1 else 0
termination_by n
decreasing_by omega
def oddN (n : Nat) : Nat := n / 2 ^ twosN n
theorem twosN_odd {n : Nat} (h : n % 2 = 1) : twosN n = 0 := by rw [twosN, dif_neg (by omega)]
theorem twosN_even {n : Nat} (h0 : 0 < n) (h : n % 2 = 0) : twosN n = twosN (n / 2) + 1 := by
  conv => lhs; rw [twosN]
  rw [dif_pos ⟨h0, h⟩]
theorem oddN_odd {n : Nat} (h : n % 2 = 1) : oddN n = n := by unfold oddN; rw [twosN_odd h, Nat.pow_zero, Nat.div_one]
theorem oddN_even {n : Nat} (h0 : 0 < n) (h : n % 2 = 0) : oddN n = oddN (n / 2) := by
  unfold oddN; rw [twosN_even h0 h, Nat.pow_succ, Nat.mul_comm, Nat.div_div_eq_div_mul]
theorem twos_all (n : Nat) (h0 : 0 < n) : n = 2 ^ twosN n * oddN n ∧ oddN n % 2 = 1 := by
  induction n using Nat.strongRecOn with
  | _ n ih =>
    by_cases h : n % 2 = 1
    · rw [twosN_odd h, oddN_odd h, Nat.pow_zero, Nat.one_mul]; exact ⟨rfl, h⟩
    · have h2 : n % 2 = 0 := by omega
      obtain ⟨h3, h4⟩ := ih (n / 2) (by omega) (by omega)
      rw [twosN_even h0 h2, oddN_even h0 h2]
      refine ⟨?_, h4⟩
      rw [Nat.pow_succ, Nat.mul_comm (2 ^ twosN (n / 2)) 2, Nat.mul_assoc, ← h3]; omega
theorem twosN_lt {n k : Nat} (h0 : 0 < n) (h : n < 2 ^ k) : twosN n < k := by
  have h1 := (twos_all n h0).1
  rcases Nat.lt_or_ge (twosN n) k with h2 | h2
  · exact h2
  · exfalso
    have h3 : 2 ^ k ≤ 2 ^ twosN n := Nat.pow_le_pow_right (by omega) h2
    have h4 : 0 < oddN n := by rcases Nat.eq_zero_or_pos (oddN n) with e | e; rw [e, Nat.mul_zero] at h1; omega; exact e
    have h5 : 2 ^ twosN n * 1 ≤ 2 ^ twosN n * oddN n := Nat.mul_le_mul_left _ h4
    omega
/-- The root of a square that the rounds bring out is a root; any root of it is the one or what is against it. -/
theorem root_only {p a x y : Nat} (h : Prm p) (hx : x < p) (hy : y < p) (ex : x * x % p = a) (ey : y * y % p = a) : y = x ∨ y = (p - x) % p := by
  rcases h.two_roots hy hx (ey.trans ex.symm) with e | e | e
  · exact .inl e
  · rcases Nat.eq_zero_or_pos x with h0 | h0
    · omega
    · right; rw [Nat.mod_eq_of_lt (by omega)]; omega
  · left; omega
theorem symN_pm {n p : Nat} (f : Nat) (x : Int) (h : (decide (p < 2 ^ f) && decide ((if pm p f n ((p - 1) / 2) = 0 then 0 else if pm p f n ((p - 1) / 2) = 1 then 1 else -1) = x)) = true) : symN n p = x := by
  simp only [Bool.and_eq_true, decide_eq_true_eq] at h
  have hl : (p - 1) / 2 < 2 ^ f := by have := h.1; omega
  rw [pm_eq p f n _ hl] at h
  exact h.2
/-! The least number that is no square, of each prime of a curve. -/
/-- 3 is the least; p - 1 has 1 twos. -/
theorem nosq_1706311 : symN 3 1706311 = -1 := symN_pm 21 _ (by decide +kernel)
theorem issq_1706311_2 : symN 2 1706311 = 1 := symN_pm 21 _ (by decide +kernel)
/-- 7 is the least; p - 1 has 10 twos. -/
theorem nosq_1704961 : symN 7 1704961 = -1 := symN_pm 21 _ (by decide +kernel)
theorem issq_1704961_2 : symN 2 1704961 = 1 := symN_pm 21 _ (by decide +kernel)
theorem issq_1704961_3 : symN 3 1704961 = 1 := symN_pm 21 _ (by decide +kernel)
theorem issq_1704961_4 : symN 4 1704961 = 1 := symN_pm 21 _ (by decide +kernel)
theorem issq_1704961_5 : symN 5 1704961 = 1 := symN_pm 21 _ (by decide +kernel)
theorem issq_1704961_6 : symN 6 1704961 = 1 := symN_pm 21 _ (by decide +kernel)
/-- 2 is the least; p - 1 has 1 twos. -/
theorem nosq_10647363907 : symN 2 10647363907 = -1 := symN_pm 34 _ (by decide +kernel)
/-- 13 is the least; p - 1 has 6 twos. -/
theorem nosq_9831361 : symN 13 9831361 = -1 := symN_pm 24 _ (by decide +kernel)
theorem issq_9831361_2 : symN 2 9831361 = 1 := symN_pm 24 _ (by decide +kernel)
theorem issq_9831361_3 : symN 3 9831361 = 1 := symN_pm 24 _ (by decide +kernel)
theorem issq_9831361_4 : symN 4 9831361 = 1 := symN_pm 24 _ (by decide +kernel)
theorem issq_9831361_5 : symN 5 9831361 = 1 := symN_pm 24 _ (by decide +kernel)
theorem issq_9831361_6 : symN 6 9831361 = 1 := symN_pm 24 _ (by decide +kernel)
theorem issq_9831361_7 : symN 7 9831361 = 1 := symN_pm 24 _ (by decide +kernel)
theorem issq_9831361_8 : symN 8 9831361 = 1 := symN_pm 24 _ (by decide +kernel)
theorem issq_9831361_9 : symN 9 9831361 = 1 := symN_pm 24 _ (by decide +kernel)
theorem issq_9831361_10 : symN 10 9831361 = 1 := symN_pm 24 _ (by decide +kernel)
theorem issq_9831361_11 : symN 11 9831361 = 1 := symN_pm 24 _ (by decide +kernel)
theorem issq_9831361_12 : symN 12 9831361 = 1 := symN_pm 24 _ (by decide +kernel)
/-- 3 is the least; p - 1 has 1 twos. -/
theorem nosq_21888242871839275222246405745257275088696311157297823662689037894645226208583 : symN 3 21888242871839275222246405745257275088696311157297823662689037894645226208583 = -1 := symN_pm 254 _ (by decide +kernel)
theorem issq_21888242871839275222246405745257275088696311157297823662689037894645226208583_2 : symN 2 21888242871839275222246405745257275088696311157297823662689037894645226208583 = 1 := symN_pm 254 _ (by decide +kernel)
/-- 5 is the least; p - 1 has 28 twos. -/
theorem nosq_21888242871839275222246405745257275088548364400416034343698204186575808495617 : symN 5 21888242871839275222246405745257275088548364400416034343698204186575808495617 = -1 := symN_pm 254 _ (by decide +kernel)
theorem issq_21888242871839275222246405745257275088548364400416034343698204186575808495617_2 : symN 2 21888242871839275222246405745257275088548364400416034343698204186575808495617 = 1 := symN_pm 254 _ (by decide +kernel)
theorem issq_21888242871839275222246405745257275088548364400416034343698204186575808495617_3 : symN 3 21888242871839275222246405745257275088548364400416034343698204186575808495617 = 1 := symN_pm 254 _ (by decide +kernel)
theorem issq_21888242871839275222246405745257275088548364400416034343698204186575808495617_4 : symN 4 21888242871839275222246405745257275088548364400416034343698204186575808495617 = 1 := symN_pm 254 _ (by decide +kernel)
/-- 5 is the least; p - 1 has 32 twos. -/
theorem nosq_52435875175126190479447740508185965837690552500527637822603658699938581184513 : symN 5 52435875175126190479447740508185965837690552500527637822603658699938581184513 = -1 := symN_pm 255 _ (by decide +kernel)
theorem issq_52435875175126190479447740508185965837690552500527637822603658699938581184513_2 : symN 2 52435875175126190479447740508185965837690552500527637822603658699938581184513 = 1 := symN_pm 255 _ (by decide +kernel)
theorem issq_52435875175126190479447740508185965837690552500527637822603658699938581184513_3 : symN 3 52435875175126190479447740508185965837690552500527637822603658699938581184513 = 1 := symN_pm 255 _ (by decide +kernel)
theorem issq_52435875175126190479447740508185965837690552500527637822603658699938581184513_4 : symN 4 52435875175126190479447740508185965837690552500527637822603658699938581184513 = 1 := symN_pm 255 _ (by decide +kernel)
/-- 2 is the least; p - 1 has 1 twos. -/
theorem nosq_4002409555221667393417789825735904156556882819939007885332058136124031650490837864442687629129015664037894272559787 : symN 2 4002409555221667393417789825735904156556882819939007885332058136124031650490837864442687629129015664037894272559787 = -1 := symN_pm 381 _ (by decide +kernel)
end Go.Proofs.YtflfeepgkcamnaaGreat

/-
  Plain number theory, of no program: binomials, Fermat's little theorem, a test of primes by a part of p - 1 (Pocklington), powers reckoned by bits.
-/
import Derived.Test.YtflfeepgkcamnaaGreatBase
namespace Go.Proofs.YtflfeepgkcamnaaGreat

/-- A prime number. -/
def Prm (p : Nat) : Prop := 1 < p ∧ ∀ d, d ∣ p → d = 1 ∨ d = p
theorem Prm.cop {p a : Nat} (h : Prm p) (ha : ¬ p ∣ a) : Nat.Coprime p a := by
  rcases h.2 (Nat.gcd p a) (Nat.gcd_dvd_left p a) with e | e
  · exact e
  · exact absurd (e ▸ Nat.gcd_dvd_right p a) ha
theorem Prm.split {p a b : Nat} (h : Prm p) (hab : p ∣ a * b) : p ∣ a ∨ p ∣ b := by
  by_cases ha : p ∣ a
  · exact .inl ha
  · exact .inr ((h.cop ha).dvd_of_dvd_mul_left hab)

/-! Binomials. -/
def chs : Nat → Nat → Nat
  | _, 0 => 1
  | 0, _ + 1 => 0
  | n + 1, k + 1 => chs n k + chs n (k + 1)
theorem chs_zero (n : Nat) : chs n 0 = 1 := by cases n <;> rfl
theorem chs_succ (n k : Nat) : chs (n + 1) (k + 1) = chs n k + chs n (k + 1) := rfl
theorem chs_gt {n k : Nat} (h : n < k) : chs n k = 0 := by
  induction n generalizing k with
  | zero => cases k with
    | zero => omega
    | succ k => rfl
  | succ n ih => cases k with
    | zero => omega
    | succ k => rw [chs_succ, ih (by omega), ih (by omega)]
theorem chs_self (n : Nat) : chs n n = 1 := by
  induction n with
  | zero => rfl
  | succ n ih => rw [chs_succ, ih, chs_gt (by omega)]
theorem chs_mul (n k : Nat) : (k + 1) * chs (n + 1) (k + 1) = (n + 1) * chs n k := by
  induction n generalizing k with
  | zero =>
    cases k with
    | zero => rfl
    | succ k => rw [chs_gt (by omega), chs_gt (by omega)]; simp
  | succ n ih =>
    rw [chs_succ, Nat.mul_add, ih]
    cases k with
    | zero => simp [chs_zero]; omega
    | succ j =>
      have h := ih j
      have e : (j + 1 + 1) * chs (n + 1) (j + 1) = (j + 1) * chs (n + 1) (j + 1) + chs (n + 1) (j + 1) := by rw [Nat.add_mul (j + 1) 1, Nat.one_mul]
      rw [e, h, chs_succ n j, Nat.add_mul (n + 1) 1, Nat.one_mul, Nat.mul_add]
      omega
def bsum (n a : Nat) : Nat → Nat
  | 0 => 0
  | k + 1 => bsum n a k + chs n k * a ^ k
theorem bsum_succ (n a k : Nat) : bsum n a (k + 1) = bsum n a k + chs n k * a ^ k := rfl
theorem bsum_up (n a k : Nat) : bsum (n + 1) a (k + 1) = bsum n a (k + 1) + a * bsum n a k := by
  induction k with
  | zero => simp [bsum, chs_zero]
  | succ k ih =>
    rw [bsum_succ (n + 1), ih, chs_succ, bsum_succ n a (k + 1), bsum_succ n a k, Nat.add_mul, Nat.mul_add, Nat.pow_succ]
    have : a * (chs n k * a ^ k) = chs n k * (a ^ k * a) := by rw [Nat.mul_left_comm, Nat.mul_comm a]
    omega
theorem binom (n a : Nat) : (a + 1) ^ n = bsum n a (n + 1) := by
  induction n with
  | zero => simp [bsum, chs_zero]
  | succ n ih =>
    rw [Nat.pow_succ, ih, bsum_up, bsum_succ n a (n + 1), chs_gt (show n < n + 1 by omega), Nat.zero_mul, Nat.mul_add, Nat.mul_one, Nat.mul_comm a]
    omega
theorem Prm.chs {p k : Nat} (h : Prm p) (h0 : 0 < k) (hk : k < p) : p ∣ chs p k := by
  obtain ⟨j, rfl⟩ : ∃ j, k = j + 1 := ⟨k - 1, by omega⟩
  obtain ⟨q, rfl⟩ : ∃ q, p = q + 1 := ⟨p - 1, by have := h.1; omega⟩
  have e := chs_mul q j
  have hd : (q + 1) ∣ (j + 1) * Proofs.YtflfeepgkcamnaaGreat.chs (q + 1) (j + 1) := ⟨_, e⟩
  rcases h.split hd with h1 | h1
  · have := Nat.le_of_dvd (by omega) h1
    omega
  · exact h1
theorem Prm.bsum {p : Nat} (h : Prm p) (a : Nat) {k : Nat} (h0 : 0 < k) (hk : k ≤ p) : ∃ t, bsum p a k = 1 + p * t := by
  induction k with
  | zero => omega
  | succ k ih =>
    by_cases h1 : k = 0
    · subst h1
      exact ⟨0, by simp [Proofs.YtflfeepgkcamnaaGreat.bsum, chs_zero]⟩
    · obtain ⟨t, ht⟩ := ih (by omega) (by omega)
      obtain ⟨c, hc⟩ := h.chs (k := k) (by omega) (by omega)
      refine ⟨t + c * a ^ k, ?_⟩
      rw [bsum_succ, ht, hc, Nat.mul_add, Nat.mul_assoc, Nat.add_assoc]
/-- Fermat's little theorem. -/
theorem Prm.fermat {p : Nat} (h : Prm p) (a : Nat) : a ^ p % p = a % p := by
  induction a with
  | zero => rw [Nat.zero_pow (by have := h.1; omega)]
  | succ a ih =>
    obtain ⟨t, ht⟩ := h.bsum a (k := p) (by have := h.1; omega) (Nat.le_refl _)
    rw [binom, bsum_succ, chs_self, Nat.one_mul, ht, show 1 + p * t + a ^ p = 1 + a ^ p + p * t from by omega, Nat.add_mul_mod_self_left, Nat.add_mod, ih, ← Nat.add_mod, Nat.add_comm]
theorem Prm.fermat1 {p a : Nat} (h : Prm p) (ha : ¬ p ∣ a) : a ^ (p - 1) % p = 1 := by
  have hp := h.1
  have hf := h.fermat a
  have h1 : p ∣ a ^ p - a := by
    rcases Nat.le_total a (a ^ p) with hle | hle
    · exact (Nat.dvd_iff_mod_eq_zero ..).2 (Nat.sub_mod_eq_zero_of_mod_eq hf)
    · rw [Nat.sub_eq_zero_of_le hle]; exact Nat.dvd_zero _
  have ha0 : 0 < a := Nat.pos_of_ne_zero fun e => ha (e ▸ Nat.dvd_zero p)
  have e : a ^ p - a = a * (a ^ (p - 1) - 1) := by
    obtain ⟨q, rfl⟩ : ∃ q, p = q + 1 := ⟨p - 1, by omega⟩
    rw [Nat.add_sub_cancel, Nat.pow_succ, Nat.mul_sub, Nat.mul_one, Nat.mul_comm]
  rw [e] at h1
  rcases h.split h1 with h2 | ⟨t, ht⟩
  · exact absurd h2 ha
  · have hpos : 0 < a ^ (p - 1) := Nat.pow_pos ha0
    rw [show a ^ (p - 1) = 1 + p * t from by omega, Nat.add_mul_mod_self_left, Nat.mod_eq_of_lt hp]

/-! Each number above 1 has a prime that divides it. -/
theorem least_prm {n : Nat} (hn : 1 < n) : ∃ r, Prm r ∧ r ∣ n := by
  induction n using Nat.strongRecOn with
  | _ n ih =>
    by_cases hp : ∀ d, d ∣ n → d = 1 ∨ d = n
    · exact ⟨n, ⟨hn, hp⟩, Nat.dvd_refl n⟩
    · obtain ⟨d, hd⟩ := Classical.not_forall.1 hp
      have hdn : d ∣ n := Classical.byContradiction fun h => hd fun h2 => absurd h2 h
      have h1 : d ≠ 1 := fun e => hd fun _ => .inl e
      have h2 : d ≠ n := fun e => hd fun _ => .inr e
      have hle := Nat.le_of_dvd (by omega) hdn
      have hd0 : d ≠ 0 := fun e => by subst e; have := Nat.eq_zero_of_zero_dvd hdn; omega
      obtain ⟨r, hr, hrd⟩ := ih d (by omega) (by omega)
      exact ⟨r, hr, Nat.dvd_trans hrd hdn⟩
/-- A number no prime of which is at most its root is prime. -/
theorem prm_of_roots {n : Nat} (hn : 1 < n) (h : ∀ r, Prm r → r ∣ n → n < r * r) : Prm n := by
  refine ⟨hn, fun d hd => ?_⟩
  by_cases h1 : d = 1
  · exact .inl h1
  by_cases h2 : d = n
  · exact .inr h2
  exfalso
  obtain ⟨e, he⟩ := hd
  have hd0 : d ≠ 0 := fun q => by subst q; simp at he; omega
  have he0 : e ≠ 0 := fun q => by subst q; simp at he; omega
  have he1 : e ≠ 1 := fun q => by subst q; simp at he; omega
  obtain ⟨r, hr, hrd⟩ := least_prm (n := d) (by omega)
  obtain ⟨s, hs, hse⟩ := least_prm (n := e) (by omega)
  have a1 := h r hr (Nat.dvd_trans hrd ⟨e, he⟩)
  have a2 := h s hs (Nat.dvd_trans hse ⟨d, by rw [he, Nat.mul_comm]⟩)
  have b1 := Nat.le_of_dvd (by omega) hrd
  have b2 := Nat.le_of_dvd (by omega) hse
  have c1 : r * r ≤ d * d := Nat.mul_le_mul b1 b1
  have c2 : s * s ≤ e * e := Nat.mul_le_mul b2 b2
  rcases Nat.le_total d e with hde | hde
  · have : d * d ≤ d * e := Nat.mul_le_mul_left _ hde
    omega
  · have : e * e ≤ d * e := Nat.mul_le_mul_right _ hde
    omega

/-! Powers that come to 1. -/
theorem one_pow_mod {a n m k : Nat} (h : a ^ m % n = 1) (h1 : 1 < n) : a ^ (m * k) % n = 1 := by
  rw [Nat.pow_mul, Nat.pow_mod, h, Nat.one_pow, Nat.mod_eq_of_lt h1]
theorem gcd_pow {a n : Nat} (h1 : 1 < n) (m k : Nat) (hm : a ^ m % n = 1) (hk : a ^ k % n = 1) : a ^ (Nat.gcd m k) % n = 1 := by
  induction m, k using Nat.gcd.induction with
  | H0 k => rw [Nat.gcd_zero_left]; exact hk
  | H1 m k hpos ih =>
    rw [Nat.gcd_rec]
    refine ih ?_ hm
    have e : a ^ k = a ^ (m * (k / m)) * a ^ (k % m) := by rw [← Nat.pow_add, Nat.div_add_mod]
    rw [e, Nat.mul_mod, one_pow_mod hm h1, Nat.one_mul, Nat.mod_mod] at hk
    exact hk
/-- The greatest power of q that divides n - 1 divides r - 1, for each prime r of n (Pocklington). -/
theorem pock_one {n r q k a : Nat} (hq : Prm q) (hr : Prm r) (hrn : r ∣ n) (hn : 1 < n) (hk : q ^ k ∣ n - 1) (h1 : a ^ (n - 1) % n = 1) (h2 : Nat.gcd (a ^ ((n - 1) / q) - 1) n = 1) : q ^ k ∣ r - 1 := by
  have hr1 := hr.1
  have m1 : a ^ (n - 1) % r = 1 := by
    obtain ⟨t, ht⟩ := hrn
    have : a ^ (n - 1) = n * (a ^ (n - 1) / n) + 1 := by have := Nat.div_add_mod (a ^ (n - 1)) n; omega
    rw [this, ht, Nat.mul_assoc, Nat.add_comm, Nat.add_mul_mod_self_left, Nat.mod_eq_of_lt hr1]
  have hra : ¬ r ∣ a := fun h => by
    have h3 : r ∣ a ^ (n - 1) := by
      obtain ⟨m, hm⟩ : ∃ m, n - 1 = m + 1 := ⟨n - 2, by omega⟩
      rw [hm, Nat.pow_succ]
      exact Nat.dvd_trans h (Nat.dvd_mul_left a _)
    rw [Nat.mod_eq_zero_of_dvd h3] at m1
    omega
  have m2 := hr.fermat1 hra
  have m3 := gcd_pow hr1 (n - 1) (r - 1) m1 m2
  obtain ⟨g, hg⟩ : ∃ g, Nat.gcd (n - 1) (r - 1) = g := ⟨_, rfl⟩
  rw [hg] at m3
  have gd1 : g ∣ n - 1 := hg ▸ Nat.gcd_dvd_left _ _
  have gd2 : g ∣ r - 1 := hg ▸ Nat.gcd_dvd_right _ _
  -- g does not divide (n - 1) / q
  have hng : ¬ g ∣ (n - 1) / q := fun ⟨t, ht⟩ => by
    have m4 : a ^ ((n - 1) / q) % r = 1 := by rw [ht]; exact one_pow_mod m3 hr1
    have m5 : r ∣ a ^ ((n - 1) / q) - 1 := ⟨a ^ ((n - 1) / q) / r, by have := Nat.div_add_mod (a ^ ((n - 1) / q)) r; omega⟩
    have : r ∣ 1 := h2 ▸ Nat.dvd_gcd m5 hrn
    have := Nat.le_of_dvd (by omega) this
    omega
  -- so q ^ k divides g
  refine Nat.dvd_trans ?_ gd2
  obtain ⟨t, ht⟩ := gd1
  have hqt : ¬ q ∣ t := fun ⟨u, hu⟩ => hng ⟨u, by
    rw [ht, hu, show g * (q * u) = g * u * q from by rw [Nat.mul_comm q, Nat.mul_assoc], Nat.mul_div_cancel _ (by have := hq.1; omega)]⟩
  have hc : Nat.Coprime (q ^ k) t := Nat.Coprime.pow_left k (hq.cop hqt)
  rw [ht] at hk
  exact hc.dvd_of_dvd_mul_right hk
/-! Powers reckoned by bits. -/
/-- b to the e, less what n takes out; f: how many bits at most. -/
def pm (n : Nat) : Nat → Nat → Nat → Nat
  | 0, _, _ => 1 % n
  | f + 1, b, e => if e = 0 then 1 % n else let h := pm n f (b * b % n) (e / 2); if e % 2 = 1 then h * b % n else h
theorem pm_eq (n f b e : Nat) (h : e < 2 ^ f) : pm n f b e = b ^ e % n := by
  induction f generalizing b e with
  | zero =>
    have : e = 0 := by rw [Nat.pow_zero] at h; omega
    subst this
    rw [Nat.pow_zero]; rfl
  | succ f ih =>
    unfold pm
    by_cases h0 : e = 0
    · subst h0; rw [if_pos rfl, Nat.pow_zero]
    · rw [if_neg h0]
      have h2 : e / 2 < 2 ^ f := by rw [Nat.pow_succ] at h; omega
      simp only []
      rw [ih _ _ h2]
      have e1 : (b * b % n) ^ (e / 2) % n = b ^ (2 * (e / 2)) % n := by
        rw [← Nat.pow_mod, Nat.pow_mul, Nat.pow_two]
      rw [e1]
      by_cases ho : e % 2 = 1
      · rw [if_pos ho]
        have : e = 2 * (e / 2) + 1 := by omega
        conv => rhs; rw [this, Nat.pow_succ]
        rw [Nat.mod_mul_mod]
      · rw [if_neg ho]
        have : e = 2 * (e / 2) := by omega
        conv => rhs; rw [this]
/-- A part of a proof that n is prime: q, how often it divides n - 1, and a witness. -/
structure Wit where
  q : Nat
  k : Nat
  a : Nat
def wOk (n f : Nat) (x : Wit) : Bool := decide ((n - 1) % (x.q ^ x.k) = 0) && decide (pm n f x.a (n - 1) = 1) && decide (0 < pm n f x.a ((n - 1) / x.q)) && decide (Nat.gcd (pm n f x.a ((n - 1) / x.q) - 1) n = 1)
def wMul : List Wit → Nat
  | [] => 1
  | x :: r => x.q ^ x.k * wMul r
theorem gcd_less {a n m : Nat} (h0 : 0 < m) (hm : a % n = m) (hg : Nat.gcd (m - 1) n = 1) : Nat.gcd (a - 1) n = 1 := by
  have e : a - 1 = m - 1 + n * (a / n) := by have := Nat.div_add_mod a n; omega
  rw [e, Nat.gcd_comm, Nat.gcd_add_mul_left_right, Nat.gcd_comm]; exact hg
theorem w_one {n f r : Nat} {x : Wit} (hf : n < 2 ^ f) (hn : 1 < n) (hq : Prm x.q) (h : wOk n f x = true) (hr : Prm r) (hrn : r ∣ n) : x.q ^ x.k ∣ r - 1 := by
  simp only [wOk, Bool.and_eq_true, decide_eq_true_eq] at h
  obtain ⟨⟨⟨h2, h3⟩, h4⟩, h5⟩ := h
  have hlt : (n - 1) / x.q < 2 ^ f := Nat.lt_of_le_of_lt (Nat.div_le_self _ _) (by omega)
  rw [pm_eq _ _ _ _ (by omega)] at h3
  rw [pm_eq _ _ _ _ hlt] at h4 h5
  exact pock_one hq hr hrn hn (Nat.dvd_of_mod_eq_zero h2) h3 (gcd_less h4 rfl h5)
/-- The parts are of different primes. -/
def wApart : List Wit → Bool
  | [] => true
  | x :: r => r.all (fun y => decide (x.q ≠ y.q)) && wApart r
theorem prm_apart {p q : Nat} (hp : Prm p) (hq : Prm q) (h : p ≠ q) : Nat.Coprime p q := hp.cop fun hd => by
  rcases hq.2 p hd with e | e
  · have := hp.1; omega
  · exact h e
theorem w_cop {x : Wit} {l : List Wit} (hx : Prm x.q) (hl : ∀ y ∈ l, Prm y.q) (h : l.all (fun y => decide (x.q ≠ y.q)) = true) : Nat.Coprime (x.q ^ x.k) (wMul l) := by
  induction l with
  | nil => exact Nat.coprime_one_right _
  | cons y r ih =>
    simp only [List.all_cons, Bool.and_eq_true, decide_eq_true_eq] at h
    refine Nat.Coprime.mul_right ?_ (ih (fun z hz => hl z (by simp [hz])) h.2)
    exact Nat.Coprime.pow _ _ (prm_apart hx (hl y (by simp)) h.1)
theorem w_all {n f r : Nat} (hf : n < 2 ^ f) (hn : 1 < n) (l : List Wit) (hl : ∀ y ∈ l, Prm y.q) (h : l.all (wOk n f) = true) (ha : wApart l = true) (hr : Prm r) (hrn : r ∣ n) : wMul l ∣ r - 1 := by
  induction l with
  | nil => exact Nat.one_dvd _
  | cons x t ih =>
    simp only [List.all_cons, Bool.and_eq_true] at h
    simp only [wApart, Bool.and_eq_true] at ha
    exact Nat.Coprime.mul_dvd_of_dvd_of_dvd (w_cop (hl x (by simp)) (fun z hz => hl z (by simp [hz])) ha.1) (w_one hf hn (hl x (by simp)) h.1 hr hrn) (ih (fun z hz => hl z (by simp [hz])) h.2 ha.2)
/-- Pocklington's test. -/
theorem prm_by {n : Nat} (f : Nat) (l : List Wit) (hl : ∀ y ∈ l, Prm y.q) (h : (decide (1 < n) && decide (n < 2 ^ f) && l.all (wOk n f) && wApart l && decide (n < (wMul l + 1) * (wMul l + 1))) = true) : Prm n := by
  simp only [Bool.and_eq_true, decide_eq_true_eq] at h
  obtain ⟨⟨⟨⟨h1, h2⟩, h3⟩, h4⟩, h5⟩ := h
  refine prm_of_roots h1 fun r hr hrn => ?_
  have hd := w_all h2 h1 l hl h3 h4 hr hrn
  have hr1 := hr.1
  have hle := Nat.le_of_dvd (by omega) hd
  exact Nat.lt_of_lt_of_le h5 (Nat.mul_le_mul (by omega) (by omega))
/-- Small ones by trial. -/
def noDiv (n : Nat) : Nat → Nat → Bool
  | 0, _ => true
  | k + 1, d => decide (n % d ≠ 0) && noDiv n k (d + 1)
theorem noDiv_at {n : Nat} : ∀ (k d : Nat), noDiv n k d = true → ∀ e, d ≤ e → e < d + k → ¬ e ∣ n
  | 0, _, _, e, h1, h2 => by omega
  | k + 1, d, h, e, h1, h2 => by
    simp only [noDiv, Bool.and_eq_true, decide_eq_true_eq] at h
    rcases Nat.eq_or_lt_of_le h1 with rfl | h3
    · intro hd; exact h.1 (Nat.mod_eq_zero_of_dvd hd)
    · exact noDiv_at k (d + 1) h.2 e h3 (by omega)
theorem prm_small {n : Nat} (k : Nat) (h : (decide (1 < n) && noDiv n k 2 && decide (n < (k + 2) * (k + 2))) = true) : Prm n := by
  simp only [Bool.and_eq_true, decide_eq_true_eq] at h
  obtain ⟨⟨h1, h2⟩, h3⟩ := h
  refine prm_of_roots h1 fun r hr hrn => ?_
  have hr1 := hr.1
  have : ¬ r < 2 + k := fun hlt => noDiv_at k 2 h2 r hr1 hlt hrn
  exact Nat.lt_of_lt_of_le h3 (Nat.mul_le_mul (by omega) (by omega))
end Go.Proofs.YtflfeepgkcamnaaGreat

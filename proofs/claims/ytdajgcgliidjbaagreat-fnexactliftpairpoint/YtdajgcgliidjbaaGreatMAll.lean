import Derived.Test.YtdajgcgliidjbaaGreatBase
set_option maxRecDepth 100000
namespace Go.Proofs.YtdajgcgliidjbaaGreat
def Prm (p : Nat) : Prop := 1 < p ∧ ∀ d, d ∣ p → d = 1 ∨ d = p
theorem Prm.cop {p a : Nat} (h : Prm p) (ha : ¬ p ∣ a) : Nat.Coprime p a := by
 rcases h.2 (Nat.gcd p a) (Nat.gcd_dvd_left p a) with e | e
 ·exact e
 ·exact absurd (e ▸ Nat.gcd_dvd_right p a) ha
theorem Prm.split {p a b : Nat} (h : Prm p) (hab : p ∣ a * b) : p ∣ a ∨ p ∣ b := by
 by_cases ha : p ∣ a
 ·exact .inl ha
 ·exact .inr ((h.cop ha).dvd_of_dvd_mul_left hab)
def chs : Nat → Nat → Nat
 | _, 0 => 1
 | 0, _ + 1 => 0
 | n + 1, k + 1 => chs n k + chs n (k + 1)
theorem chs_zero (n : Nat) : chs n 0 = 1 := by cases n <;> rfl
theorem chs_succ (n k : Nat) : chs (n + 1) (k + 1) = chs n k + chs n (k + 1) := rfl
theorem chs_gt {n k : Nat} (h : n < k) : chs n k = 0 := by
 induction n generalizing k with
 | zero => cases k with
  | zero => omega
  | succ k => rfl
 | succ n ih => cases k with
  | zero => omega
  | succ k => rw [chs_succ, ih (by omega), ih (by omega)]
theorem chs_self (n : Nat) : chs n n = 1 := by
 induction n with
 | zero => rfl
 | succ n ih => rw [chs_succ, ih, chs_gt (by omega)]
theorem chs_mul (n k : Nat) : (k + 1) * chs (n + 1) (k + 1) = (n + 1) * chs n k := by
 induction n generalizing k with
 | zero =>
  cases k with
  | zero => rfl
  | succ k => rw [chs_gt (by omega), chs_gt (by omega)]; simp
 | succ n ih =>
  rw [chs_succ, Nat.mul_add, ih]
  cases k with
  | zero => simp [chs_zero]; omega
  | succ j =>
   have h := ih j
   have e : (j + 1 + 1) * chs (n + 1) (j + 1) = (j + 1) * chs (n + 1) (j + 1) + chs (n + 1) (j + 1) := by rw [Nat.add_mul (j + 1) 1, Nat.one_mul]
   rw [e, h, chs_succ n j, Nat.add_mul (n + 1) 1, Nat.one_mul, Nat.mul_add]
   omega
def bsum (n a : Nat) : Nat → Nat
 | 0 => 0
 | k + 1 => bsum n a k + chs n k * a ^ k
theorem bsum_succ (n a k : Nat) : bsum n a (k + 1) = bsum n a k + chs n k * a ^ k := rfl
theorem bsum_up (n a k : Nat) : bsum (n + 1) a (k + 1) = bsum n a (k + 1) + a * bsum n a k := by
 induction k with
 | zero => simp [bsum, chs_zero]
 | succ k ih =>
  rw [bsum_succ (n + 1), ih, chs_succ, bsum_succ n a (k + 1), bsum_succ n a k, Nat.add_mul, Nat.mul_add, Nat.pow_succ]
  have : a * (chs n k * a ^ k) = chs n k * (a ^ k * a) := by rw [Nat.mul_left_comm, Nat.mul_comm a]
  omega
theorem binom (n a : Nat) : (a + 1) ^ n = bsum n a (n + 1) := by
 induction n with
 | zero => simp [bsum, chs_zero]
 | succ n ih =>
  rw [Nat.pow_succ, ih, bsum_up, bsum_succ n a (n + 1), chs_gt (show n < n + 1 by omega), Nat.zero_mul, Nat.mul_add, Nat.mul_one, Nat.mul_comm a]
  omega
theorem Prm.chs {p k : Nat} (h : Prm p) (h0 : 0 < k) (hk : k < p) : p ∣ chs p k := by
 obtain ⟨j, rfl⟩ : ∃ j, k = j + 1 := ⟨k - 1, by omega⟩
 obtain ⟨q, rfl⟩ : ∃ q, p = q + 1 := ⟨p - 1, by have := h.1; omega⟩
 have e := chs_mul q j
 have hd : (q + 1) ∣ (j + 1) * Proofs.YtdajgcgliidjbaaGreat.chs (q + 1) (j + 1) := ⟨_, e⟩
 rcases h.split hd with h1 | h1
 ·have := Nat.le_of_dvd (by omega) h1
  omega
 ·exact h1
theorem Prm.bsum {p : Nat} (h : Prm p) (a : Nat) {k : Nat} (h0 : 0 < k) (hk : k ≤ p) : ∃ t, bsum p a k = 1 + p * t := by
 induction k with
 | zero => omega
 | succ k ih =>
  by_cases h1 : k = 0
  ·subst h1
   exact ⟨0, by simp [Proofs.YtdajgcgliidjbaaGreat.bsum, chs_zero]⟩
  ·obtain ⟨t, ht⟩ := ih (by omega) (by omega)
   obtain ⟨c, hc⟩ := h.chs (k := k) (by omega) (by omega)
   refine ⟨t + c * a ^ k, ?_⟩
   rw [bsum_succ, ht, hc, Nat.mul_add, Nat.mul_assoc, Nat.add_assoc]
theorem Prm.fermat {p : Nat} (h : Prm p) (a : Nat) : a ^ p % p = a % p := by
 induction a with
 | zero => rw [Nat.zero_pow (by have := h.1; omega)]
 | succ a ih =>
  obtain ⟨t, ht⟩ := h.bsum a (k := p) (by have := h.1; omega) (Nat.le_refl _)
  rw [binom, bsum_succ, chs_self, Nat.one_mul, ht, show 1 + p * t + a ^ p = 1 + a ^ p + p * t from by omega, Nat.add_mul_mod_self_left, Nat.add_mod, ih, ← Nat.add_mod, Nat.add_comm]
theorem Prm.fermat1 {p a : Nat} (h : Prm p) (ha : ¬ p ∣ a) : a ^ (p - 1) % p = 1 := by
 have hp := h.1
 have hf := h.fermat a
 have h1 : p ∣ a ^ p - a := by
  rcases Nat.le_total a (a ^ p) with hle | hle
  ·exact (Nat.dvd_iff_mod_eq_zero ..).2 (Nat.sub_mod_eq_zero_of_mod_eq hf)
  ·rw [Nat.sub_eq_zero_of_le hle]; exact Nat.dvd_zero _
 have ha0 : 0 < a := Nat.pos_of_ne_zero fun e => ha (e ▸ Nat.dvd_zero p)
 have e : a ^ p - a = a * (a ^ (p - 1) - 1) := by
  obtain ⟨q, rfl⟩ : ∃ q, p = q + 1 := ⟨p - 1, by omega⟩
  rw [Nat.add_sub_cancel, Nat.pow_succ, Nat.mul_sub, Nat.mul_one, Nat.mul_comm]
 rw [e] at h1
 rcases h.split h1 with h2 | ⟨t, ht⟩
 ·exact absurd h2 ha
 ·have hpos : 0 < a ^ (p - 1) := Nat.pow_pos ha0
  rw [show a ^ (p - 1) = 1 + p * t from by omega, Nat.add_mul_mod_self_left, Nat.mod_eq_of_lt hp]
theorem least_prm {n : Nat} (hn : 1 < n) : ∃ r, Prm r ∧ r ∣ n := by
 induction n using Nat.strongRecOn with
 | _ n ih =>
  by_cases hp : ∀ d, d ∣ n → d = 1 ∨ d = n
  ·exact ⟨n, ⟨hn, hp⟩, Nat.dvd_refl n⟩
  ·obtain ⟨d, hd⟩ := Classical.not_forall.1 hp
   have hdn : d ∣ n := Classical.byContradiction fun h => hd fun h2 => absurd h2 h
   have h1 : d ≠ 1 := fun e => hd fun _ => .inl e
   have h2 : d ≠ n := fun e => hd fun _ => .inr e
   have hle := Nat.le_of_dvd (by omega) hdn
   have hd0 : d ≠ 0 := fun e => by subst e; have := Nat.eq_zero_of_zero_dvd hdn; omega
   obtain ⟨r, hr, hrd⟩ := ih d (by omega) (by omega)
   exact ⟨r, hr, Nat.dvd_trans hrd hdn⟩
theorem prm_of_roots {n : Nat} (hn : 1 < n) (h : ∀ r, Prm r → r ∣ n → n < r * r) : Prm n := by
 refine ⟨hn, fun d hd => ?_⟩
 by_cases h1 : d = 1
 ·exact .inl h1
 by_cases h2 : d = n
 ·exact .inr h2
 exfalso
 obtain ⟨e, he⟩ := hd
 have hd0 : d ≠ 0 := fun q => by subst q; simp at he; omega
 have he0 : e ≠ 0 := fun q => by subst q; simp at he; omega
 have he1 : e ≠ 1 := fun q => by subst q; simp at he; omega
 obtain ⟨r, hr, hrd⟩ := least_prm (n := d) (by omega)
 obtain ⟨s, hs, hse⟩ := least_prm (n := e) (by omega)
 have a1 := h r hr (Nat.dvd_trans hrd ⟨e, he⟩)
 have a2 := h s hs (Nat.dvd_trans hse ⟨d, by rw [he, Nat.mul_comm]⟩)
 have b1 := Nat.le_of_dvd (by omega) hrd
 have b2 := Nat.le_of_dvd (by omega) hse
 have c1 : r * r ≤ d * d := Nat.mul_le_mul b1 b1
 have c2 : s * s ≤ e * e := Nat.mul_le_mul b2 b2
 rcases Nat.le_total d e with hde | hde
 ·have : d * d ≤ d * e := Nat.mul_le_mul_left _ hde
  omega
 ·have : e * e ≤ d * e := Nat.mul_le_mul_right _ hde
  omega
theorem one_pow_mod {a n m k : Nat} (h : a ^ m % n = 1) (h1 : 1 < n) : a ^ (m * k) % n = 1 := by
 rw [Nat.pow_mul, Nat.pow_mod, h, Nat.one_pow, Nat.mod_eq_of_lt h1]
theorem gcd_pow {a n : Nat} (h1 : 1 < n) (m k : Nat) (hm : a ^ m % n = 1) (hk : a ^ k % n = 1) : a ^ (Nat.gcd m k) % n = 1 := by
 induction m, k using Nat.gcd.induction with
 | H0 k => rw [Nat.gcd_zero_left]; exact hk
 | H1 m k hpos ih =>
  rw [Nat.gcd_rec]
  refine ih ?_ hm
  have e : a ^ k = a ^ (m * (k / m)) * a ^ (k % m) := by rw [← Nat.pow_add, Nat.div_add_mod]
  rw [e, Nat.mul_mod, one_pow_mod hm h1, Nat.one_mul, Nat.mod_mod] at hk
  exact hk
theorem pock_one {n r q k a : Nat} (hq : Prm q) (hr : Prm r) (hrn : r ∣ n) (hn : 1 < n) (hk : q ^ k ∣ n - 1) (h1 : a ^ (n - 1) % n = 1) (h2 : Nat.gcd (a ^ ((n - 1) / q) - 1) n = 1) : q ^ k ∣ r - 1 := by
 have hr1 := hr.1
 have m1 : a ^ (n - 1) % r = 1 := by
  obtain ⟨t, ht⟩ := hrn
  have : a ^ (n - 1) = n * (a ^ (n - 1) / n) + 1 := by have := Nat.div_add_mod (a ^ (n - 1)) n; omega
  rw [this, ht, Nat.mul_assoc, Nat.add_comm, Nat.add_mul_mod_self_left, Nat.mod_eq_of_lt hr1]
 have hra : ¬ r ∣ a := fun h => by
  have h3 : r ∣ a ^ (n - 1) := by
   obtain ⟨m, hm⟩ : ∃ m, n - 1 = m + 1 := ⟨n - 2, by omega⟩
   rw [hm, Nat.pow_succ]
   exact Nat.dvd_trans h (Nat.dvd_mul_left a _)
  rw [Nat.mod_eq_zero_of_dvd h3] at m1
  omega
 have m2 := hr.fermat1 hra
 have m3 := gcd_pow hr1 (n - 1) (r - 1) m1 m2
 obtain ⟨g, hg⟩ : ∃ g, Nat.gcd (n - 1) (r - 1) = g := ⟨_, rfl⟩
 rw [hg] at m3
 have gd1 : g ∣ n - 1 := hg ▸ Nat.gcd_dvd_left _ _
 have gd2 : g ∣ r - 1 := hg ▸ Nat.gcd_dvd_right _ _
 
 have hng : ¬ g ∣ (n - 1) / q := fun ⟨t, ht⟩ => by
  have m4 : a ^ ((n - 1) / q) % r = 1 := by rw [ht]; exact one_pow_mod m3 hr1
  have m5 : r ∣ a ^ ((n - 1) / q) - 1 := ⟨a ^ ((n - 1) / q) / r, by have := Nat.div_add_mod (a ^ ((n - 1) / q)) r; omega⟩
  have : r ∣ 1 := h2 ▸ Nat.dvd_gcd m5 hrn
  have := Nat.le_of_dvd (by omega) this
  omega
 
 refine Nat.dvd_trans ?_ gd2
 obtain ⟨t, ht⟩ := gd1
 have hqt : ¬ q ∣ t := fun ⟨u, hu⟩ => hng ⟨u, by
  rw [ht, hu, show g * (q * u) = g * u * q from by rw [Nat.mul_comm q, Nat.mul_assoc], Nat.mul_div_cancel _ (by have := hq.1; omega)]⟩
 have hc : Nat.Coprime (q ^ k) t := Nat.Coprime.pow_left k (hq.cop hqt)
 rw [ht] at hk
 exact hc.dvd_of_dvd_mul_right hk
def pm (n : Nat) : Nat → Nat → Nat → Nat
 | 0, _, _ => 1 % n
 | f + 1, b, e => if e = 0 then 1 % n else let h := pm n f (b * b % n) (e / 2); if e % 2 = 1 then h * b % n else h
theorem pm_eq (n f b e : Nat) (h : e < 2 ^ f) : pm n f b e = b ^ e % n := by
 induction f generalizing b e with
 | zero =>
  have : e = 0 := by rw [Nat.pow_zero] at h; omega
  subst this
  rw [Nat.pow_zero]; rfl
 | succ f ih =>
  unfold pm
  by_cases h0 : e = 0
  ·subst h0; rw [if_pos rfl, Nat.pow_zero]
  ·rw [if_neg h0]
   have h2 : e / 2 < 2 ^ f := by rw [Nat.pow_succ] at h; omega
   simp only []
   rw [ih _ _ h2]
   have e1 : (b * b % n) ^ (e / 2) % n = b ^ (2 * (e / 2)) % n := by
    rw [← Nat.pow_mod, Nat.pow_mul, Nat.pow_two]
   rw [e1]
   by_cases ho : e % 2 = 1
   ·rw [if_pos ho]
    have : e = 2 * (e / 2) + 1 := by omega
    conv => rhs; rw [this, Nat.pow_succ]
    rw [Nat.mod_mul_mod]
   ·rw [if_neg ho]
    have : e = 2 * (e / 2) := by omega
    conv => rhs; rw [this]
structure Wit where
 q : Nat
 k : Nat
 a : Nat
def wOk (n f : Nat) (x : Wit) : Bool := decide ((n - 1) % (x.q ^ x.k) = 0) && decide (pm n f x.a (n - 1) = 1) && decide (0 < pm n f x.a ((n - 1) / x.q)) && decide (Nat.gcd (pm n f x.a ((n - 1) / x.q) - 1) n = 1)
def wMul : List Wit → Nat
 | [] => 1
 | x :: r => x.q ^ x.k * wMul r
theorem gcd_less {a n m : Nat} (h0 : 0 < m) (hm : a % n = m) (hg : Nat.gcd (m - 1) n = 1) : Nat.gcd (a - 1) n = 1 := by
 have e : a - 1 = m - 1 + n * (a / n) := by have := Nat.div_add_mod a n; omega
 rw [e, Nat.gcd_comm, Nat.gcd_add_mul_left_right, Nat.gcd_comm]; exact hg
theorem w_one {n f r : Nat} {x : Wit} (hf : n < 2 ^ f) (hn : 1 < n) (hq : Prm x.q) (h : wOk n f x = true) (hr : Prm r) (hrn : r ∣ n) : x.q ^ x.k ∣ r - 1 := by
 simp only [wOk, Bool.and_eq_true, decide_eq_true_eq] at h
 obtain ⟨⟨⟨h2, h3⟩, h4⟩, h5⟩ := h
 have hlt : (n - 1) / x.q < 2 ^ f := Nat.lt_of_le_of_lt (Nat.div_le_self _ _) (by omega)
 rw [pm_eq _ _ _ _ (by omega)] at h3
 rw [pm_eq _ _ _ _ hlt] at h4 h5
 exact pock_one hq hr hrn hn (Nat.dvd_of_mod_eq_zero h2) h3 (gcd_less h4 rfl h5)
def wApart : List Wit → Bool
 | [] => true
 | x :: r => r.all (fun y => decide (x.q ≠ y.q)) && wApart r
theorem prm_apart {p q : Nat} (hp : Prm p) (hq : Prm q) (h : p ≠ q) : Nat.Coprime p q := hp.cop fun hd => by
 rcases hq.2 p hd with e | e
 ·have := hp.1; omega
 ·exact h e
theorem w_cop {x : Wit} {l : List Wit} (hx : Prm x.q) (hl : ∀ y ∈ l, Prm y.q) (h : l.all (fun y => decide (x.q ≠ y.q)) = true) : Nat.Coprime (x.q ^ x.k) (wMul l) := by
 induction l with
 | nil => exact Nat.coprime_one_right _
 | cons y r ih =>
  simp only [List.all_cons, Bool.and_eq_true, decide_eq_true_eq] at h
  refine Nat.Coprime.mul_right ?_ (ih (fun z hz => hl z (by simp [hz])) h.2)
  exact Nat.Coprime.pow _ _ (prm_apart hx (hl y (by simp)) h.1)
theorem w_all {n f r : Nat} (hf : n < 2 ^ f) (hn : 1 < n) (l : List Wit) (hl : ∀ y ∈ l, Prm y.q) (h : l.all (wOk n f) = true) (ha : wApart l = true) (hr : Prm r) (hrn : r ∣ n) : wMul l ∣ r - 1 := by
 induction l with
 | nil => exact Nat.one_dvd _
 | cons x t ih =>
  simp only [List.all_cons, Bool.and_eq_true] at h
  simp only [wApart, Bool.and_eq_true] at ha
  exact Nat.Coprime.mul_dvd_of_dvd_of_dvd (w_cop (hl x (by simp)) (fun z hz => hl z (by simp [hz])) ha.1) (w_one hf hn (hl x (by simp)) h.1 hr hrn) (ih (fun z hz => hl z (by simp [hz])) h.2 ha.2)
theorem prm_by {n : Nat} (f : Nat) (l : List Wit) (hl : ∀ y ∈ l, Prm y.q) (h : (decide (1 < n) && decide (n < 2 ^ f) && l.all (wOk n f) && wApart l && decide (n < (wMul l + 1) * (wMul l + 1))) = true) : Prm n := by
 simp only [Bool.and_eq_true, decide_eq_true_eq] at h
 obtain ⟨⟨⟨⟨h1, h2⟩, h3⟩, h4⟩, h5⟩ := h
 refine prm_of_roots h1 fun r hr hrn => ?_
 have hd := w_all h2 h1 l hl h3 h4 hr hrn
 have hr1 := hr.1
 have hle := Nat.le_of_dvd (by omega) hd
 exact Nat.lt_of_lt_of_le h5 (Nat.mul_le_mul (by omega) (by omega))
def noDiv (n : Nat) : Nat → Nat → Bool
 | 0, _ => true
 | k + 1, d => decide (n % d ≠ 0) && noDiv n k (d + 1)
theorem noDiv_at {n : Nat} : ∀ (k d : Nat), noDiv n k d = true → ∀ e, d ≤ e → e < d + k → ¬ e ∣ n
 | 0, _, _, e, h1, h2 => by omega
 | k + 1, d, h, e, h1, h2 => by
  simp only [noDiv, Bool.and_eq_true, decide_eq_true_eq] at h
  rcases Nat.eq_or_lt_of_le h1 with rfl | h3
  ·intro hd; exact h.1 (Nat.mod_eq_zero_of_dvd hd)
  ·exact noDiv_at k (d + 1) h.2 e h3 (by omega)
theorem prm_small {n : Nat} (k : Nat) (h : (decide (1 < n) && noDiv n k 2 && decide (n < (k + 2) * (k + 2))) = true) : Prm n := by
 simp only [Bool.and_eq_true, decide_eq_true_eq] at h
 obtain ⟨⟨h1, h2⟩, h3⟩ := h
 refine prm_of_roots h1 fun r hr hrn => ?_
 have hr1 := hr.1
 have : ¬ r < 2 + k := fun hlt => noDiv_at k 2 h2 r hr1 hlt hrn
 exact Nat.lt_of_lt_of_le h3 (Nat.mul_le_mul (by omega) (by omega))
end Go.Proofs.YtdajgcgliidjbaaGreat
namespace Go.Proofs.YtdajgcgliidjbaaGreat
abbrev Gz := Int × Int
def gm (x y : Gz) : Gz := (x.1 * y.1 - x.2 * y.2, x.1 * y.2 + x.2 * y.1)
def ga (x y : Gz) : Gz := (x.1 + y.1, x.2 + y.2)
def gk (c : Int) (x : Gz) : Gz := (c * x.1, c * x.2)
def gcj (x : Gz) : Gz := (x.1, -x.2)
def gn (x : Gz) : Int := x.1 * x.1 + x.2 * x.2
def gpow (x : Gz) : Nat → Gz
 | 0 => (1, 0)
 | k + 1 => gm (gpow x k) x
theorem gz_ext {x y : Gz} (h1 : x.1 = y.1) (h2 : x.2 = y.2) : x = y := by cases x; cases y; simp_all
theorem gm_comm (x y : Gz) : gm x y = gm y x := gz_ext (by simp only [gm]; grind) (by simp only [gm]; grind)
theorem gm_assoc (x y z : Gz) : gm (gm x y) z = gm x (gm y z) := gz_ext (by simp only [gm]; grind) (by simp only [gm]; grind)
theorem gm_ga (x y z : Gz) : gm x (ga y z) = ga (gm x y) (gm x z) := gz_ext (by simp only [gm, ga]; grind) (by simp only [gm, ga]; grind)
theorem gn_gm (x y : Gz) : gn (gm x y) = gn x * gn y := by simp only [gm, gn]; grind
structure GC (n : Int) (x y : Gz) : Prop where
 a : n ∣ x.1 - y.1
 b : n ∣ x.2 - y.2
theorem GC.refl (n : Int) (x : Gz) : GC n x x := ⟨by rw [Int.sub_self]; exact Int.dvd_zero n, by rw [Int.sub_self]; exact Int.dvd_zero n⟩
theorem GC.symm {n : Int} {x y : Gz} (h : GC n x y) : GC n y x := by
 obtain ⟨⟨c, hc⟩, ⟨d, hd⟩⟩ := h
 exact ⟨⟨-c, by grind⟩, ⟨-d, by grind⟩⟩
theorem GC.trans {n : Int} {x y z : Gz} (h : GC n x y) (k : GC n y z) : GC n x z := by
 obtain ⟨⟨c, hc⟩, ⟨d, hd⟩⟩ := h
 obtain ⟨⟨e, he⟩, ⟨f, hf⟩⟩ := k
 exact ⟨⟨c + e, by grind⟩, ⟨d + f, by grind⟩⟩
theorem GC.add {n : Int} {x y u v : Gz} (h : GC n x y) (k : GC n u v) : GC n (ga x u) (ga y v) := by
 obtain ⟨⟨c, hc⟩, ⟨d, hd⟩⟩ := h
 obtain ⟨⟨e, he⟩, ⟨f, hf⟩⟩ := k
 exact ⟨⟨c + e, by simp only [ga]; grind⟩, ⟨d + f, by simp only [ga]; grind⟩⟩
theorem GC.mul {n : Int} {x y u v : Gz} (h : GC n x y) (k : GC n u v) : GC n (gm x u) (gm y v) := by
 obtain ⟨⟨c, hc⟩, ⟨d, hd⟩⟩ := h
 obtain ⟨⟨e, he⟩, ⟨f, hf⟩⟩ := k
 refine ⟨⟨c * u.1 + y.1 * e - d * u.2 - y.2 * f, ?_⟩, ⟨c * u.2 + y.1 * f + d * u.1 + y.2 * e, ?_⟩⟩ <;> simp only [gm] <;> grind
theorem GC.pow {n : Int} {x y : Gz} (h : GC n x y) (k : Nat) : GC n (gpow x k) (gpow y k) := by
 induction k with
 | zero => exact GC.refl _ _
 | succ k ih => exact ih.mul h
theorem GC.cj {n : Int} {x y : Gz} (h : GC n x y) : GC n (gcj x) (gcj y) := by
 obtain ⟨⟨c, hc⟩, ⟨d, hd⟩⟩ := h
 exact ⟨⟨c, hc⟩, ⟨-d, by simp only [gcj]; grind⟩⟩
theorem Prm.two_squares {p : Nat} (h : Prm p) (h4 : p % 4 = 3) {a b : Nat} (hd : p ∣ a * a + b * b) : p ∣ a ∧ p ∣ b := by
 have hp := h.1
 by_cases hb : p ∣ b
 ·have h2 : p ∣ a * a := (Nat.dvd_add_left (Nat.dvd_trans hb (Nat.dvd_mul_right b b))).1 hd
  rcases h.split h2 with h3 | h3 <;> exact ⟨h3, hb⟩
 ·exfalso
  have ha : ¬ p ∣ a := fun ha => by
   have h2 : p ∣ b * b := (Nat.dvd_add_right (Nat.dvd_trans ha (Nat.dvd_mul_right a a))).1 hd
   rcases h.split h2 with h3 | h3 <;> exact hb h3
  obtain ⟨m, hm⟩ : ∃ m, p = 4 * m + 3 := ⟨p / 4, by omega⟩
  have f1 := h.fermat1 ha
  have f2 := h.fermat1 hb
  have e : p - 1 = 2 * (2 * m + 1) := by omega
  have key : ∀ k : Nat, (p : Int) ∣ ((a : Int) * a) ^ (2 * k + 1) + ((b : Int) * b) ^ (2 * k + 1) := by
   intro k
   have hI : (p : Int) ∣ (a : Int) * a + (b : Int) * b := by exact_mod_cast hd
   obtain ⟨c, hc⟩ := hI
   generalize (a : Int) * a = A at *
   generalize (b : Int) * b = B at *
   induction k with
   | zero => exact ⟨c, by rw [Nat.mul_zero, Nat.zero_add, Int.pow_succ, Int.pow_succ, Int.pow_zero, Int.pow_zero, Int.one_mul, Int.one_mul]; exact hc⟩
   | succ k ih =>
    obtain ⟨d, hdd⟩ := ih
    have e1 : A ^ (2 * (k + 1) + 1) = A ^ (2 * k + 1) * (A * A) := by rw [show 2 * (k + 1) + 1 = 2 * k + 1 + 2 from by omega, Int.pow_add, show (2 : Nat) = 1 + 1 from rfl, Int.pow_succ A 1, Int.pow_succ A 0, Int.pow_zero, Int.one_mul]
    have e2 : B ^ (2 * (k + 1) + 1) = B ^ (2 * k + 1) * (B * B) := by rw [show 2 * (k + 1) + 1 = 2 * k + 1 + 2 from by omega, Int.pow_add, show (2 : Nat) = 1 + 1 from rfl, Int.pow_succ B 1, Int.pow_succ B 0, Int.pow_zero, Int.one_mul]
    rw [e1, e2]
    generalize A ^ (2 * k + 1) = U at *
    generalize B ^ (2 * k + 1) = V at *
    refine ⟨d * (A * A) + V * c * (B - A), ?_⟩
    grind
  have k1 := key m
  have ea : ((a : Int) * a) ^ (2 * m + 1) = ((a ^ (p - 1) : Nat) : Int) := by
   rw [e, Nat.pow_mul, Nat.pow_two]; simp
  have eb : ((b : Int) * b) ^ (2 * m + 1) = ((b ^ (p - 1) : Nat) : Int) := by
   rw [e, Nat.pow_mul, Nat.pow_two]; simp
  rw [ea, eb] at k1
  have k2 : p ∣ a ^ (p - 1) + b ^ (p - 1) := by exact_mod_cast k1
  have k3 : (a ^ (p - 1) + b ^ (p - 1)) % p = 2 % p := by rw [Nat.add_mod, f1, f2]
  rw [Nat.mod_eq_zero_of_dvd k2, Nat.mod_eq_of_lt (by omega)] at k3
  omega
end Go.Proofs.YtdajgcgliidjbaaGreat
namespace Go.Proofs.YtdajgcgliidjbaaGreat
theorem prm_18959 : Prm 18959 := prm_small 136 (by decide +kernel)
theorem prm_1706311 : Prm 1706311 := by
 refine prm_by 21 [⟨18959, 1, 2⟩] ?_ (by decide +kernel)
 intro y hy
 simp only [List.mem_cons, List.not_mem_nil, or_false] at hy
 subst hy
 ·exact prm_18959
theorem prm_2 : Prm 2 := prm_small 0 (by decide +kernel)
theorem prm_37 : Prm 37 := prm_small 5 (by decide +kernel)
theorem prm_1704961 : Prm 1704961 := by
 refine prm_by 21 [⟨2, 10, 7⟩, ⟨37, 1, 2⟩] ?_ (by decide +kernel)
 intro y hy
 simp only [List.mem_cons, List.not_mem_nil, or_false] at hy
 rcases hy with rfl | rfl
 ·exact prm_2
 ·exact prm_37
theorem prm_19 : Prm 19 := prm_small 3 (by decide +kernel)
theorem prm_7 : Prm 7 := prm_small 1 (by decide +kernel)
theorem prm_15566321 : Prm 15566321 := by
 refine prm_by 24 [⟨19, 2, 2⟩, ⟨7, 2, 2⟩] ?_ (by decide +kernel)
 intro y hy
 simp only [List.mem_cons, List.not_mem_nil, or_false] at hy
 rcases hy with rfl | rfl
 ·exact prm_19
 ·exact prm_7
theorem prm_31132643 : Prm 31132643 := by
 refine prm_by 25 [⟨15566321, 1, 2⟩] ?_ (by decide +kernel)
 intro y hy
 simp only [List.mem_cons, List.not_mem_nil, or_false] at hy
 subst hy
 ·exact prm_15566321
theorem prm_10647363907 : Prm 10647363907 := by
 refine prm_by 34 [⟨31132643, 1, 2⟩] ?_ (by decide +kernel)
 intro y hy
 simp only [List.mem_cons, List.not_mem_nil, or_false] at hy
 subst hy
 ·exact prm_31132643
theorem prm_9831361 : Prm 9831361 := by
 refine prm_by 24 [⟨2, 6, 13⟩, ⟨7, 2, 2⟩] ?_ (by decide +kernel)
 intro y hy
 simp only [List.mem_cons, List.not_mem_nil, or_false] at hy
 rcases hy with rfl | rfl
 ·exact prm_2
 ·exact prm_7
theorem prm_3557 : Prm 3557 := prm_small 58 (by decide +kernel)
theorem prm_911 : Prm 911 := prm_small 29 (by decide +kernel)
theorem prm_1263766531 : Prm 1263766531 := by
 refine prm_by 31 [⟨3557, 1, 2⟩, ⟨911, 1, 2⟩] ?_ (by decide +kernel)
 intro y hy
 simp only [List.mem_cons, List.not_mem_nil, or_false] at hy
 rcases hy with rfl | rfl
 ·exact prm_3557
 ·exact prm_911
theorem prm_35385462869 : Prm 35385462869 := by
 refine prm_by 36 [⟨1263766531, 1, 2⟩] ?_ (by decide +kernel)
 intro y hy
 simp only [List.mem_cons, List.not_mem_nil, or_false] at hy
 subst hy
 ·exact prm_1263766531
theorem prm_2480874801745591 : Prm 2480874801745591 := by
 refine prm_by 52 [⟨35385462869, 1, 2⟩] ?_ (by decide +kernel)
 intro y hy
 simp only [List.mem_cons, List.not_mem_nil, or_false] at hy
 subst hy
 ·exact prm_35385462869
theorem prm_13327 : Prm 13327 := prm_small 114 (by decide +kernel)
theorem prm_173171039 : Prm 173171039 := by
 refine prm_by 28 [⟨13327, 1, 2⟩] ?_ (by decide +kernel)
 intro y hy
 simp only [List.mem_cons, List.not_mem_nil, or_false] at hy
 subst hy
 ·exact prm_13327
theorem prm_13427688667394608761327070753331941386769 : Prm 13427688667394608761327070753331941386769 := by
 refine prm_by 134 [⟨2480874801745591, 1, 2⟩, ⟨173171039, 1, 2⟩] ?_ (by decide +kernel)
 intro y hy
 simp only [List.mem_cons, List.not_mem_nil, or_false] at hy
 rcases hy with rfl | rfl
 ·exact prm_2480874801745591
 ·exact prm_173171039
theorem prm_21888242871839275222246405745257275088696311157297823662689037894645226208583 : Prm 21888242871839275222246405745257275088696311157297823662689037894645226208583 := by
 refine prm_by 254 [⟨13427688667394608761327070753331941386769, 1, 2⟩] ?_ (by decide +kernel)
 intro y hy
 simp only [List.mem_cons, List.not_mem_nil, or_false] at hy
 subst hy
 ·exact prm_13427688667394608761327070753331941386769
theorem prm_1637 : Prm 1637 := prm_small 39 (by decide +kernel)
theorem prm_853 : Prm 853 := prm_small 28 (by decide +kernel)
theorem prm_639533339 : Prm 639533339 := by
 refine prm_by 30 [⟨1637, 1, 2⟩, ⟨853, 1, 2⟩] ?_ (by decide +kernel)
 intro y hy
 simp only [List.mem_cons, List.not_mem_nil, or_false] at hy
 rcases hy with rfl | rfl
 ·exact prm_1637
 ·exact prm_853
theorem prm_65865678001877903 : Prm 65865678001877903 := by
 refine prm_by 56 [⟨639533339, 1, 2⟩] ?_ (by decide +kernel)
 intro y hy
 simp only [List.mem_cons, List.not_mem_nil, or_false] at hy
 subst hy
 ·exact prm_639533339
theorem prm_13818364434197438864469338081 : Prm 13818364434197438864469338081 := by
 refine prm_by 94 [⟨65865678001877903, 1, 2⟩] ?_ (by decide +kernel)
 intro y hy
 simp only [List.mem_cons, List.not_mem_nil, or_false] at hy
 subst hy
 ·exact prm_65865678001877903
theorem prm_93001 : Prm 93001 := prm_small 303 (by decide +kernel)
theorem prm_661 : Prm 661 := prm_small 24 (by decide +kernel)
theorem prm_12048837557 : Prm 12048837557 := by
 refine prm_by 34 [⟨93001, 1, 2⟩, ⟨661, 1, 2⟩] ?_ (by decide +kernel)
 intro y hy
 simp only [List.mem_cons, List.not_mem_nil, or_false] at hy
 rcases hy with rfl | rfl
 ·exact prm_93001
 ·exact prm_661
theorem prm_5156902474397 : Prm 5156902474397 := by
 refine prm_by 43 [⟨12048837557, 1, 2⟩] ?_ (by decide +kernel)
 intro y hy
 simp only [List.mem_cons, List.not_mem_nil, or_false] at hy
 subst hy
 ·exact prm_12048837557
theorem prm_1670836401704629 : Prm 1670836401704629 := by
 refine prm_by 51 [⟨5156902474397, 1, 2⟩] ?_ (by decide +kernel)
 intro y hy
 simp only [List.mem_cons, List.not_mem_nil, or_false] at hy
 subst hy
 ·exact prm_5156902474397
theorem prm_21888242871839275222246405745257275088548364400416034343698204186575808495617 : Prm 21888242871839275222246405745257275088548364400416034343698204186575808495617 := by
 refine prm_by 254 [⟨13818364434197438864469338081, 1, 2⟩, ⟨1670836401704629, 1, 2⟩] ?_ (by decide +kernel)
 intro y hy
 simp only [List.mem_cons, List.not_mem_nil, or_false] at hy
 rcases hy with rfl | rfl
 ·exact prm_13818364434197438864469338081
 ·exact prm_1670836401704629
theorem prm_110573 : Prm 110573 := prm_small 331 (by decide +kernel)
theorem prm_2653753 : Prm 2653753 := by
 refine prm_by 22 [⟨110573, 1, 2⟩] ?_ (by decide +kernel)
 intro y hy
 simp only [List.mem_cons, List.not_mem_nil, or_false] at hy
 subst hy
 ·exact prm_110573
theorem prm_63690073 : Prm 63690073 := by
 refine prm_by 26 [⟨2653753, 1, 2⟩] ?_ (by decide +kernel)
 intro y hy
 simp only [List.mem_cons, List.not_mem_nil, or_false] at hy
 subst hy
 ·exact prm_2653753
theorem prm_254760293 : Prm 254760293 := by
 refine prm_by 28 [⟨63690073, 1, 2⟩] ?_ (by decide +kernel)
 intro y hy
 simp only [List.mem_cons, List.not_mem_nil, or_false] at hy
 subst hy
 ·exact prm_63690073
theorem prm_906349 : Prm 906349 := prm_small 951 (by decide +kernel)
theorem prm_52435875175126190479447740508185965837690552500527637822603658699938581184513 : Prm 52435875175126190479447740508185965837690552500527637822603658699938581184513 := by
 refine prm_by 255 [⟨254760293, 2, 2⟩, ⟨906349, 2, 2⟩, ⟨2, 32, 5⟩] ?_ (by decide +kernel)
 intro y hy
 simp only [List.mem_cons, List.not_mem_nil, or_false] at hy
 rcases hy with rfl | rfl | rfl
 ·exact prm_254760293
 ·exact prm_906349
 ·exact prm_2
theorem prm_421987 : Prm 421987 := prm_small 648 (by decide +kernel)
theorem prm_13090036741 : Prm 13090036741 := by
 refine prm_by 34 [⟨421987, 1, 2⟩] ?_ (by decide +kernel)
 intro y hy
 simp only [List.mem_cons, List.not_mem_nil, or_false] at hy
 subst hy
 ·exact prm_421987
theorem prm_755057 : Prm 755057 := prm_small 867 (by decide +kernel)
theorem prm_3819663927398918131021 : Prm 3819663927398918131021 := by
 refine prm_by 72 [⟨13090036741, 1, 2⟩, ⟨755057, 1, 2⟩] ?_ (by decide +kernel)
 intro y hy
 simp only [List.mem_cons, List.not_mem_nil, or_false] at hy
 rcases hy with rfl | rfl
 ·exact prm_13090036741
 ·exact prm_755057
theorem prm_1125266252156850182658904441386709967 : Prm 1125266252156850182658904441386709967 := by
 refine prm_by 120 [⟨3819663927398918131021, 1, 2⟩] ?_ (by decide +kernel)
 intro y hy
 simp only [List.mem_cons, List.not_mem_nil, or_false] at hy
 subst hy
 ·exact prm_3819663927398918131021
theorem prm_15778400344354997994418419698270088123916926905054652752758194827714659 : Prm 15778400344354997994418419698270088123916926905054652752758194827714659 := by
 refine prm_by 234 [⟨1125266252156850182658904441386709967, 1, 2⟩] ?_ (by decide +kernel)
 intro y hy
 simp only [List.mem_cons, List.not_mem_nil, or_false] at hy
 subst hy
 ·exact prm_1125266252156850182658904441386709967
theorem prm_4002409555221667393417789825735904156556882819939007885332058136124031650490837864442687629129015664037894272559787 : Prm 4002409555221667393417789825735904156556882819939007885332058136124031650490837864442687629129015664037894272559787 := by
 refine prm_by 381 [⟨15778400344354997994418419698270088123916926905054652752758194827714659, 1, 2⟩] ?_ (by decide +kernel)
 intro y hy
 simp only [List.mem_cons, List.not_mem_nil, or_false] at hy
 subst hy
 ·exact prm_15778400344354997994418419698270088123916926905054652752758194827714659
end Go.Proofs.YtdajgcgliidjbaaGreat
namespace Go.Proofs.YtdajgcgliidjbaaGreat
theorem prm_trial {n : Nat} (h3 : 3 ≤ n) (ho : n % 2 = 1) (h : ∀ k, 3 ≤ k → k % 2 = 1 → k * k ≤ n → n % k ≠ 0) : Prm n := by
 refine prm_of_roots (by omega) fun r hr hrn => ?_
 rcases Nat.lt_or_ge n (r * r) with h1 | h1
 ·exact h1
 ·exfalso
  have hr1 := hr.1
  have hm := Nat.mod_eq_zero_of_dvd hrn
  by_cases h2 : r % 2 = 1
  ·exact h r (by omega) h2 h1 hm
  ·have : 2 ∣ n := Nat.dvd_trans (Nat.dvd_of_mod_eq_zero (by omega)) hrn
   omega
theorem Prm.no_part {n k : Nat} (hp : Prm n) (h3 : 3 ≤ k) (hk : k * k ≤ n) : n % k ≠ 0 := fun h => by
 rcases hp.2 k (Nat.dvd_of_mod_eq_zero h) with e | e
 ·omega
 ·subst e
  have := Nat.mul_le_mul_right k h3
  omega
theorem Prm.odd {p : Nat} (hp : Prm p) (h3 : 3 ≤ p) : p % 2 = 1 := by
 rcases Nat.mod_two_eq_zero_or_one p with h | h
 ·rcases hp.2 2 (Nat.dvd_of_mod_eq_zero h) with e | e <;> omega
 ·exact h
theorem Prm.sq_one {p x : Nat} (h : Prm p) (hx : x * x % p = 1) : x % p = 1 ∨ x % p = p - 1 := by
 have hp := h.1
 rcases Nat.eq_zero_or_pos x with rfl | hx1
 ·simp at hx
 obtain ⟨y, rfl⟩ : ∃ y, x = y + 1 := ⟨x - 1, by omega⟩
 have hd : p ∣ y * (y + 2) := by
  refine ⟨(y + 1) * (y + 1) / p, ?_⟩
  have h1 := Nat.div_add_mod ((y + 1) * (y + 1)) p
  have e : (y + 1) * (y + 1) = y * (y + 2) + 1 := by simp only [Nat.mul_add, Nat.add_mul]; omega
  omega
 rcases h.split hd with h1 | h1
 ·left; obtain ⟨t, rfl⟩ := h1; rw [Nat.mul_add_mod, Nat.mod_eq_of_lt hp]
 ·right
  obtain ⟨t, ht⟩ := h1
  rcases t with _ | s
  ·omega
  ·have e : y + 1 = p * s + (p - 1) := by rw [Nat.mul_add] at ht; omega
   rw [e, Nat.mul_add_mod, Nat.mod_eq_of_lt (by omega)]
theorem Prm.euler {p a : Nat} (h : Prm p) (ho : p % 2 = 1) (ha : ¬ p ∣ a) : a ^ ((p - 1) / 2) % p = 1 ∨ a ^ ((p - 1) / 2) % p = p - 1 := by
 refine h.sq_one ?_
 rw [← Nat.pow_add, show (p - 1) / 2 + (p - 1) / 2 = p - 1 by omega]
 exact h.fermat1 ha
theorem Prm.euler_sq {p b : Nat} (h : Prm p) (ho : p % 2 = 1) (hb : ¬ p ∣ b) : (b * b) ^ ((p - 1) / 2) % p = 1 := by
 rw [← Nat.pow_two, ← Nat.pow_mul, show 2 * ((p - 1) / 2) = p - 1 by omega]
 exact h.fermat1 hb
theorem Prm.pow_dvd {p a n : Nat} (h : Prm p) (hd : p ∣ a ^ n) : p ∣ a := by
 induction n with
 | zero => rw [Nat.pow_zero] at hd; have := h.1; have := Nat.le_of_dvd (by omega) hd; omega
 | succ n ih =>
  rw [Nat.pow_succ] at hd
  rcases h.split hd with h1 | h1
  ·exact ih h1
  ·exact h1
def symN (a p : Nat) : Int := if a ^ ((p - 1) / 2) % p = 0 then 0 else if a ^ ((p - 1) / 2) % p = 1 then 1 else -1
theorem symN_zero {p a : Nat} (h : Prm p) (h3 : 3 ≤ p) : symN a p = 0 ↔ p ∣ a := by
 unfold symN
 constructor
 ·intro hs
  split at hs
  ·rename_i h0; exact h.pow_dvd (Nat.dvd_of_mod_eq_zero h0)
  ·split at hs <;> exact absurd hs (by decide)
 ·intro hd
  rw [if_pos]
  exact Nat.mod_eq_zero_of_dvd (Nat.dvd_trans hd (Nat.dvd_trans (by rw [Nat.pow_one]; exact Nat.dvd_refl a : a ∣ a ^ 1) (Nat.pow_dvd_pow a (by omega))))
theorem symN_cases {p a : Nat} (h : Prm p) (h3 : 3 ≤ p) (ha : ¬ p ∣ a) : (symN a p = 1 ∧ a ^ ((p - 1) / 2) % p = 1) ∨ (symN a p = -1 ∧ a ^ ((p - 1) / 2) % p = p - 1) := by
 unfold symN
 rcases h.euler (h.odd h3) ha with e | e
 ·left; rw [e]; exact ⟨rfl, rfl⟩
 ·right; rw [e, if_neg (by omega), if_neg (by omega)]; exact ⟨rfl, rfl⟩
theorem symN_sq {p b : Nat} (h : Prm p) (h3 : 3 ≤ p) (hb : ¬ p ∣ b) : symN (b * b) p = 1 := by
 unfold symN; rw [h.euler_sq (h.odd h3) hb]; rfl
theorem symN_mod (p a : Nat) : symN (a % p) p = symN a p := by
 unfold symN; rw [← Nat.pow_mod]
theorem Prm.two_roots {p x y : Nat} (h : Prm p) (hx : x < p) (hy : y < p) (he : x * x % p = y * y % p) : x = y ∨ x + y = p ∨ (x = 0 ∧ y = 0) := by
 have key : ∀ a b : Nat, b ≤ a → a < p → a * a % p = b * b % p → a = b ∨ a + b = p := by
  intro a b hab ha e
  obtain ⟨d, rfl⟩ : ∃ d, a = b + d := ⟨a - b, by omega⟩
  have hd : p ∣ d * (b + d + b) := by
   have e1 : (b + d) * (b + d) = b * b + d * (b + d + b) := by simp only [Nat.mul_add, Nat.add_mul, Nat.mul_comm d b]; omega
   have h1 := Nat.div_add_mod ((b + d) * (b + d)) p
   have h2 := Nat.div_add_mod (b * b) p
   have hle : b * b / p ≤ (b + d) * (b + d) / p := Nat.div_le_div_right (by omega)
   refine ⟨(b + d) * (b + d) / p - b * b / p, ?_⟩
   rw [Nat.mul_sub]
   have hle2 := Nat.mul_le_mul_left p hle
   omega
  rcases h.split hd with h1 | h1
  ·left
   rcases Nat.eq_zero_or_pos d with h0 | h0
   ·omega
   ·have := Nat.le_of_dvd h0 h1; omega
  ·obtain ⟨t, ht⟩ := h1
   rcases t with _ | _ | t
   ·left; omega
   ·right; omega
   ·exfalso
    have : p * 2 ≤ p * (t + 1 + 1) := Nat.mul_le_mul_left p (by omega)
    omega
 rcases Nat.le_total y x with h1 | h1
 ·rcases key x y h1 hx he with e | e
  ·exact .inl e
  ·exact .inr (.inl e)
 ·rcases key y x h1 hy he.symm with e | e
  ·exact .inl e.symm
  ·exact .inr (.inl (by omega))
def hasPart (n : Nat) : Nat → Nat → Bool
 | 0, _ => false
 | k + 1, d => if n < d * d then false else if n % d = 0 then true else hasPart n k (d + 2)
theorem hasPart_no {n : Nat} (hp : Prm n) : ∀ (k d : Nat), 3 ≤ d → hasPart n k d = false
 | 0, _, _ => rfl
 | k + 1, d, h3 => by
  unfold hasPart
  by_cases h1 : n < d * d
  ·rw [if_pos h1]
  ·rw [if_neg h1, if_neg (hp.no_part h3 (by omega)), hasPart_no hp k (d + 2) (by omega)]
def noSq (p : Nat) : Nat → Nat → Bool
 | 0, _ => false
 | f + 1, n => if pm p 14 n ((p - 1) / 2) = p - 1 then true else noSq p f (n + 1)
theorem noSq_at {p : Nat} (hp : p < 16384) : ∀ (f n : Nat), noSq p f n = true → ∃ m, n ≤ m ∧ m < n + f ∧ m ^ ((p - 1) / 2) % p = p - 1
 | 0, _, h => by simp [noSq] at h
 | f + 1, n, h => by
  unfold noSq at h
  by_cases h1 : pm p 14 n ((p - 1) / 2) = p - 1
  ·refine ⟨n, Nat.le_refl _, by omega, ?_⟩
   rw [← pm_eq p 14 n _ (by rw [show (2 : Nat) ^ 14 = 16384 from rfl]; omega)]; exact h1
  ·rw [if_neg h1] at h
   obtain ⟨m, h2, h3, h4⟩ := noSq_at hp f (n + 1) h
   exact ⟨m, by omega, by omega, h4⟩
def noSqAll : Nat → Nat → Bool
 | 0, _ => true
 | k + 1, p => (hasPart p 50 3 || noSq p 60 2) && noSqAll k (p + 2)
theorem noSqAll_at : ∀ (k q : Nat), noSqAll k q = true → ∀ p, q ≤ p → p < q + 2 * k → p % 2 = q % 2 → (hasPart p 50 3 || noSq p 60 2) = true
 | 0, q, _, p, h1, h2, _ => by omega
 | k + 1, q, h, p, h1, h2, h3 => by
  simp only [noSqAll, Bool.and_eq_true] at h
  rcases Nat.eq_or_lt_of_le h1 with rfl | h4
  ·exact h.1
  ·exact noSqAll_at k (q + 2) h.2 p (by omega) (by omega) (by omega)
theorem noSq_1 : noSqAll 2500 3 = true := by decide +kernel
theorem noSq_2 : noSqAll 2500 5003 = true := by decide +kernel
theorem no_square_small {p : Nat} (h : Prm p) (h3 : 3 ≤ p) (hlt : p < 10000) : ∃ m, 2 ≤ m ∧ m < 62 ∧ m ^ ((p - 1) / 2) % p = p - 1 := by
 have ho := h.odd h3
 have hn := hasPart_no h 50 3 (Nat.le_refl _)
 have : (hasPart p 50 3 || noSq p 60 2) = true := by
  rcases Nat.lt_or_ge p 5003 with h1 | h1
  ·exact noSqAll_at 2500 3 noSq_1 p h3 (by omega) (by omega)
  ·exact noSqAll_at 2500 5003 noSq_2 p h1 (by omega) (by omega)
 rw [hn, Bool.false_or] at this
 obtain ⟨m, h1, h2, h4⟩ := noSq_at (by omega) 60 2 this
 exact ⟨m, h1, h2, h4⟩
end Go.Proofs.YtdajgcgliidjbaaGreat
namespace Go.Proofs.YtdajgcgliidjbaaGreat
theorem neg_sq {p : Nat} (h : 2 ≤ p) : (p - 1) * (p - 1) % p = 1 := by
 obtain ⟨q, rfl⟩ : ∃ q, p = q + 2 := ⟨p - 2, by omega⟩
 have e : (q + 2 - 1) * (q + 2 - 1) = (q + 2) * q + 1 := by
  rw [show q + 2 - 1 = q + 1 by omega]; simp only [Nat.mul_add, Nat.add_mul]; omega
 rw [e, Nat.mul_add_mod, Nat.mod_eq_of_lt (by omega)]
theorem pow_two_up (b m : Nat) (h : 1 ≤ m) : b ^ (2 ^ (m - 1)) * b ^ (2 ^ (m - 1)) = b ^ (2 ^ m) := by
 rw [← Nat.pow_add]; congr 1
 obtain ⟨k, rfl⟩ : ∃ k, m = k + 1 := ⟨m - 1, by omega⟩
 rw [Nat.pow_succ]; simp only [Nat.add_sub_cancel]; omega
structure TS (p a x b g t : Nat) : Prop where
 pos : 1 ≤ t
 sq : x * x % p = a * b % p
 one : b ^ (2 ^ (t - 1)) % p = 1
 neg : g ^ (2 ^ (t - 1)) % p = p - 1
theorem TS.mod {p a x b g t : Nat} (h : TS p a x b g t) : TS p a (x % p) (b % p) (g % p) t :=
 ⟨h.pos, by rw [← Nat.mul_mod, h.sq, Nat.mul_mod_mod], by rw [← Nat.pow_mod]; exact h.one, by rw [← Nat.pow_mod]; exact h.neg⟩
theorem half_twos {p s q : Nat} (hs : 1 ≤ s) (hp : p - 1 = 2 ^ s * q) : q * 2 ^ (s - 1) = (p - 1) / 2 := by
 obtain ⟨k, rfl⟩ : ∃ k, s = k + 1 := ⟨s - 1, by omega⟩
 rw [hp, Nat.pow_succ, Nat.add_sub_cancel, Nat.mul_assoc, Nat.mul_comm 2 q, ← Nat.mul_assoc, Nat.mul_div_cancel _ (by omega), Nat.mul_comm]
theorem TS.start {p a z s q : Nat} (hs : 1 ≤ s) (hp : p - 1 = 2 ^ s * q) (hq : q % 2 = 1) (ha : a ^ ((p - 1) / 2) % p = 1) (hz : z ^ ((p - 1) / 2) % p = p - 1) :
  TS p a (a ^ ((q + 1) / 2)) (a ^ q) (z ^ q) s := by
 refine ⟨hs, ?_, ?_, ?_⟩
 ·rw [← Nat.pow_add, show (q + 1) / 2 + (q + 1) / 2 = q + 1 by omega, Nat.pow_succ, Nat.mul_comm]
 ·rw [← Nat.pow_mul, half_twos hs hp]; exact ha
 ·rw [← Nat.pow_mul, half_twos hs hp]; exact hz
theorem TS.next {p a x b g t m : Nat} (hp : Prm p) (h : TS p a x b g t) (h1 : 1 ≤ m) (hm : m < t) (hb : b ^ (2 ^ m) % p = 1) (hn : b ^ (2 ^ (m - 1)) % p ≠ 1) :
  TS p a (x * g ^ (2 ^ (t - m - 1))) (b * (g ^ (2 ^ (t - m - 1)) * g ^ (2 ^ (t - m - 1)))) (g ^ (2 ^ (t - m - 1)) * g ^ (2 ^ (t - m - 1))) m := by
 have hp1 := hp.1
 obtain ⟨G, hG⟩ : ∃ G, g ^ (2 ^ (t - m - 1)) = G := ⟨_, rfl⟩
 rw [hG]
 have hg : (G * G) ^ (2 ^ (m - 1)) % p = p - 1 := by
  have e : (G * G) ^ (2 ^ (m - 1)) = g ^ (2 ^ (t - 1)) := by
   rw [Nat.mul_pow, pow_two_up G m h1, ← hG, ← Nat.pow_mul, ← Nat.pow_add, show t - m - 1 + m = t - 1 by omega]
  rw [e]; exact h.neg
 refine ⟨h1, ?_, ?_, hg⟩
 ·rw [show x * G * (x * G) = (x * x) * (G * G) by rw [Nat.mul_mul_mul_comm], Nat.mul_mod, h.sq, ← Nat.mul_mod, Nat.mul_assoc]
 ·have hb1 : b ^ (2 ^ (m - 1)) % p = p - 1 := by
   rcases hp.sq_one (x := b ^ (2 ^ (m - 1))) (by rw [pow_two_up b m h1]; exact hb) with e | e
   ·exact absurd e hn
   ·exact e
  rw [Nat.mul_pow, Nat.mul_mod, hb1, hg]
  exact neg_sq hp1
theorem TS.done {p a x b g t : Nat} (h : TS p a x b g t) (hb : b % p = 1) : x * x % p = a % p := by
 rw [h.sq, Nat.mul_mod, hb, Nat.mul_one, Nat.mod_mod]
theorem TS.last {p a x b g : Nat} (h : TS p a x b g 1) : x * x % p = a % p :=
 h.done (by have := h.one; rw [show 2 ^ (1 - 1) = 1 from rfl, Nat.pow_one] at this; exact this)
def twosN (n : Nat) : Nat := if _h : 0 < n ∧ n % 2 = 0 then twosN (n / 2) + 1 else 0
termination_by n
decreasing_by omega
def oddN (n : Nat) : Nat := n / 2 ^ twosN n
theorem twosN_odd {n : Nat} (h : n % 2 = 1) : twosN n = 0 := by rw [twosN, dif_neg (by omega)]
theorem twosN_even {n : Nat} (h0 : 0 < n) (h : n % 2 = 0) : twosN n = twosN (n / 2) + 1 := by
 conv => lhs; rw [twosN]
 rw [dif_pos ⟨h0, h⟩]
theorem oddN_odd {n : Nat} (h : n % 2 = 1) : oddN n = n := by unfold oddN; rw [twosN_odd h, Nat.pow_zero, Nat.div_one]
theorem oddN_even {n : Nat} (h0 : 0 < n) (h : n % 2 = 0) : oddN n = oddN (n / 2) := by
 unfold oddN; rw [twosN_even h0 h, Nat.pow_succ, Nat.mul_comm, Nat.div_div_eq_div_mul]
theorem twos_all (n : Nat) (h0 : 0 < n) : n = 2 ^ twosN n * oddN n ∧ oddN n % 2 = 1 := by
 induction n using Nat.strongRecOn with
 | _ n ih =>
  by_cases h : n % 2 = 1
  ·rw [twosN_odd h, oddN_odd h, Nat.pow_zero, Nat.one_mul]; exact ⟨rfl, h⟩
  ·have h2 : n % 2 = 0 := by omega
   obtain ⟨h3, h4⟩ := ih (n / 2) (by omega) (by omega)
   rw [twosN_even h0 h2, oddN_even h0 h2]
   refine ⟨?_, h4⟩
   rw [Nat.pow_succ, Nat.mul_comm (2 ^ twosN (n / 2)) 2, Nat.mul_assoc, ← h3]; omega
theorem twosN_lt {n k : Nat} (h0 : 0 < n) (h : n < 2 ^ k) : twosN n < k := by
 have h1 := (twos_all n h0).1
 rcases Nat.lt_or_ge (twosN n) k with h2 | h2
 ·exact h2
 ·exfalso
  have h3 : 2 ^ k ≤ 2 ^ twosN n := Nat.pow_le_pow_right (by omega) h2
  have h4 : 0 < oddN n := by rcases Nat.eq_zero_or_pos (oddN n) with e | e; rw [e, Nat.mul_zero] at h1; omega; exact e
  have h5 : 2 ^ twosN n * 1 ≤ 2 ^ twosN n * oddN n := Nat.mul_le_mul_left _ h4
  omega
theorem symN_pm {n p : Nat} (f : Nat) (x : Int) (h : (decide (p < 2 ^ f) && decide ((if pm p f n ((p - 1) / 2) = 0 then 0 else if pm p f n ((p - 1) / 2) = 1 then 1 else -1) = x)) = true) : symN n p = x := by
 simp only [Bool.and_eq_true, decide_eq_true_eq] at h
 have hl : (p - 1) / 2 < 2 ^ f := by have := h.1; omega
 rw [pm_eq p f n _ hl] at h
 exact h.2
theorem nosq_1706311 : symN 3 1706311 = -1 := symN_pm 21 _ (by decide +kernel)
theorem nosq_1704961 : symN 7 1704961 = -1 := symN_pm 21 _ (by decide +kernel)
theorem nosq_10647363907 : symN 2 10647363907 = -1 := symN_pm 34 _ (by decide +kernel)
theorem nosq_9831361 : symN 13 9831361 = -1 := symN_pm 24 _ (by decide +kernel)
theorem nosq_21888242871839275222246405745257275088696311157297823662689037894645226208583 : symN 3 21888242871839275222246405745257275088696311157297823662689037894645226208583 = -1 := symN_pm 254 _ (by decide +kernel)
theorem nosq_21888242871839275222246405745257275088548364400416034343698204186575808495617 : symN 5 21888242871839275222246405745257275088548364400416034343698204186575808495617 = -1 := symN_pm 254 _ (by decide +kernel)
theorem nosq_52435875175126190479447740508185965837690552500527637822603658699938581184513 : symN 5 52435875175126190479447740508185965837690552500527637822603658699938581184513 = -1 := symN_pm 255 _ (by decide +kernel)
theorem nosq_4002409555221667393417789825735904156556882819939007885332058136124031650490837864442687629129015664037894272559787 : symN 2 4002409555221667393417789825735904156556882819939007885332058136124031650490837864442687629129015664037894272559787 = -1 := symN_pm 381 _ (by decide +kernel)
end Go.Proofs.YtdajgcgliidjbaaGreat

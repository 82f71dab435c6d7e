/-
  Pairs of rests as plain lemmas: pairs of whole numbers with a thing whose square is one less than 0, what is alike by n, powers, the prime as power (it turns a pair into its other one), inverses.
-/
import Derived.Test.YtflfeepgkcamnaaGreatMNum
namespace Go.Proofs.YtflfeepgkcamnaaGreat

abbrev Gz := Int × Int
def gm (x y : Gz) : Gz := (x.1 * y.1 - x.2 * y.2, x.1 * y.2 + x.2 * y.1)
def ga (x y : Gz) : Gz := (x.1 + y.1, x.2 + y.2)
def gk (c : Int) (x : Gz) : Gz := (c * x.1, c * x.2)
def gcj (x : Gz) : Gz := (x.1, -x.2)
def gn (x : Gz) : Int := x.1 * x.1 + x.2 * x.2
def gpow (x : Gz) : Nat → Gz
  | 0 => (1, 0)
  | k + 1 => gm (gpow x k) x
theorem gz_ext {x y : Gz} (h1 : x.1 = y.1) (h2 : x.2 = y.2) : x = y := by cases x; cases y; simp_all
theorem gm_comm (x y : Gz) : gm x y = gm y x := gz_ext (by simp only [gm]; grind) (by simp only [gm]; grind)
theorem gm_assoc (x y z : Gz) : gm (gm x y) z = gm x (gm y z) := gz_ext (by simp only [gm]; grind) (by simp only [gm]; grind)
theorem gm_one (x : Gz) : gm x (1, 0) = x := gz_ext (by simp only [gm]; grind) (by simp only [gm]; grind)
theorem one_gm (x : Gz) : gm (1, 0) x = x := by rw [gm_comm, gm_one]
theorem gm_ga (x y z : Gz) : gm x (ga y z) = ga (gm x y) (gm x z) := gz_ext (by simp only [gm, ga]; grind) (by simp only [gm, ga]; grind)
theorem gm_gcj (x : Gz) : gm x (gcj x) = (gn x, 0) := gz_ext (by simp only [gm, gcj, gn]; grind) (by simp only [gm, gcj]; grind)
theorem gn_gm (x y : Gz) : gn (gm x y) = gn x * gn y := by simp only [gm, gn]; grind
theorem gcj_gcj (x : Gz) : gcj (gcj x) = x := gz_ext rfl (by simp only [gcj]; grind)
theorem gpow_add (x : Gz) (j k : Nat) : gpow x (j + k) = gm (gpow x j) (gpow x k) := by
  induction k with
  | zero => show gpow x j = gm (gpow x j) (1, 0); rw [gm_one]
  | succ k ih => show gm (gpow x (j + k)) x = gm (gpow x j) (gm (gpow x k) x); rw [ih, gm_assoc]
theorem gpow_mul (x y : Gz) (k : Nat) : gpow (gm x y) k = gm (gpow x k) (gpow y k) := by
  induction k with
  | zero => show ((1, 0) : Gz) = gm (1, 0) (1, 0); rw [gm_one]
  | succ k ih =>
    show gm (gpow (gm x y) k) (gm x y) = gm (gm (gpow x k) x) (gm (gpow y k) y)
    rw [ih, gm_assoc, gm_assoc, ← gm_assoc (gpow y k), gm_comm (gpow y k) x, gm_assoc]
theorem gpow_pow (x : Gz) (j k : Nat) : gpow x (j * k) = gpow (gpow x j) k := by
  induction k with
  | zero => rfl
  | succ k ih => rw [Nat.mul_succ, gpow_add, ih]; rfl
theorem gpow_one (k : Nat) : gpow (1, 0) k = (1, 0) := by
  induction k with
  | zero => rfl
  | succ k ih => show gm (gpow (1, 0) k) (1, 0) = _; rw [ih, gm_one]

/-! Alike by n. -/
structure GC (n : Int) (x y : Gz) : Prop where
  a : n ∣ x.1 - y.1
  b : n ∣ x.2 - y.2
theorem GC.refl (n : Int) (x : Gz) : GC n x x := ⟨by rw [Int.sub_self]; exact Int.dvd_zero n, by rw [Int.sub_self]; exact Int.dvd_zero n⟩
theorem GC.of_eq {n : Int} {x y : Gz} (h : x = y) : GC n x y := h ▸ GC.refl n x
theorem GC.symm {n : Int} {x y : Gz} (h : GC n x y) : GC n y x := by
  obtain ⟨⟨c, hc⟩, ⟨d, hd⟩⟩ := h
  exact ⟨⟨-c, by grind⟩, ⟨-d, by grind⟩⟩
theorem GC.trans {n : Int} {x y z : Gz} (h : GC n x y) (k : GC n y z) : GC n x z := by
  obtain ⟨⟨c, hc⟩, ⟨d, hd⟩⟩ := h
  obtain ⟨⟨e, he⟩, ⟨f, hf⟩⟩ := k
  exact ⟨⟨c + e, by grind⟩, ⟨d + f, by grind⟩⟩
theorem GC.add {n : Int} {x y u v : Gz} (h : GC n x y) (k : GC n u v) : GC n (ga x u) (ga y v) := by
  obtain ⟨⟨c, hc⟩, ⟨d, hd⟩⟩ := h
  obtain ⟨⟨e, he⟩, ⟨f, hf⟩⟩ := k
  exact ⟨⟨c + e, by simp only [ga]; grind⟩, ⟨d + f, by simp only [ga]; grind⟩⟩
theorem GC.mul {n : Int} {x y u v : Gz} (h : GC n x y) (k : GC n u v) : GC n (gm x u) (gm y v) := by
  obtain ⟨⟨c, hc⟩, ⟨d, hd⟩⟩ := h
  obtain ⟨⟨e, he⟩, ⟨f, hf⟩⟩ := k
  refine ⟨⟨c * u.1 + y.1 * e - d * u.2 - y.2 * f, ?_⟩, ⟨c * u.2 + y.1 * f + d * u.1 + y.2 * e, ?_⟩⟩ <;> simp only [gm] <;> grind
theorem GC.pow {n : Int} {x y : Gz} (h : GC n x y) (k : Nat) : GC n (gpow x k) (gpow y k) := by
  induction k with
  | zero => exact GC.refl _ _
  | succ k ih => exact ih.mul h
theorem GC.cj {n : Int} {x y : Gz} (h : GC n x y) : GC n (gcj x) (gcj y) := by
  obtain ⟨⟨c, hc⟩, ⟨d, hd⟩⟩ := h
  exact ⟨⟨c, hc⟩, ⟨-d, by simp only [gcj]; grind⟩⟩

/-! The prime as power. -/
def gbs (n : Nat) (x : Gz) : Nat → Gz
  | 0 => (0, 0)
  | k + 1 => ga (gbs n x k) (gk (chs n k : Int) (gpow x k))
theorem gbs_succ (n : Nat) (x : Gz) (k : Nat) : gbs n x (k + 1) = ga (gbs n x k) (gk (chs n k : Int) (gpow x k)) := rfl
theorem gpow_succ (x : Gz) (k : Nat) : gpow x (k + 1) = gm (gpow x k) x := rfl
theorem gbs_up (n : Nat) (x : Gz) (k : Nat) : gbs (n + 1) x (k + 1) = ga (gbs n x (k + 1)) (gm x (gbs n x k)) := by
  induction k with
  | zero => simp [gbs, chs_zero, ga, gm, gk, gpow]
  | succ k ih =>
    rw [gbs_succ (n + 1), ih, chs_succ, gbs_succ n x (k + 1), gbs_succ n x k, gpow_succ]
    have e : ((chs n k + chs n (k + 1) : Nat) : Int) = (chs n k : Int) + (chs n (k + 1) : Int) := by simp
    rw [e]
    generalize (chs n k : Int) = c
    generalize (chs n (k + 1) : Int) = d
    generalize gpow x k = y
    generalize gbs n x k = z
    exact gz_ext (by simp only [ga, gk, gm]; grind) (by simp only [ga, gk, gm]; grind)
theorem gbinom (n : Nat) (x : Gz) : gpow (ga x (1, 0)) n = gbs n x (n + 1) := by
  induction n with
  | zero => simp [gbs, chs_zero, ga, gk, gpow]
  | succ n ih =>
    rw [gpow_succ, ih, gbs_up, gbs_succ n x (n + 1), chs_gt (show n < n + 1 by omega)]
    generalize gbs n x (n + 1) = z
    generalize gpow x (n + 1) = y
    exact gz_ext (by simp only [ga, gk, gm]; grind) (by simp only [ga, gk, gm]; grind)
theorem Prm.gbs {p : Nat} (h : Prm p) (x : Gz) {k : Nat} (h0 : 0 < k) (hk : k ≤ p) : GC (p : Int) (gbs p x k) (1, 0) := by
  induction k with
  | zero => omega
  | succ k ih =>
    by_cases h1 : k = 0
    · subst h1
      exact GC.of_eq (by simp [Proofs.YtflfeepgkcamnaaGreat.gbs, chs_zero, ga, gk, gpow])
    · obtain ⟨c, hc⟩ := h.chs (k := k) (by omega) (by omega)
      have h2 := ih (by omega) (by omega)
      rw [gbs_succ, hc]
      generalize gpow x k = y
      generalize Proofs.YtflfeepgkcamnaaGreat.gbs p x k = z at *
      obtain ⟨⟨s, hs⟩, ⟨t, ht⟩⟩ := h2
      have e : ((p * c : Nat) : Int) = (p : Int) * (c : Int) := by simp
      rw [e]
      exact ⟨⟨s + (c : Int) * y.1, by simp only [ga, gk]; grind⟩, ⟨t + (c : Int) * y.2, by simp only [ga, gk]; grind⟩⟩
theorem Prm.up_one {p : Nat} (h : Prm p) (x : Gz) : GC (p : Int) (gpow (ga x (1, 0)) p) (ga (gpow x p) (1, 0)) := by
  rw [gbinom, gbs_succ, chs_self]
  have h1 := h.gbs x (k := p) (by have := h.1; omega) (Nat.le_refl _)
  have e : gk ((1 : Nat) : Int) (gpow x p) = gpow x p := gz_ext (by simp [gk]) (by simp [gk])
  rw [e]
  refine (h1.add (GC.refl _ (gpow x p))).trans (GC.of_eq ?_)
  exact gz_ext (by simp only [ga]; grind) (by simp only [ga]; grind)
theorem gi_four (m : Nat) : gpow (0, 1) (4 * m) = (1, 0) := by
  rw [gpow_pow, show gpow (0, 1) 4 = (1, 0) from by decide, gpow_one]
theorem gi_odd {p : Nat} (h : p % 4 = 3) : gpow (0, 1) p = (0, -1) := by
  obtain ⟨m, rfl⟩ : ∃ m, p = 4 * m + 3 := ⟨p / 4, by omega⟩
  rw [gpow_add, gi_four, one_gm]
  decide
theorem Prm.up_i {p : Nat} (h : Prm p) (h4 : p % 4 = 3) (x : Gz) : GC (p : Int) (gpow (ga x (0, 1)) p) (ga (gpow x p) (0, -1)) := by
  have e : ga x (0, 1) = gm (0, 1) (ga (gm (0, -1) x) (1, 0)) := gz_ext (by simp only [ga, gm]; grind) (by simp only [ga, gm]; grind)
  rw [e, gpow_mul, gi_odd h4]
  refine ((GC.refl _ (0, -1)).mul (h.up_one (gm (0, -1) x))).trans (GC.of_eq ?_)
  rw [gpow_mul]
  have e2 : gpow (0, -1) p = (0, 1) := by
    have e3 : ((0, -1) : Gz) = gpow (0, 1) 3 := by decide
    rw [e3, ← gpow_pow, Nat.mul_comm, gpow_pow, gi_odd h4]
    decide
  rw [e2]
  generalize gpow x p = y
  exact gz_ext (by simp only [ga, gm]; grind) (by simp only [ga, gm]; grind)
/-- The prime as power turns a pair into its other one. -/
theorem Prm.turned {p : Nat} (h : Prm p) (h4 : p % 4 = 3) (a b : Nat) : GC (p : Int) (gpow ((a : Int), (b : Int)) p) ((a : Int), -(b : Int)) := by
  have hp := h.1
  induction b with
  | zero =>
    induction a with
    | zero =>
      obtain ⟨q, rfl⟩ : ∃ q, p = q + 1 := ⟨p - 1, by omega⟩
      refine GC.of_eq ?_
      rw [gpow_succ]
      exact gz_ext (by simp [gm]) (by simp [gm])
    | succ a ih =>
      have e : ((((a + 1 : Nat) : Int), ((0 : Nat) : Int)) : Gz) = ga ((a : Int), ((0 : Nat) : Int)) (1, 0) := gz_ext (by simp [ga]) (by simp [ga])
      rw [e]
      refine (h.up_one _).trans ((ih.add (GC.refl _ (1, 0))).trans (GC.of_eq ?_))
      exact gz_ext (by simp [ga]) (by simp [ga])
  | succ b ih =>
    have e : (((a : Int), ((b + 1 : Nat) : Int)) : Gz) = ga ((a : Int), (b : Int)) (0, 1) := gz_ext (by simp [ga]) (by simp [ga])
    rw [e]
    refine (h.up_i h4 _).trans ((ih.add (GC.refl _ (0, -1))).trans (GC.of_eq ?_))
    exact gz_ext (by simp [ga]) (by simp [ga]; omega)
/-- A sum of two squares is nothing only where both are. -/
theorem Prm.two_squares {p : Nat} (h : Prm p) (h4 : p % 4 = 3) {a b : Nat} (hd : p ∣ a * a + b * b) : p ∣ a ∧ p ∣ b := by
  have hp := h.1
  by_cases hb : p ∣ b
  · have h2 : p ∣ a * a := (Nat.dvd_add_left (Nat.dvd_trans hb (Nat.dvd_mul_right b b))).1 hd
    rcases h.split h2 with h3 | h3 <;> exact ⟨h3, hb⟩
  · exfalso
    have ha : ¬ p ∣ a := fun ha => by
      have h2 : p ∣ b * b := (Nat.dvd_add_right (Nat.dvd_trans ha (Nat.dvd_mul_right a a))).1 hd
      rcases h.split h2 with h3 | h3 <;> exact hb h3
    obtain ⟨m, hm⟩ : ∃ m, p = 4 * m + 3 := ⟨p / 4, by omega⟩
    have f1 := h.fermat1 ha
    have f2 := h.fermat1 hb
    have e : p - 1 = 2 * (2 * m + 1) := by omega
    have key : ∀ k : Nat, (p : Int) ∣ ((a : Int) * a) ^ (2 * k + 1) + ((b : Int) * b) ^ (2 * k + 1) := by
      intro k
      have hI : (p : Int) ∣ (a : Int) * a + (b : Int) * b := by exact_mod_cast hd
      obtain ⟨c, hc⟩ := hI
      generalize (a : Int) * a = A at *
      generalize (b : Int) * b = B at *
      induction k with
      | zero => exact ⟨c, by rw [Nat.mul_zero, Nat.zero_add, Int.pow_succ, Int.pow_succ, Int.pow_zero, Int.pow_zero, Int.one_mul, Int.one_mul]; exact hc⟩
      | succ k ih =>
        obtain ⟨d, hdd⟩ := ih
        have e1 : A ^ (2 * (k + 1) + 1) = A ^ (2 * k + 1) * (A * A) := by rw [show 2 * (k + 1) + 1 = 2 * k + 1 + 2 from by omega, Int.pow_add, show (2 : Nat) = 1 + 1 from rfl, Int.pow_succ A 1, Int.pow_succ A 0, Int.pow_zero, Int.one_mul]
        have e2 : B ^ (2 * (k + 1) + 1) = B ^ (2 * k + 1) * (B * B) := by rw [show 2 * (k + 1) + 1 = 2 * k + 1 + 2 from by omega, Int.pow_add, show (2 : Nat) = 1 + 1 from rfl, Int.pow_succ B 1, Int.pow_succ B 0, Int.pow_zero, Int.one_mul]
        rw [e1, e2]
        generalize A ^ (2 * k + 1) = U at *
        generalize B ^ (2 * k + 1) = V at *
        refine ⟨d * (A * A) + V * c * (B - A), ?_⟩
        grind
    have k1 := key m
    have ea : ((a : Int) * a) ^ (2 * m + 1) = ((a ^ (p - 1) : Nat) : Int) := by
      rw [e, Nat.pow_mul, Nat.pow_two]; simp
    have eb : ((b : Int) * b) ^ (2 * m + 1) = ((b ^ (p - 1) : Nat) : Int) := by
      rw [e, Nat.pow_mul, Nat.pow_two]; simp
    rw [ea, eb] at k1
    have k2 : p ∣ a ^ (p - 1) + b ^ (p - 1) := by exact_mod_cast k1
    have k3 : (a ^ (p - 1) + b ^ (p - 1)) % p = 2 % p := by rw [Nat.add_mod, f1, f2]
    rw [Nat.mod_eq_zero_of_dvd k2, Nat.mod_eq_of_lt (by omega)] at k3
    omega
/-- The square of the prime less 1 as power. -/
theorem Prm.full {p : Nat} (h : Prm p) (h4 : p % 4 = 3) {a b : Nat} (hne : ¬ (p ∣ a ∧ p ∣ b)) : GC (p : Int) (gpow ((a : Int), (b : Int)) (p * p - 1)) (1, 0) := by
  have hp := h.1
  have t1 := h.turned h4 a b
  obtain ⟨z, hz⟩ : ∃ z : Gz, z = ((a : Int), (b : Int)) := ⟨_, rfl⟩
  have hcj : (((a : Int), -(b : Int)) : Gz) = gcj z := by rw [hz]; rfl
  rw [hcj, ← hz] at t1
  rw [← hz]
  have t2 : GC (p : Int) (gpow z (p * p)) z := by
    rw [gpow_pow]
    refine (t1.pow p).trans ?_
    -- the other one, turned
    have cj : ∀ k, gpow (gcj z) k = gcj (gpow z k) := by
      intro k
      induction k with
      | zero => exact gz_ext rfl (by simp [gcj, gpow])
      | succ k ih => rw [gpow_succ, gpow_succ, ih]; exact gz_ext (by simp only [gm, gcj]; grind) (by simp only [gm, gcj]; grind)
    rw [cj]
    exact t1.cj.trans (GC.of_eq (gcj_gcj z))
  have e : p * p = (p * p - 1) + 1 := by
    have : 1 * 1 ≤ p * p := Nat.mul_le_mul (by omega) (by omega)
    omega
  rw [e, gpow_succ] at t2
  generalize gpow z (p * p - 1) = y at *
  have t3 : GC (p : Int) (gm y (gm z (gcj z))) (gm z (gcj z)) := by
    rw [← gm_assoc]; exact t2.mul (GC.refl _ (gcj z))
  rw [gm_gcj] at t3
  have hN : gn z = ((a * a + b * b : Nat) : Int) := by rw [hz]; simp [gn]
  have hND : ¬ p ∣ a * a + b * b := fun hd => hne (h.two_squares h4 hd)
  have split : ∀ t : Int, (p : Int) ∣ t * gn z → (p : Int) ∣ t := by
    intro t ht
    rw [hN] at ht
    have h1 : p ∣ (t * ((a * a + b * b : Nat) : Int)).natAbs := Int.ofNat_dvd_left.1 ht
    rw [Int.natAbs_mul, Int.natAbs_natCast] at h1
    rcases h.split h1 with h2 | h2
    · exact Int.ofNat_dvd_left.2 h2
    · exact absurd h2 hND
  obtain ⟨⟨c, hc⟩, ⟨d, hd⟩⟩ := t3
  refine ⟨split _ ⟨c, ?_⟩, split _ ⟨d, ?_⟩⟩
  · simp only [gm] at hc; grind
  · simp only [gm] at hd; grind
end Go.Proofs.YtflfeepgkcamnaaGreat

/-
  What the laws of chapter 6 ask of the answers.
-/
import Derived.Test.YtpgcnopdbdlahaaGreatQMath
namespace Go.Proofs.YtpgcnopdbdlahaaGreat

theorem TS.root {n a : Nat} (hp : Prm n) : ∀ (t x b g : Nat), TS n a x b g t → ∃ r, r * r % n = a % n := by
  intro t
  induction t using Nat.strongRecOn with
  | ind t ih =>
    intro x b g h
    by_cases hb : b % n = 1
    · exact ⟨x, h.done hb⟩
    · have key : ∀ k, b ^ (2 ^ k) % n = 1 → ∃ m, 1 ≤ m ∧ m ≤ k ∧ b ^ (2 ^ m) % n = 1 ∧ b ^ (2 ^ (m - 1)) % n ≠ 1 := by
        intro k
        induction k with
        | zero => intro hk; rw [Nat.pow_zero, Nat.pow_one] at hk; exact absurd hk hb
        | succ k ih2 =>
          intro hk
          by_cases h1 : b ^ (2 ^ k) % n = 1
          · obtain ⟨m, m1, m2, m3, m4⟩ := ih2 h1
            exact ⟨m, m1, by omega, m3, m4⟩
          · exact ⟨k + 1, by omega, Nat.le_refl _, hk, by rw [Nat.add_sub_cancel]; exact h1⟩
      obtain ⟨m, m1, m2, m3, m4⟩ := key (t - 1) h.one
      have hm : m < t := by have := h.pos; omega
      exact ih m hm _ _ _ (TS.next hp h m1 hm m3 m4)
theorem root_ex {a n : Nat} (pp : PrimeP n) (ha : a < n) (hs : symN a n = 1) : ∃ r, r < n ∧ r * r % n = a := by
  have h3 := pp.ge
  have hodd := pp.prm.odd h3
  obtain ⟨e1, e2⟩ := twos_all (n - 1) (by omega)
  have h1 : 1 ≤ twosN (n - 1) := by rw [twosN_even (by omega) (by omega)]; omega
  have h0 : ¬ n ∣ a := fun h => by have := (symN_zero (a := a) pp.prm h3).2 h; rw [this] at hs; cases hs
  have ha1 : a ^ ((n - 1) / 2) % n = 1 := by
    rcases symN_cases pp.prm h3 h0 with h | h
    · exact h.2
    · rw [h.1] at hs; cases hs
  obtain ⟨_, _, m3, _⟩ := nosqN_spec pp
  have hm0 : ¬ n ∣ nosqN n := fun h => by have := (symN_zero (a := nosqN n) pp.prm h3).2 h; rw [this] at m3; cases m3
  have hm1 : nosqN n ^ ((n - 1) / 2) % n = n - 1 := by
    rcases symN_cases pp.prm h3 hm0 with h | h
    · rw [h.1] at m3; cases m3
    · exact h.2
  obtain ⟨r, hr⟩ := TS.root pp.prm _ _ _ _ (TS.start h1 e1 e2 ha1 hm1)
  exact ⟨r % n, Nat.mod_lt _ (by omega), by rw [← Nat.mul_mod, hr, Nat.mod_eq_of_lt ha]⟩
theorem rootN_spec {a n : Nat} (pp : PrimeP n) (ha : a < n) (hs : symN a n = 1) : rootN a n < n ∧ rootN a n * rootN a n % n = a ∧ 2 * rootN a n ≤ n ∧ 0 < rootN a n := by
  have h3 := pp.ge
  have ha0 : 0 < a := by
    rcases Nat.eq_zero_or_pos a with e | e
    · have := (symN_zero (a := a) pp.prm h3).2 (by rw [e]; exact Nat.dvd_zero _)
      rw [this] at hs; cases hs
    · exact e
  obtain ⟨r, hr, hrr⟩ := root_ex pp ha hs
  have r0 : 0 < r := by
    rcases Nat.eq_zero_or_pos r with e | e
    · rw [e, Nat.zero_mul, Nat.zero_mod] at hrr; omega
    · exact e
  by_cases h2 : 2 * r ≤ n
  · rw [rootN_eq pp.prm hr hrr h2]; exact ⟨hr, hrr, h2, r0⟩
  · have e : (n - r) * (n - r) % n = a := by rw [neg_root hr]; exact hrr
    rw [rootN_eq pp.prm (by omega) e (by omega)]
    exact ⟨by omega, e, by omega, by omega⟩
theorem symN_mul {p : Nat} (h : Prm p) (h3 : 3 ≤ p) (a b : Nat) : symN (a * b) p = symN a p * symN b p := by
  by_cases ha : p ∣ a
  · rw [(symN_zero h h3).2 ha, (symN_zero h h3).2 (Nat.dvd_trans ha (Nat.dvd_mul_right a b)), Int.zero_mul]
  by_cases hb : p ∣ b
  · rw [(symN_zero h h3).2 hb, (symN_zero h h3).2 (Nat.dvd_trans hb (Nat.dvd_mul_left b a)), Int.mul_zero]
  have e : ∀ x y, a ^ ((p - 1) / 2) % p = x → b ^ ((p - 1) / 2) % p = y → (a * b) ^ ((p - 1) / 2) % p = x * y % p := by
    intro x y hx hy
    rw [Nat.mul_pow, Nat.mul_mod, hx, hy]
  rcases symN_cases h h3 ha with ⟨a1, a2⟩ | ⟨a1, a2⟩ <;> rcases symN_cases h h3 hb with ⟨b1, b2⟩ | ⟨b1, b2⟩
  · rw [a1, b1]; have := e _ _ a2 b2; unfold symN; rw [this, Nat.mod_eq_of_lt (by omega)]; rfl
  · rw [a1, b1]; have := e _ _ a2 b2; unfold symN; rw [this, Nat.one_mul, Nat.mod_eq_of_lt (by omega), if_neg (by omega), if_neg (by omega)]; rfl
  · rw [a1, b1]; have := e _ _ a2 b2; unfold symN; rw [this, Nat.mul_one, Nat.mod_eq_of_lt (by omega), if_neg (by omega), if_neg (by omega)]; rfl
  · rw [a1, b1]; have := e _ _ a2 b2; unfold symN; rw [this, neg_sq (by omega)]; rfl
theorem symN_three {p : Nat} (h : Prm p) (h3 : 3 ≤ p) (a : Nat) : symN a p = -1 ∨ symN a p = 0 ∨ symN a p = 1 := by
  by_cases ha : p ∣ a
  · exact .inr (.inl ((symN_zero h h3).2 ha))
  · rcases symN_cases h h3 ha with ⟨a1, _⟩ | ⟨a1, _⟩
    · exact .inr (.inr a1)
    · exact .inl a1
theorem nosqN_lt {n : Nat} (pp : PrimeP n) : nosqN n < n := by
  have h3 := pp.ge
  obtain ⟨m1, m2, m3, m4⟩ := nosqN_spec pp
  rcases Nat.lt_or_ge (nosqN n) n with h | h
  · exact h
  · exfalso
    have e : symN (nosqN n % n) n = -1 := by rw [symN_mod]; exact m3
    have hlt : nosqN n % n < n := Nat.mod_lt _ (by omega)
    have h0 : nosqN n % n ≠ 0 := fun e0 => by
      rw [e0, (symN_zero pp.prm h3).2 (Nat.dvd_zero _)] at e; cases e
    have h1 : nosqN n % n ≠ 1 := fun e1 => by
      rw [e1] at e
      unfold symN at e
      rw [Nat.one_pow, Nat.mod_eq_of_lt (by omega)] at e
      exact absurd e (by decide)
    exact m4 _ (by omega) (by omega) e
theorem symG_of {a p : ByteArray} (hp : primeB p = true) (ha : restB a p = true) : symG a p = symN (gV a) (gV p) := by unfold symG; rw [hp, ha]; rfl
theorem prime_mod {p : ByteArray} (h : primeB p = true) : modB p = true := by
  obtain ⟨ok, pp⟩ := primeB_p h
  exact mod_cv rfl ok (by have := pp.ge; omega)
structure SymLaws (a p : ByteArray) : Prop where
  three : symG a p = -1 ∨ symG a p = 0 ∨ symG a p = 1
  no : symG (nosqG p) p = -1
  mul : symG (mulR a (nosqG p) p) p = -symG a p
  sq : symG (mulR a a p) p = symG a p * symG a p
theorem sym_laws {a p : ByteArray} (hp : primeB p = true) (ha : restB a p = true) : SymLaws a p := by
  obtain ⟨ok, pp⟩ := primeB_p hp
  have hm := prime_mod hp
  obtain ⟨ea, hx⟩ := rest_num ha
  have h3 := pp.ge
  have hM := nosqN_lt pp
  have EN : nosqG p = gS (nosqN (gV p)) := by unfold nosqG; rw [hp, if_pos rfl]
  have hS : symN (nosqN (gV p)) (gV p) = -1 := (nosqN_spec pp).2.2.1
  have key : ∀ z, z < gV p → symG (gS z) p = symN z (gV p) := fun z hz => by rw [symG_of hp (rest_gS hm hz), gV_gS]
  refine ⟨by rw [symG_of hp ha]; exact symN_three pp.prm h3 _, ?_, ?_, ?_⟩
  · rw [EN, key _ hM, hS]
  · rw [EN, symG_of hp ha]
    conv => lhs; rw [ea]
    rw [mul_gS hm hx hM, key _ (Nat.mod_lt _ (by omega)), symN_mod, symN_mul pp.prm h3, hS]
    omega
  · rw [symG_of hp ha]
    conv => lhs; rw [ea]
    rw [mul_gS hm hx hx, key _ (Nat.mod_lt _ (by omega)), symN_mod, symN_mul pp.prm h3]
theorem sym_no {a p : ByteArray} (h : (primeB p && restB a p) = false) : symG a p = 2 := by unfold symG; rw [h]; rfl
theorem sym_27 : symG ⟨#[2]⟩ ⟨#[7]⟩ = 1 := by decide +kernel
theorem greater_57 : greaterB ⟨#[5]⟩ ⟨#[7]⟩ = true := by decide +kernel
/-- What FnRoots asks where there is a root. -/
structure RootLaws (a p : ByteArray) : Prop where
  sq : mulR (rootG a p) (rootG a p) p = a
  less : greaterB (rootG a p) p = false
  neg : rootG a p = ⟨#[]⟩ ∨ greaterB (negR (rootG a p) p) p = true
theorem greater_gS {x : Nat} {p : ByteArray} (hm : modB p = true) (hx : x < gV p) : greaterB (gS x) p = decide ((0 + gV p - x) % gV p < x) := by
  unfold greaterB oneB; rw [hm, rest_gS hm hx, gV_gS]; rfl
theorem root_laws {a p : ByteArray} (h : rootB a p = true) : RootLaws a p := by
  have hc : (primeB p && restB a p) = true := by
    cases hh : (primeB p && restB a p) with
    | true => rfl
    | false =>
      unfold rootB at h
      rw [sym_no hh] at h
      cases h
  obtain ⟨hp, ha⟩ := (by simpa using hc : primeB p = true ∧ restB a p = true)
  obtain ⟨ok, pp⟩ := primeB_p hp
  have hm := prime_mod hp
  obtain ⟨ea, hx⟩ := rest_num ha
  have h3 := pp.ge
  unfold rootB at h
  simp only [Bool.or_eq_true, decide_eq_true_eq] at h
  rcases h with h | h
  · have E : rootG a p = gS 0 := by unfold rootG; rw [h, if_neg (by decide), gS_zero]
    have hz : gV a = 0 := by
      rw [symG_of hp ha] at h
      have := (symN_zero pp.prm h3).1 h
      rcases Nat.eq_zero_or_pos (gV a) with e | e
      · exact e
      · have := Nat.le_of_dvd e this; omega
    rw [hz] at ea
    refine ⟨?_, ?_, .inl (by rw [E, gS_zero])⟩
    · rw [E, mul_gS hm (by omega) (by omega), Nat.mul_zero, Nat.zero_mod, ← ea]
    · rw [E, greater_gS hm (by omega)]; simp
  · have hs := h
    rw [symG_of hp ha] at hs
    obtain ⟨r1, r2, r3, r4⟩ := rootN_spec pp hx hs
    have hodd := pp.prm.odd h3
    have E : rootG a p = gS (rootN (gV a) (gV p)) := by unfold rootG; rw [h, if_pos rfl]
    generalize rootN (gV a) (gV p) = r at *
    have en : (0 + gV p - r) % gV p = gV p - r := by rw [Nat.zero_add, Nat.mod_eq_of_lt (by omega)]
    refine ⟨?_, ?_, .inr ?_⟩
    · rw [E, mul_gS hm r1 r1, r2]; exact ea.symm
    · rw [E, greater_gS hm r1, en]; exact decide_eq_false (by omega)
    · have eneg : negR (gS r) p = gS (gV p - r) := by
        unfold negR subR twoB
        rw [hm, rest_gS hm r1, show restB ⟨#[]⟩ p = true from by unfold restB; rw [ok, show okG ⟨#[]⟩ = true from rfl, show gV ⟨#[]⟩ = 0 from rfl, decide_eq_true (by omega)]; rfl]
        rw [Bool.and_self, Bool.and_self, if_pos rfl, gV_gS, show gV ⟨#[]⟩ = 0 from rfl, en]
      rw [E, eneg, greater_gS hm (by omega), show 0 + gV p - (gV p - r) = r from by omega, Nat.mod_eq_of_lt r1]
      exact decide_eq_true (by omega)
theorem root_no {a p : ByteArray} (h : rootB a p = false) : rootG a p = ⟨#[]⟩ := by
  unfold rootB at h
  simp only [Bool.or_eq_false_iff, decide_eq_false_iff_not] at h
  unfold rootG; rw [if_neg h.2]
end Go.Proofs.YtpgcnopdbdlahaaGreat

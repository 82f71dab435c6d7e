/-
  What chapter 5 answers, as plain functions of the texts; the low inverse by five doublings.
-/
import Derived.Test.YtdbjjnbmbeabeaaGreatRLaw
namespace Go.Proofs.YtdbjjnbmbeabeaaGreat
open Go.RowKit

def limbN (p : ByteArray) : Nat := (p.size + 2) / 3
def limbG (p : ByteArray) : Int := if okG p then (limbN p : Int) else 0
def oddB (p : ByteArray) : Bool := modB p && decide (gV p % 2 = 1)
/-- The shift's rest. -/
def shN (p : ByteArray) : Nat := 16777216 ^ limbN p % gV p
def shiftG (p : ByteArray) : ByteArray := if oddB p then gS (shN p) else ⟨#[]⟩
def shInR (a p : ByteArray) : ByteArray := if oddB p && restB a p then gS (gV a * shN p % gV p) else ⟨#[]⟩
def shOutN (x : Nat) (p : ByteArray) : Nat := x * invN (shN p) (gV p) % gV p
def shOutR (a p : ByteArray) : ByteArray := if oddB p && restB a p then gS (shOutN (gV a) p) else ⟨#[]⟩
def shMulR (a b p : ByteArray) : ByteArray := if oddB p && twoB a b p then gS (shOutN (gV a * gV b % gV p) p) else ⟨#[]⟩
theorem oddB_parts {p : ByteArray} (h : oddB p = true) : modB p = true ∧ gV p % 2 = 1 := by simpa [oddB] using h
theorem cop_two {n : Nat} (h : n % 2 = 1) : Nat.Coprime n 2 := by
  have h1 : Nat.gcd n 2 ∣ 2 := Nat.gcd_dvd_right n 2
  have h2 : Nat.gcd n 2 ∣ n := Nat.gcd_dvd_left n 2
  have h3 := Nat.le_of_dvd (by omega) h1
  have h0 : Nat.gcd n 2 ≠ 0 := fun e => by rw [e] at h1; have := Nat.eq_zero_of_zero_dvd h1; omega
  rcases (show Nat.gcd n 2 = 1 ∨ Nat.gcd n 2 = 2 by omega) with e | e
  · exact e
  · rw [e] at h2
    have := Nat.mod_eq_zero_of_dvd h2
    omega
theorem sh_cop {p : ByteArray} (h : oddB p = true) : Nat.gcd (gV p) (shN p) = 1 := by
  obtain ⟨_, ho⟩ := oddB_parts h
  unfold shN
  rw [Nat.gcd_comm, ← Nat.gcd_rec]
  have : Nat.Coprime (gV p) (16777216 ^ limbN p) := by
    rw [show (16777216 : Nat) = 2 ^ 24 from rfl, ← Nat.pow_mul]
    exact Nat.Coprime.pow_right _ (cop_two ho)
  exact this
theorem sh_lt {p : ByteArray} (h : oddB p = true) : shN p < gV p := Nat.mod_lt _ (by have := (modB_parts (oddB_parts h).1).2; omega)
theorem sh_inv {p : ByteArray} (h : oddB p = true) : invN (shN p) (gV p) < gV p ∧ invN (shN p) (gV p) * shN p % gV p = 1 :=
  inv_of (sh_lt h) (modB_parts (oddB_parts h).1).2 (sh_cop h)
/-- What was shifted in comes back. -/
theorem sh_back {p : ByteArray} (h : oddB p = true) {x : Nat} (hx : x < gV p) : shOutN (x * shN p % gV p) p = x := by
  obtain ⟨_, i2⟩ := sh_inv h
  unfold shOutN
  rw [Nat.mod_mul_mod, Nat.mul_assoc, Nat.mul_mod, Nat.mul_comm (shN p), i2, Nat.mul_one, Nat.mod_mod, Nat.mod_eq_of_lt hx]
theorem shOutN_lt {p : ByteArray} (h : oddB p = true) (x : Nat) : shOutN x p < gV p := Nat.mod_lt _ (by have := (modB_parts (oddB_parts h).1).2; omega)
/-- It is the one whose shift it is. -/
theorem shOutN_mul {p : ByteArray} (h : oddB p = true) (x : Nat) : shOutN x p * shN p % gV p = x % gV p := by
  obtain ⟨_, i2⟩ := sh_inv h
  unfold shOutN
  rw [Nat.mod_mul_mod, Nat.mul_assoc, Nat.mul_mod, i2, Nat.mul_one, Nat.mod_mod]
theorem shOutN_eq {p : ByteArray} (h : oddB p = true) {x z : Nat} (hz : z < gV p) (e : z * shN p % gV p = x % gV p) : shOutN x p = z := by
  have h1 := sh_back h hz
  unfold shOutN at h1 ⊢
  rw [e] at h1
  rw [Nat.mod_mul_mod] at h1
  exact h1
/-- Shifted ones are multiplied as those that are not. -/
theorem sh_mul {p : ByteArray} (h : oddB p = true) {x y : Nat} : shOutN (shOutN ((x * shN p % gV p) * (y * shN p % gV p) % gV p) p) p = x * y % gV p := by
  have h1 : 0 < gV p := by have := (modB_parts (oddB_parts h).1).2; omega
  have e : shOutN ((x * shN p % gV p) * (y * shN p % gV p) % gV p) p = x * y % gV p * shN p % gV p := by
    refine shOutN_eq h (Nat.mod_lt _ h1) ?_
    rw [Nat.mod_mod, Nat.mod_mul_mod, ← Nat.mul_mod, Nat.mul_assoc, Nat.mod_mul_mod, show x * shN p * (y * shN p) = x * y * (shN p * shN p) from by rw [Nat.mul_mul_mul_comm]]
  rw [e]
  exact sh_back h (Nat.mod_lt _ h1)

/-! The low inverse. -/
def lowN (v : Nat) : Nat := ((List.range 16777216).find? (fun y => (y * v + 1) % 16777216 == 0)).getD 0
def lowB (p : ByteArray) : Bool := okG p && decide (gV p % 2 = 1)
def lowI (p : ByteArray) : Int := if lowB p then (lowN (gV p) : Int) else 0
theorem low_unique {v y z : Nat} (hv : v % 2 = 1) (hy : y < 16777216) (hz : z < 16777216) (h1 : (y * v + 1) % 16777216 = 0) (h2 : (z * v + 1) % 16777216 = 0) : y = z := by
  have key : ∀ y z : Nat, y ≤ z → z < 16777216 → (y * v + 1) % 16777216 = 0 → (z * v + 1) % 16777216 = 0 → y = z := by
    intro y z hle hz h1 h2
    have hd : 16777216 ∣ (z - y) * v := by
      have e1 := Nat.dvd_of_mod_eq_zero h1
      have e2 := Nat.dvd_of_mod_eq_zero h2
      have := Nat.dvd_sub e2 e1
      rwa [show z * v + 1 - (y * v + 1) = (z - y) * v from by rw [Nat.sub_mul]; omega] at this
    have hc : Nat.Coprime 16777216 v := by
      rw [show (16777216 : Nat) = 2 ^ 24 from rfl]
      exact Nat.Coprime.pow_left _ (Nat.Coprime.symm (cop_two hv))
    have hd2 := hc.dvd_of_dvd_mul_right hd
    rcases Nat.eq_zero_or_pos (z - y) with e | e
    · omega
    · have := Nat.le_of_dvd e hd2
      omega
  rcases Nat.le_total y z with h | h
  · exact key y z h hz h1 h2
  · exact (key z y h hy h2 h1).symm
theorem lowN_eq {v y : Nat} (hv : v % 2 = 1) (hy : y < 16777216) (h : (y * v + 1) % 16777216 = 0) : lowN v = y := by
  unfold lowN
  cases hf : (List.range 16777216).find? (fun y => (y * v + 1) % 16777216 == 0) with
  | none =>
    have := List.find?_eq_none.1 hf y (List.mem_range.2 hy)
    simp [h] at this
  | some z =>
    have h1 := List.find?_some hf
    have h2 := List.mem_range.1 (List.mem_of_find?_eq_some hf)
    exact low_unique hv h2 hy (by simpa using h1) h
/-- One doubling. -/
def lowStep (v x : Int) : Int := x * (2 - v * x % 16777216) % 16777216
theorem low_id (v x : Int) : ∃ z : Int, 1 - v * lowStep v x = (1 - v * x) * (1 - v * x) + 16777216 * z := by
  unfold lowStep
  obtain ⟨s, hs⟩ : ∃ s, v * x = s := ⟨_, rfl⟩
  have h2 := Int.emod_add_mul_ediv s 16777216
  have h1 := Int.emod_add_mul_ediv (x * (2 - s % 16777216)) 16777216
  rw [hs]
  obtain ⟨r, hr⟩ : ∃ r, s % 16777216 = r := ⟨_, rfl⟩
  obtain ⟨q, hq⟩ : ∃ q, s / 16777216 = q := ⟨_, rfl⟩
  rw [hr, hq] at h2
  rw [hr] at h1 ⊢
  obtain ⟨y, hy⟩ : ∃ y, x * (2 - r) % 16777216 = y := ⟨_, rfl⟩
  obtain ⟨q2, hq2⟩ : ∃ q, x * (2 - r) / 16777216 = q := ⟨_, rfl⟩
  rw [hy, hq2] at h1
  rw [hy]
  have e1 : v * (x * (2 - r)) = 2 * s - s * r := by rw [← Int.mul_assoc, hs, Int.mul_sub, Int.mul_comm s 2]
  have e2 : v * y + 16777216 * (v * q2) = v * (x * (2 - r)) := by rw [← h1, Int.mul_add, Int.mul_left_comm v 16777216]
  have e3 : s * s = s * r + 16777216 * (s * q) := by
    conv => lhs; rhs; rw [← h2]
    rw [Int.mul_add, Int.mul_left_comm s 16777216]
  have e4 : (1 - s) * (1 - s) = 1 - 2 * s + s * s := by
    have e5 : s * (1 - s) = s - s * s := by rw [Int.mul_sub, Int.mul_one]
    rw [Int.sub_mul, Int.one_mul, e5]
    omega
  refine ⟨v * q2 - s * q, ?_⟩
  rw [e4]
  omega
theorem low_step {v x : Int} {k m : Nat} (h : ((2 ^ k : Nat) : Int) ∣ 1 - v * x) (hm : m ≤ 2 * k) (hm24 : m ≤ 24) : ((2 ^ m : Nat) : Int) ∣ 1 - v * lowStep v x := by
  have hB : ((2 ^ m : Nat) : Int) ∣ 16777216 := by
    have : (2 ^ m : Nat) ∣ 2 ^ 24 := Nat.pow_dvd_pow 2 hm24
    exact Int.natCast_dvd_natCast.2 this
  obtain ⟨z, hz⟩ := low_id v x
  rw [hz]
  have hu : ((2 ^ m : Nat) : Int) ∣ (1 - v * x) * (1 - v * x) := by
    have h1 : ((2 ^ k : Nat) : Int) * ((2 ^ k : Nat) : Int) ∣ (1 - v * x) * (1 - v * x) := Int.mul_dvd_mul h h
    have h2 : ((2 ^ m : Nat) : Int) ∣ ((2 ^ k : Nat) : Int) * ((2 ^ k : Nat) : Int) := by
      rw [← Int.natCast_mul, ← Nat.pow_add]
      exact Int.natCast_dvd_natCast.2 (Nat.pow_dvd_pow 2 (by omega))
    exact Int.dvd_trans h2 h1
  exact Int.dvd_add hu (Int.dvd_mul_of_dvd_left hB)
theorem low_range (v x : Int) : 0 ≤ lowStep v x ∧ lowStep v x < 16777216 := ⟨Int.emod_nonneg _ (by decide), Int.emod_lt_of_pos _ (by decide)⟩
/-- Behind five of them. -/
theorem low_five {v : Nat} (hv : v % 2 = 1) {x : Nat} (hx : (x : Int) = lowStep v (lowStep v (lowStep v (lowStep v (lowStep v 1))))) : 0 < x ∧ x < 16777216 ∧ lowN v = 16777216 - x ∧ ((16777216 - x) * v + 1) % 16777216 = 0 := by
  have d0 : ((2 ^ 1 : Nat) : Int) ∣ 1 - (v : Int) * 1 := ⟨-((v / 2 : Nat) : Int), by omega⟩
  have d1 := low_step (m := 2) d0 (by omega) (by omega)
  have d2 := low_step (m := 4) d1 (by omega) (by omega)
  have d3 := low_step (m := 8) d2 (by omega) (by omega)
  have d4 := low_step (m := 16) d3 (by omega) (by omega)
  have d5 := low_step (m := 24) d4 (by omega) (by omega)
  have hr := low_range v (lowStep v (lowStep v (lowStep v (lowStep v 1))))
  rw [← hx] at d5 hr
  have hlt : x < 16777216 := by omega
  obtain ⟨z, hz⟩ := d5
  have hz2 : 1 - (v : Int) * (x : Int) = 16777216 * z := hz
  have h0 : x ≠ 0 := fun e => by rw [e] at hz2; simp at hz2; omega
  suffices hq : ((16777216 - x) * v + 1) % 16777216 = 0 from ⟨by omega, hlt, lowN_eq hv (by omega) hq, hq⟩
  have e1 : (16777216 - x) * v + x * v = 16777216 * v := by rw [← Nat.add_mul]; congr 1; omega
  have e2 : ((x * v : Nat) : Int) = (v : Int) * (x : Int) := by rw [Int.natCast_mul, Int.mul_comm]
  omega
theorem low_prop {v : Nat} (hv : v % 2 = 1) : 0 < lowN v ∧ lowN v < 16777216 ∧ (lowN v * v + 1) % 16777216 = 0 := by
  have hr := low_range v (lowStep v (lowStep v (lowStep v (lowStep v 1))))
  obtain ⟨x, hx⟩ : ∃ x : Nat, (x : Int) = lowStep v (lowStep v (lowStep v (lowStep v (lowStep v 1)))) := ⟨(lowStep v (lowStep v (lowStep v (lowStep v (lowStep v 1))))).toNat, by omega⟩
  obtain ⟨h1, h2, h3, h4⟩ := low_five hv hx
  rw [h3]
  exact ⟨by omega, by omega, h4⟩
theorem low_law {v : Nat} (hv : v % 2 = 1) : lowN v * (v % 16777216) % 16777216 = 16777215 := by
  obtain ⟨_, _, h⟩ := low_prop hv
  rw [Nat.mul_mod, Nat.mod_mod, ← Nat.mul_mod]
  omega
theorem shift7 : shiftG ⟨#[7]⟩ = ⟨#[1]⟩ := by
  have h : oddB ⟨#[7]⟩ = true := rfl
  unfold shiftG shN
  rw [h, if_pos rfl, show 16777216 ^ limbN ⟨#[7]⟩ % gV ⟨#[7]⟩ = 1 from rfl, gS_one]
theorem sh_pos {p : ByteArray} (h : oddB p = true) : 0 < shN p := by
  rcases Nat.eq_zero_or_pos (shN p) with e | e
  · exfalso
    have := sh_cop h
    rw [e, Nat.gcd_zero_right] at this
    have := (modB_parts (oddB_parts h).1).2
    omega
  · exact e
/-- The laws of shifted rests. -/
theorem shift_laws {a b p : ByteArray} (ho : oddB p = true) (ha : restB a p = true) (hb : restB b p = true) :
    shOutR (shInR a p) p = a ∧ shOutR (shMulR (shInR a p) (shInR b p) p) p = mulR a b p ∧ shInR ⟨#[1]⟩ p = shiftG p := by
  have hm := (oddB_parts ho).1
  have h1 := (modB_parts hm).2
  obtain ⟨ea, hx⟩ := rest_num ha
  obtain ⟨eb, hy⟩ := rest_num hb
  have L : ∀ k, k % gV p < gV p := fun k => Nat.mod_lt _ (by omega)
  have I : ∀ c, restB c p = true → shInR c p = gS (gV c * shN p % gV p) := fun c hc => by unfold shInR; rw [ho, hc]; rfl
  have O : ∀ x, x < gV p → shOutR (gS x) p = gS (shOutN x p) := fun x hx => by unfold shOutR; rw [ho, rest_gS hm hx, gV_gS]; rfl
  refine ⟨?_, ?_, ?_⟩
  · rw [I a ha, O _ (L _), sh_back ho hx]; exact ea.symm
  · rw [I a ha, I b hb]
    have M : shMulR (gS (gV a * shN p % gV p)) (gS (gV b * shN p % gV p)) p = gS (shOutN ((gV a * shN p % gV p) * (gV b * shN p % gV p) % gV p) p) := by
      unfold shMulR; rw [ho, two_gS hm (L _) (L _), gV_gS, gV_gS]; rfl
    rw [M, O _ (shOutN_lt ho _), sh_mul ho]
    have t : twoB a b p = true := by unfold twoB; rw [hm, ha, hb]; rfl
    unfold mulR
    rw [t, if_pos rfl]
  · have r1 : restB ⟨#[1]⟩ p = true := by
      have := rest_gS hm h1
      rwa [gS_one] at this
    rw [I _ r1, show gV ⟨#[1]⟩ = 1 from rfl, Nat.one_mul, Nat.mod_eq_of_lt (sh_lt ho)]
    unfold shiftG
    rw [ho, if_pos rfl]
end Go.Proofs.YtdbjjnbmbeabeaaGreat

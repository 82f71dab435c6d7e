/-
  Reading decimal figures, as plain lists: valF, rB, rN, and what the library's parse makes of figures.
-/
import Derived.Test.YtbncjdieilcjjaaDoorWordsDec
import Derived.Lib.AtoiAll
namespace Go.Proofs.YtbncjdieilcjjaaDoor
open Go.RowKit

def dv (c : UInt8) : Nat := c.toNat - 48
theorem dv_eq (c : UInt8) : dv c = c.toNat - 48 := by unfold dv; omega
def valF (acc : Nat) (l : List UInt8) : Nat := l.foldl (fun a c => 10 * a + dv c) acc
def isDig (c : UInt8) : Bool := decide (48 ≤ c.toNat) && decide (c.toNat ≤ 57)
theorem valF_nil (acc : Nat) : valF acc [] = acc := by unfold valF; rw [List.foldl_nil]
theorem valF_cons (acc : Nat) (c : UInt8) (r : List UInt8) : valF acc (c :: r) = valF (10 * acc + dv c) r := by unfold valF; rw [List.foldl_cons]
theorem valF_snoc (l : List UInt8) (acc : Nat) (c : UInt8) : valF acc (l ++ [c]) = 10 * valF acc l + dv c := by
  induction l generalizing acc with
  | nil => rw [List.nil_append, valF_cons, valF_nil, valF_nil]
  | cons x r ih => rw [List.cons_append, valF_cons, valF_cons, ih]
theorem valF_ge (l : List UInt8) (acc : Nat) : acc ≤ valF acc l := by
  induction l generalizing acc with
  | nil => rw [valF_nil]; omega
  | cons x r ih => have := ih (10 * acc + dv x); rw [valF_cons]; omega
theorem valF_lt (l : List UInt8) (acc : Nat) (h : l.all isDig = true) : valF acc l < (acc + 1) * 10 ^ l.length := by
  induction l generalizing acc with
  | nil => rw [valF_nil]; simp
  | cons x r ih =>
    simp only [List.all_cons, Bool.and_eq_true, isDig, decide_eq_true_eq] at h
    have := ih (10 * acc + dv x) h.2
    have hd := dv_eq x
    rw [valF_cons, List.length_cons, Nat.pow_succ]
    have h2 : (10 * acc + dv x + 1) * 10 ^ r.length ≤ (10 * (acc + 1)) * 10 ^ r.length := Nat.mul_le_mul_right _ (by omega)
    have h3 : (10 * (acc + 1)) * 10 ^ r.length = (acc + 1) * (10 ^ r.length * 10) := by
      rw [Nat.mul_comm (10 ^ r.length) 10, ← Nat.mul_assoc, Nat.mul_comm 10 (acc + 1)]
    omega
theorem dec_step {k : Nat} (hs : ¬ k < 10) : Lib.decDigits k = Lib.decDigits (k / 10) ++ [UInt8.ofNat (48 + k % 10)] := by
  conv => lhs; rw [Lib.decDigits]
  rw [dif_neg hs]
theorem digit_nat (k : Nat) (h : k < 10) : (UInt8.ofNat (48 + k)).toNat = 48 + k := by simp; omega
theorem dec_val (k : Nat) : valF 0 (Lib.decDigits k) = k ∧ (Lib.decDigits k).all isDig = true ∧ Lib.decDigits k ≠ [] := by
  induction k using Nat.strongRecOn with
  | _ k ih =>
    by_cases hs : k < 10
    · rw [Lib.decDigits_one hs]
      have := digit_nat k hs
      refine ⟨by rw [valF_cons, valF_nil, dv_eq]; omega, ?_, by simp⟩
      simp only [List.all_cons, List.all_nil, Bool.and_true, isDig, this]
      simp; omega
    · obtain ⟨h1, h2, _⟩ := ih (k / 10) (by omega)
      have := digit_nat (k % 10) (by omega)
      rw [dec_step hs, valF_snoc, h1, dv_eq, this]
      refine ⟨by omega, ?_, by simp⟩
      rw [List.all_append, h2]
      simp only [List.all_cons, List.all_nil, Bool.and_true, Bool.true_and, isDig, this]
      simp; omega
theorem dec_len (k : Nat) (h : k ≤ 1000000000) : (Lib.decDigits k).length ≤ 10 := by
  rw [Lib.decDigits_length]
  have hn := Lib.nDigits_pos k
  rcases Nat.lt_or_ge 10 (Lib.nDigits k) with h2 | h2
  · exfalso
    rw [← Lib.decDigits_length] at h2 hn
    have key : ∀ m : Nat, 10 ^ ((Lib.decDigits m).length - 1) ≤ m ∨ m = 0 := by
      intro m
      induction m using Nat.strongRecOn with
      | _ m ih =>
        by_cases hs : m < 10
        · rw [Lib.decDigits_one hs]; simp; omega
        · rw [dec_step hs]
          rcases ih (m / 10) (by omega) with h | h
          · left
            have hp : 1 ≤ (Lib.decDigits (m / 10)).length := by rw [Lib.decDigits_length]; exact Lib.nDigits_pos _
            simp only [List.length_append, List.length_cons, List.length_nil]
            rw [show (Lib.decDigits (m / 10)).length + (0 + 1) - 1 = (Lib.decDigits (m / 10)).length - 1 + 1 from by omega, Nat.pow_succ]
            omega
          · omega
    rcases key k with h3 | h3
    · have : 10 ^ 10 ≤ 10 ^ ((Lib.decDigits k).length - 1) := Nat.pow_le_pow_right (by omega) (by omega)
      omega
    · subst h3
      rw [Lib.decDigits_one (by omega)] at h2
      simp at h2
  · exact h2
theorem itoa_nat (k : Nat) : Lib.itoa (k : Int) = Lib.decDigits k := by unfold Lib.itoa; rw [if_neg (by omega)]; simp

/-- Whether a text is the figures of a number in 0 .. 1000000000, and that number. -/
def rB (s : ByteArray) : Bool := decide (s.size ≤ 10) && s.data.toList.all isDig && decide (valF 0 s.data.toList ≤ 1000000000) && decide (Lib.decDigits (valF 0 s.data.toList) = s.data.toList)
def rN (s : ByteArray) : Int := if rB s then (valF 0 s.data.toList : Int) else 0
theorem r_yes {s : ByteArray} {n : Nat} (h1 : n ≤ 1000000000) (h2 : Lib.decDigits n = s.data.toList) : rB s = true ∧ rN s = (n : Int) := by
  obtain ⟨a, b, _⟩ := dec_val n
  have hl := dec_len n h1
  have hz : s.size = s.data.toList.length := by simp
  have : rB s = true := by
    unfold rB
    rw [← h2, b, a]
    have e1 : decide (s.size ≤ 10) = true := by simp only [decide_eq_true_eq]; rw [hz, ← h2]; exact hl
    rw [e1]; simp [h1]
  exact ⟨this, by unfold rN; rw [this, ← h2, a]; rfl⟩
theorem r_no {s : ByteArray} (h : ∀ n : Nat, n ≤ 1000000000 → Lib.decDigits n ≠ s.data.toList) : rB s = false ∧ rN s = 0 := by
  have : rB s = false := by
    cases hb : rB s with
    | false => rfl
    | true =>
      simp only [rB, Bool.and_eq_true, decide_eq_true_eq] at hb
      exact absurd hb.2 (h _ hb.1.2)
  exact ⟨this, by unfold rN; rw [this]; rfl⟩

/-- The library's parse of figures. -/
theorem parse_dig (l : List UInt8) (acc : Nat) (h : l.all isDig = true) (hv : valF acc l ≤ 1000000000) : Lib.parseUint10 acc l = .ok (valF acc l) := by
  induction l generalizing acc with
  | nil => rw [valF_nil]; rfl
  | cons c r ih =>
    simp only [List.all_cons, Bool.and_eq_true, isDig, decide_eq_true_eq] at h
    rw [valF_cons] at hv ⊢
    have hg := valF_ge r (10 * acc + dv c)
    have ih := ih (10 * acc + dv c) h.2 hv
    have hd := dv_eq c
    unfold Lib.parseUint10
    rw [if_pos h.1, if_neg (by omega), if_neg (by omega), Nat.mul_comm acc 10, ← hd]
    exact ih
theorem atoi_dec {n : Nat} (h : n ≤ 1000000000) : Lib.atoiAll (Lib.decDigits n) = .ok (n : Int) := by
  obtain ⟨a, b, c⟩ := dec_val n
  have hp := parse_dig (Lib.decDigits n) 0 b (by omega)
  rw [a] at hp
  cases hd : Lib.decDigits n with
  | nil => exact absurd hd c
  | cons x r =>
    have hx : 48 ≤ x.toNat ∧ x.toNat ≤ 57 := by
      rw [hd] at b
      simp only [List.all_cons, Bool.and_eq_true, isDig, decide_eq_true_eq] at b
      exact b.1
    unfold Lib.atoiAll
    have e1 : ¬ x.toNat = 43 := by omega
    have e2 : ¬ (x.toNat = 45) := by omega
    simp only [e1, e2, or_self, if_false, false_and, not_false_eq_true, true_and]
    unfold Lib.parseMag
    rw [if_neg (by simp), ← hd, hp]
    simp only
    rw [if_neg (by omega)]
end Go.Proofs.YtbncjdieilcjjaaDoor

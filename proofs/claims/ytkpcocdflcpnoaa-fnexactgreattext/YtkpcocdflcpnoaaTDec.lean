/-
  Decimal figures of a number of any greatness, as plain lists.
-/
import Derived.Test.YtkpcocdflcpnoaaBase
namespace Go.Proofs.Ytkpcocdflcpnoaa
open Go.RowKit

def dgv (c : UInt8) : Nat := c.toNat - 48
theorem dgv_eq (c : UInt8) : dgv c = c.toNat - 48 := by unfold dgv; omega
theorem dgv_fig (k : Nat) (h : k < 10) : dgv (UInt8.ofNat (48 + k)) = k := by rw [dgv_eq]; simp; omega
def isF (c : UInt8) : Bool := decide (48 ≤ c.toNat) && decide (c.toNat ≤ 57)
theorem isF_fig (k : Nat) (h : k < 10) : isF (UInt8.ofNat (48 + k)) = true := by
  have : (UInt8.ofNat (48 + k)).toNat = 48 + k := by simp; omega
  unfold isF; rw [this]; simp; omega
theorem isF_lt {c : UInt8} (h : isF c = true) : dgv c < 10 ∧ UInt8.ofNat (48 + dgv c) = c := by
  simp only [isF, Bool.and_eq_true, decide_eq_true_eq] at h
  have := dgv_eq c
  refine ⟨by omega, ?_⟩
  rw [← UInt8.toNat_inj]
  simp
  omega
/-- The number of figures, the highest first. -/
def fV (l : List UInt8) : Nat := l.foldl (fun a c => 10 * a + dgv c) 0
theorem fV_nil : fV [] = 0 := rfl
theorem fV_snoc (l : List UInt8) (c : UInt8) : fV (l ++ [c]) = 10 * fV l + dgv c := by unfold fV; rw [List.foldl_append]; rfl
theorem fV_acc (l : List UInt8) (a : Nat) : l.foldl (fun a c => 10 * a + dgv c) a = a * 10 ^ l.length + fV l := by
  unfold fV
  induction l generalizing a with
  | nil => simp
  | cons c r ih =>
    rw [List.foldl_cons, List.foldl_cons, ih, ih (10 * 0 + dgv c), List.length_cons, Nat.pow_succ]
    simp only [Nat.mul_zero, Nat.zero_add, Nat.add_mul]
    rw [Nat.mul_comm 10 a, Nat.mul_assoc, Nat.mul_comm (10 ^ r.length) 10]
    omega
theorem fV_cons (c : UInt8) (r : List UInt8) : fV (c :: r) = dgv c * 10 ^ r.length + fV r := by
  have : fV (c :: r) = r.foldl (fun a c => 10 * a + dgv c) (10 * 0 + dgv c) := rfl
  rw [this, fV_acc]; simp
theorem fV_lt (l : List UInt8) (h : l.all isF = true) : fV l < 10 ^ l.length := by
  induction l with
  | nil => simp [fV]
  | cons c r ih =>
    simp only [List.all_cons, Bool.and_eq_true] at h
    have h1 := ih h.2
    have h2 := (isF_lt h.1).1
    rw [fV_cons, List.length_cons, Nat.pow_succ]
    have : (dgv c + 1) * 10 ^ r.length ≤ 10 * 10 ^ r.length := Nat.mul_le_mul_right _ (by omega)
    rw [Nat.add_mul] at this
    omega
/-- The figures of a number, without needless noughts. -/
def dT (n : Nat) : List UInt8 := if _h : n < 10 then [UInt8.ofNat (48 + n)] else dT (n / 10) ++ [UInt8.ofNat (48 + n % 10)]
termination_by n
decreasing_by omega
theorem dT_one {n : Nat} (h : n < 10) : dT n = [UInt8.ofNat (48 + n)] := by rw [dT, dif_pos h]
theorem dT_more {n : Nat} (h : ¬ n < 10) : dT n = dT (n / 10) ++ [UInt8.ofNat (48 + n % 10)] := by
  conv => lhs; rw [dT]
  rw [dif_neg h]
theorem dT_val (n : Nat) : fV (dT n) = n ∧ (dT n).all isF = true ∧ dT n ≠ [] := by
  induction n using Nat.strongRecOn with
  | _ n ih =>
    by_cases h : n < 10
    · rw [dT_one h]
      refine ⟨by rw [fV_cons, dgv_fig n h, fV_nil]; simp, ?_, by simp⟩
      simp only [List.all_cons, List.all_nil, Bool.and_true]
      exact isF_fig n h
    · obtain ⟨h1, h2, _⟩ := ih (n / 10) (by omega)
      rw [dT_more h, fV_snoc, h1, dgv_fig _ (by omega)]
      refine ⟨by omega, ?_, by simp⟩
      rw [List.all_append, h2]
      simp only [List.all_cons, List.all_nil, Bool.and_true, Bool.true_and]
      exact isF_fig _ (by omega)
/-- No needless nought ahead. -/
def headF (l : List UInt8) : Bool := match l with
  | [] => false
  | [_] => true
  | c :: _ :: _ => decide (c.toNat ≠ 48)
theorem headF_cons (c : UInt8) {r : List UInt8} (hr : r ≠ []) : headF (c :: r) = decide (c.toNat ≠ 48) := by
  cases r with
  | nil => exact absurd rfl hr
  | cons d t => rfl
theorem fV_pos {l : List UInt8} (hl : l.all isF = true) (h : ∃ c r, l = c :: r ∧ c.toNat ≠ 48) : 0 < fV l := by
  obtain ⟨c, r, rfl, hc⟩ := h
  simp only [List.all_cons, Bool.and_eq_true] at hl
  have h1 := hl.1
  simp only [isF, Bool.and_eq_true, decide_eq_true_eq] at h1
  rw [fV_cons]
  have : 1 * 10 ^ r.length ≤ dgv c * 10 ^ r.length := Nat.mul_le_mul_right _ (by rw [dgv_eq]; omega)
  have : 0 < 10 ^ r.length := Nat.pow_pos (by omega)
  omega
theorem dT_head (n : Nat) : headF (dT n) = true := by
  induction n using Nat.strongRecOn with
  | _ n ih =>
    by_cases h : n < 10
    · rw [dT_one h]; rfl
    · have hd := ih (n / 10) (by omega)
      obtain ⟨v1, v2, v3⟩ := dT_val (n / 10)
      rw [dT_more h]
      cases hl : dT (n / 10) with
      | nil => exact absurd hl v3
      | cons c r =>
        rw [List.cons_append, headF_cons c (by simp)]
        cases r with
        | nil =>
          rw [hl] at v1 v2
          rw [fV_cons, fV_nil] at v1
          simp only [List.length_nil, Nat.pow_zero, Nat.mul_one, Nat.add_zero] at v1
          rw [dgv_eq] at v1
          simp only [decide_eq_true_eq]
          omega
        | cons d t => rw [hl] at hd; exact hd
theorem dT_fV (l : List UInt8) (hl : l.all isF = true) (hh : headF l = true) : dT (fV l) = l := by
  induction hn : l.length generalizing l with
  | zero => rw [List.eq_nil_of_length_eq_zero hn] at hh; cases hh
  | succ n ih =>
    have hne : l ≠ [] := by intro e; rw [e] at hn; cases hn
    have hs := List.dropLast_concat_getLast hne
    obtain ⟨c, hc⟩ : ∃ c, l.getLast hne = c := ⟨_, rfl⟩
    obtain ⟨d, hd⟩ : ∃ d, l.dropLast = d := ⟨_, rfl⟩
    rw [hc, hd] at hs
    have hdl : d.length = n := by rw [← hd, List.length_dropLast]; omega
    clear hc hd
    subst hs
    rw [List.all_append] at hl
    simp only [List.all_cons, List.all_nil, Bool.and_true, Bool.and_eq_true] at hl
    obtain ⟨c1, c2⟩ := isF_lt hl.2
    rw [fV_snoc]
    cases d with
    | nil => rw [fV_nil, Nat.mul_zero, Nat.zero_add, dT_one c1, c2]; rfl
    | cons x r =>
      rw [List.cons_append, headF_cons x (by simp)] at hh
      simp only [decide_eq_true_eq] at hh
      have hp := fV_pos hl.1 ⟨x, r, rfl, hh⟩
      have hx : headF (x :: r) = true := by
        cases r with
        | nil => rfl
        | cons y t => rw [headF_cons x (by simp)]; simpa using hh
      rw [dT_more (by omega), show (10 * fV (x :: r) + dgv c) / 10 = fV (x :: r) from by omega, show (10 * fV (x :: r) + dgv c) % 10 = dgv c from by omega, ih (x :: r) hl.1 hx hdl, c2]
theorem dT_len {n k : Nat} (h : n < 10 ^ k) (hk : 0 < k) : (dT n).length ≤ k := by
  induction k generalizing n with
  | zero => omega
  | succ k ih =>
    by_cases h1 : n < 10
    · rw [dT_one h1]; simp
    · rw [dT_more h1, List.length_append]
      have hk0 : 0 < k := by
        rcases Nat.eq_zero_or_pos k with e | e
        · rw [e] at h; simp at h; omega
        · exact e
      have := ih (n := n / 10) (by rw [Nat.pow_succ] at h; omega) hk0
      simp; omega
end Go.Proofs.Ytkpcocdflcpnoaa

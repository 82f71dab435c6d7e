import Derived.Test.YtmbhodhghgdbhaaRLaw
import Derived.Test.YtmbhodhghgdbhaaMAll
/-
  What chapter 6 answers, as plain functions of the texts, and plain facts of them.
-/
namespace Go.Proofs.Ytmbhodhghgdbhaa
/-- An odd prime below 10000, by trial. -/
def smallB (n : Nat) : Bool := decide (3 ≤ n) && (decide (n % 2 = 1) && (List.range 100).all fun k => decide (k < 3) || (decide (k % 2 = 0) || (decide (n < k * k) || decide (n % k ≠ 0))))
theorem smallB_no {n k : Nat} (hn : n < 10000) (h3 : 3 ≤ k) (ho : k % 2 = 1) (hk : k * k ≤ n) (hd : n % k = 0) : smallB n = false := by
  have hk100 : k < 100 := by
    rcases Nat.lt_or_ge k 100 with h | h
    · exact h
    · have : 100 * 100 ≤ k * k := Nat.mul_le_mul h h; omega
  cases hb : smallB n with
  | false => rfl
  | true =>
    exfalso
    simp only [smallB, Bool.and_eq_true, List.all_eq_true, List.mem_range, Bool.or_eq_true, decide_eq_true_eq] at hb
    rcases hb.2.2 k hk100 with h | h | h | h <;> omega
theorem smallB_yes {n k : Nat} (h3 : 3 ≤ n) (ho : n % 2 = 1) (hk : n < k * k) (h : ∀ j, 3 ≤ j → j % 2 = 1 → j < k → n % j ≠ 0) : smallB n = true := by
  simp only [smallB, Bool.and_eq_true, List.all_eq_true, List.mem_range, Bool.or_eq_true, decide_eq_true_eq]
  refine ⟨h3, ho, fun j _ => ?_⟩
  by_cases h1 : j < 3
  · exact .inl h1
  · by_cases h2 : j % 2 = 0
    · exact .inr (.inl h2)
    · by_cases h4 : j < k
      · exact .inr (.inr (.inr (h j (by omega) (by omega) h4)))
      · have : k * k ≤ j * j := Nat.mul_le_mul (by omega) (by omega)
        exact .inr (.inr (.inl (by omega)))
theorem smallB_less {n : Nat} (h : n < 3 ∨ n % 2 = 0) : smallB n = false := by
  unfold smallB
  rcases h with h | h
  · rw [decide_eq_false (by omega : ¬ 3 ≤ n)]; rfl
  · rw [decide_eq_false (by omega : ¬ n % 2 = 1), Bool.false_and, Bool.and_false]
/-- Two texts are alike. -/
def sameT (p q : ByteArray) : Bool := p.toList == q.toList
/-- A prime of a curve. -/
def curvePB (p : ByteArray) : Bool := ((sameT p cvP1 || sameT p cvR1) || (sameT p cvP2 || sameT p cvR2)) || ((sameT p cvP3 || sameT p cvR3) || (sameT p cvP4 || sameT p cvR4))
def primeB (p : ByteArray) : Bool := if okG p && decide (gV p < 10000) then smallB (gV p) else curvePB p
end Go.Proofs.Ytmbhodhghgdbhaa
/-
  What the laws of chapter 6 ask of the answers.
-/
namespace Go.Proofs.Ytmbhodhghgdbhaa
end Go.Proofs.Ytmbhodhghgdbhaa

import Derived.Test.YtdajgcgliidjbaaGreatRLaw
import Derived.Test.YtdajgcgliidjbaaGreatMAll
namespace Go.Proofs.YtdajgcgliidjbaaGreat
def smallB (n : Nat) : Bool := decide (3 ≤ n) && (decide (n % 2 = 1) && (List.range 100).all fun k => decide (k < 3) || (decide (k % 2 = 0) || (decide (n < k * k) || decide (n % k ≠ 0))))
theorem smallB_no {n k : Nat} (hn : n < 10000) (h3 : 3 ≤ k) (ho : k % 2 = 1) (hk : k * k ≤ n) (hd : n % k = 0) : smallB n = false := by
 have hk100 : k < 100 := by
  rcases Nat.lt_or_ge k 100 with h | h
  ·exact h
  ·have : 100 * 100 ≤ k * k := Nat.mul_le_mul h h; omega
 cases hb : smallB n with
 | false => rfl
 | true =>
  exfalso
  simp only [smallB, Bool.and_eq_true, List.all_eq_true, List.mem_range, Bool.or_eq_true, decide_eq_true_eq] at hb
  rcases hb.2.2 k hk100 with h | h | h | h <;> omega
theorem smallB_prm {n : Nat} (hn : n < 10000) (h : smallB n = true) : Prm n ∧ 3 ≤ n := by
 have hb := h
 simp only [smallB, Bool.and_eq_true, List.all_eq_true, List.mem_range, Bool.or_eq_true, decide_eq_true_eq] at hb
 refine ⟨prm_trial hb.1 hb.2.1 fun k k3 ko kk hd => ?_, hb.1⟩
 rw [smallB_no hn k3 ko kk hd] at h
 cases h
def sameT (p q : ByteArray) : Bool := p.toList == q.toList
theorem sameT_iff {p q : ByteArray} : sameT p q = true ↔ p = q := by
 unfold sameT
 rw [ByteArray.toList_eq, ByteArray.toList_eq, beq_iff_eq]
 constructor
 ·intro h
  cases p; cases q
  exact congrArg ByteArray.mk (Array.toList_inj.1 h)
 ·intro h; rw [h]
def curvePB (p : ByteArray) : Bool := ((sameT p cvP1 || sameT p cvR1) || (sameT p cvP2 || sameT p cvR2)) || ((sameT p cvP3 || sameT p cvR3) || (sameT p cvP4 || sameT p cvR4))
def primeB (p : ByteArray) : Bool := if okG p && decide (gV p < 10000) then smallB (gV p) else curvePB p
theorem curve_num : gV cvP1 = 1706311 ∧ gV cvR1 = 1704961 ∧ gV cvP2 = 10647363907 ∧ gV cvR2 = 9831361 ∧ gV cvP3 = 21888242871839275222246405745257275088696311157297823662689037894645226208583 ∧ gV cvR3 = 21888242871839275222246405745257275088548364400416034343698204186575808495617 ∧ gV cvP4 = 4002409555221667393417789825735904156556882819939007885332058136124031650490837864442687629129015664037894272559787 ∧ gV cvR4 = 52435875175126190479447740508185965837690552500527637822603658699938581184513 := by
 refine ⟨?_, ?_, ?_, ?_, ?_, ?_, ?_, ?_⟩
 ·unfold cvP1; decide +kernel
 ·unfold cvR1; decide +kernel
 ·unfold cvP2; decide +kernel
 ·unfold cvR2; decide +kernel
 ·unfold cvP3; decide +kernel
 ·unfold cvR3; decide +kernel
 ·unfold cvP4; decide +kernel
 ·unfold cvR4; decide +kernel
theorem curve_ok : okG cvP1 = true ∧ okG cvR1 = true ∧ okG cvP2 = true ∧ okG cvR2 = true ∧ okG cvP3 = true ∧ okG cvR3 = true ∧ okG cvP4 = true ∧ okG cvR4 = true := by
 refine ⟨?_, ?_, ?_, ?_, ?_, ?_, ?_, ?_⟩
 ·unfold cvP1; decide +kernel
 ·unfold cvR1; decide +kernel
 ·unfold cvP2; decide +kernel
 ·unfold cvR2; decide +kernel
 ·unfold cvP3; decide +kernel
 ·unfold cvR3; decide +kernel
 ·unfold cvP4; decide +kernel
 ·unfold cvR4; decide +kernel
theorem curvePB_cases {p : ByteArray} (h : curvePB p = true) : p = cvP1 ∨ p = cvR1 ∨ p = cvP2 ∨ p = cvR2 ∨ p = cvP3 ∨ p = cvR3 ∨ p = cvP4 ∨ p = cvR4 := by
 simp only [curvePB, Bool.or_eq_true, sameT_iff] at h
 rcases h with ((h | h) | (h | h)) | ((h | h) | (h | h)) <;> simp [h]
structure PrimeP (n : Nat) : Prop where
 prm : Prm n
 ge : 3 ≤ n
 no : ∃ m, 2 ≤ m ∧ m < 62 ∧ symN m n = -1
theorem primeB_p {p : ByteArray} (h : primeB p = true) : okG p = true ∧ PrimeP (gV p) := by
 unfold primeB at h
 cases ht : (okG p && decide (gV p < 10000)) with
 | true =>
  rw [ht, if_pos rfl] at h
  simp only [Bool.and_eq_true, decide_eq_true_eq] at ht
  obtain ⟨h1, h2⟩ := smallB_prm ht.2 h
  obtain ⟨m, m1, m2, m3⟩ := no_square_small h1 h2 ht.2
  exact ⟨ht.1, h1, h2, m, m1, m2, by unfold symN; rw [m3, if_neg (by omega), if_neg (by omega)]⟩
 | false =>
  rw [ht, if_neg (by decide)] at h
  obtain ⟨o1, o2, o3, o4, o5, o6, o7, o8⟩ := curve_ok
  obtain ⟨e1, e2, e3, e4, e5, e6, e7, e8⟩ := curve_num
  rcases curvePB_cases h with rfl | rfl | rfl | rfl | rfl | rfl | rfl | rfl
  ·exact ⟨o1, by rw [e1]; exact ⟨prm_1706311, by decide, 3, by decide, by decide, nosq_1706311⟩⟩
  ·exact ⟨o2, by rw [e2]; exact ⟨prm_1704961, by decide, 7, by decide, by decide, nosq_1704961⟩⟩
  ·exact ⟨o3, by rw [e3]; exact ⟨prm_10647363907, by decide, 2, by decide, by decide, nosq_10647363907⟩⟩
  ·exact ⟨o4, by rw [e4]; exact ⟨prm_9831361, by decide, 13, by decide, by decide, nosq_9831361⟩⟩
  ·exact ⟨o5, by rw [e5]; exact ⟨prm_21888242871839275222246405745257275088696311157297823662689037894645226208583, by decide, 3, by decide, by decide, nosq_21888242871839275222246405745257275088696311157297823662689037894645226208583⟩⟩
  ·exact ⟨o6, by rw [e6]; exact ⟨prm_21888242871839275222246405745257275088548364400416034343698204186575808495617, by decide, 5, by decide, by decide, nosq_21888242871839275222246405745257275088548364400416034343698204186575808495617⟩⟩
  ·exact ⟨o7, by rw [e7]; exact ⟨prm_4002409555221667393417789825735904156556882819939007885332058136124031650490837864442687629129015664037894272559787, by decide, 2, by decide, by decide, nosq_4002409555221667393417789825735904156556882819939007885332058136124031650490837864442687629129015664037894272559787⟩⟩
  ·exact ⟨o8, by rw [e8]; exact ⟨prm_52435875175126190479447740508185965837690552500527637822603658699938581184513, by decide, 5, by decide, by decide, nosq_52435875175126190479447740508185965837690552500527637822603658699938581184513⟩⟩
end Go.Proofs.YtdajgcgliidjbaaGreat
namespace Go.Proofs.YtdajgcgliidjbaaGreat
end Go.Proofs.YtdajgcgliidjbaaGreat

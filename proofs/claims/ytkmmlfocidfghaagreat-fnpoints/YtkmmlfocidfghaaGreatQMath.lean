import Derived.Test.YtkmmlfocidfghaaGreatRLaw
import Derived.Test.YtkmmlfocidfghaaGreatMAll
/-
  What chapter 6 answers, as plain functions of the texts, and plain facts of them.
-/
namespace Go.Proofs.YtkmmlfocidfghaaGreat
/-- An odd prime below 10000, by trial. -/
def smallB (n : Nat) : Bool := decide (3 ≤ n) && (decide (n % 2 = 1) && (List.range 100).all fun k => decide (k < 3) || (decide (k % 2 = 0) || (decide (n < k * k) || decide (n % k ≠ 0))))
theorem smallB_no {n k : Nat} (hn : n < 10000) (h3 : 3 ≤ k) (ho : k % 2 = 1) (hk : k * k ≤ n) (hd : n % k = 0) : smallB n = false := by
  have hk100 : k < 100 := by
    rcases Nat.lt_or_ge k 100 with h | h
    · exact h
    · have : 100 * 100 ≤ k * k := Nat.mul_le_mul h h; omega
  cases hb : smallB n with
  | false => rfl
  | true =>
    exfalso
    simp only [smallB, Bool.and_eq_true, List.all_eq_true, List.mem_range, Bool.or_eq_true, decide_eq_true_eq] at hb
    rcases hb.2.2 k hk100 with h | h | h | h <;> omega
theorem smallB_yes {n k : Nat} (h3 : 3 ≤ n) (ho : n % 2 = 1) (hk : n < k * k) (h : ∀ j, 3 ≤ j → j % 2 = 1 → j < k → n % j ≠ 0) : smallB n = true := by
  simp only [smallB, Bool.and_eq_true, List.all_eq_true, List.mem_range, Bool.or_eq_true, decide_eq_true_eq]
  refine ⟨h3, ho, fun j _ => ?_⟩
  by_cases h1 : j < 3
  · exact .inl h1
  · by_cases h2 : j % 2 = 0
    · exact .inr (.inl h2)
    · by_cases h4 : j < k
      · exact .inr (.inr (.inr (h j (by omega) (by omega) h4)))
      · have : k * k ≤ j * j := Nat.mul_le_mul (by omega) (by omega)
        exact .inr (.inr (.inl (by omega)))
theorem smallB_less {n : Nat} (h : n < 3 ∨ n % 2 = 0) : smallB n = false := by
  unfold smallB
  rcases h with h | h
  · rw [decide_eq_false (by omega : ¬ 3 ≤ n)]; rfl
  · rw [decide_eq_false (by omega : ¬ n % 2 = 1), Bool.false_and, Bool.and_false]
theorem smallB_prm {n : Nat} (hn : n < 10000) (h : smallB n = true) : Prm n ∧ 3 ≤ n := by
  have hb := h
  simp only [smallB, Bool.and_eq_true, List.all_eq_true, List.mem_range, Bool.or_eq_true, decide_eq_true_eq] at hb
  refine ⟨prm_trial hb.1 hb.2.1 fun k k3 ko kk hd => ?_, hb.1⟩
  rw [smallB_no hn k3 ko kk hd] at h
  cases h
/-- Two texts are alike. -/
def sameT (p q : ByteArray) : Bool := p.toList == q.toList
theorem sameT_iff {p q : ByteArray} : sameT p q = true ↔ p = q := by
  unfold sameT
  rw [ByteArray.toList_eq, ByteArray.toList_eq, beq_iff_eq]
  constructor
  · intro h
    cases p; cases q
    exact congrArg ByteArray.mk (Array.toList_inj.1 h)
  · intro h; rw [h]
/-- A prime of a curve. -/
def curvePB (p : ByteArray) : Bool := ((sameT p cvP1 || sameT p cvR1) || (sameT p cvP2 || sameT p cvR2)) || ((sameT p cvP3 || sameT p cvR3) || (sameT p cvP4 || sameT p cvR4))
def primeB (p : ByteArray) : Bool := if okG p && decide (gV p < 10000) then smallB (gV p) else curvePB p
theorem curve_num : gV cvP1 = 1706311 ∧ gV cvR1 = 1704961 ∧ gV cvP2 = 10647363907 ∧ gV cvR2 = 9831361 ∧ gV cvP3 = 21888242871839275222246405745257275088696311157297823662689037894645226208583 ∧ gV cvR3 = 21888242871839275222246405745257275088548364400416034343698204186575808495617 ∧ gV cvP4 = 4002409555221667393417789825735904156556882819939007885332058136124031650490837864442687629129015664037894272559787 ∧ gV cvR4 = 52435875175126190479447740508185965837690552500527637822603658699938581184513 := by
  refine ⟨?_, ?_, ?_, ?_, ?_, ?_, ?_, ?_⟩
  · unfold cvP1; decide +kernel
  · unfold cvR1; decide +kernel
  · unfold cvP2; decide +kernel
  · unfold cvR2; decide +kernel
  · unfold cvP3; decide +kernel
  · unfold cvR3; decide +kernel
  · unfold cvP4; decide +kernel
  · unfold cvR4; decide +kernel
theorem curve_ok : okG cvP1 = true ∧ okG cvR1 = true ∧ okG cvP2 = true ∧ okG cvR2 = true ∧ okG cvP3 = true ∧ okG cvR3 = true ∧ okG cvP4 = true ∧ okG cvR4 = true := by
  refine ⟨?_, ?_, ?_, ?_, ?_, ?_, ?_, ?_⟩
  · unfold cvP1; decide +kernel
  · unfold cvR1; decide +kernel
  · unfold cvP2; decide +kernel
  · unfold cvR2; decide +kernel
  · unfold cvP3; decide +kernel
  · unfold cvR3; decide +kernel
  · unfold cvP4; decide +kernel
  · unfold cvR4; decide +kernel
theorem curvePB_cases {p : ByteArray} (h : curvePB p = true) : p = cvP1 ∨ p = cvR1 ∨ p = cvP2 ∨ p = cvR2 ∨ p = cvP3 ∨ p = cvR3 ∨ p = cvP4 ∨ p = cvR4 := by
  simp only [curvePB, Bool.or_eq_true, sameT_iff] at h
  rcases h with ((h | h) | (h | h)) | ((h | h) | (h | h)) <;> simp [h]
/-- What is needed of a prime: that it is one, and that there is no square below 62. -/
structure PrimeP (n : Nat) : Prop where
  prm : Prm n
  ge : 3 ≤ n
  no : ∃ m, 2 ≤ m ∧ m < 62 ∧ symN m n = -1
theorem primeB_p {p : ByteArray} (h : primeB p = true) : okG p = true ∧ PrimeP (gV p) := by
  unfold primeB at h
  cases ht : (okG p && decide (gV p < 10000)) with
  | true =>
    rw [ht, if_pos rfl] at h
    simp only [Bool.and_eq_true, decide_eq_true_eq] at ht
    obtain ⟨h1, h2⟩ := smallB_prm ht.2 h
    obtain ⟨m, m1, m2, m3⟩ := no_square_small h1 h2 ht.2
    exact ⟨ht.1, h1, h2, m, m1, m2, by unfold symN; rw [m3, if_neg (by omega), if_neg (by omega)]⟩
  | false =>
    rw [ht, if_neg (by decide)] at h
    obtain ⟨o1, o2, o3, o4, o5, o6, o7, o8⟩ := curve_ok
    obtain ⟨e1, e2, e3, e4, e5, e6, e7, e8⟩ := curve_num
    rcases curvePB_cases h with rfl | rfl | rfl | rfl | rfl | rfl | rfl | rfl
    · exact ⟨o1, by rw [e1]; exact ⟨prm_1706311, by decide, 3, by decide, by decide, nosq_1706311⟩⟩
    · exact ⟨o2, by rw [e2]; exact ⟨prm_1704961, by decide, 7, by decide, by decide, nosq_1704961⟩⟩
    · exact ⟨o3, by rw [e3]; exact ⟨prm_10647363907, by decide, 2, by decide, by decide, nosq_10647363907⟩⟩
    · exact ⟨o4, by rw [e4]; exact ⟨prm_9831361, by decide, 13, by decide, by decide, nosq_9831361⟩⟩
    · exact ⟨o5, by rw [e5]; exact ⟨prm_21888242871839275222246405745257275088696311157297823662689037894645226208583, by decide, 3, by decide, by decide, nosq_21888242871839275222246405745257275088696311157297823662689037894645226208583⟩⟩
    · exact ⟨o6, by rw [e6]; exact ⟨prm_21888242871839275222246405745257275088548364400416034343698204186575808495617, by decide, 5, by decide, by decide, nosq_21888242871839275222246405745257275088548364400416034343698204186575808495617⟩⟩
    · exact ⟨o7, by rw [e7]; exact ⟨prm_4002409555221667393417789825735904156556882819939007885332058136124031650490837864442687629129015664037894272559787, by decide, 2, by decide, by decide, nosq_4002409555221667393417789825735904156556882819939007885332058136124031650490837864442687629129015664037894272559787⟩⟩
    · exact ⟨o8, by rw [e8]; exact ⟨prm_52435875175126190479447740508185965837690552500527637822603658699938581184513, by decide, 5, by decide, by decide, nosq_52435875175126190479447740508185965837690552500527637822603658699938581184513⟩⟩
def symG (a p : ByteArray) : Int := if primeB p && restB a p then symN (gV a) (gV p) else 2
/-- The least number that is no square. -/
def nosqN (n : Nat) : Nat := ((List.range 62).find? (fun m => decide (2 ≤ m) && decide (symN m n = -1))).getD 0
theorem nosqN_eq {n m : Nat} (h2 : 2 ≤ m) (hm : m < 62) (h : symN m n = -1) (hl : ∀ j, 2 ≤ j → j < m → symN j n ≠ -1) : nosqN n = m := by
  unfold nosqN
  have : (List.range 62).find? (fun m => decide (2 ≤ m) && decide (symN m n = -1)) = some m := by
    rw [List.find?_range_eq_some]
    refine ⟨by rw [decide_eq_true h2, decide_eq_true h]; rfl, List.mem_range.2 hm, fun j hj => ?_⟩
    by_cases h2j : 2 ≤ j
    · rw [decide_eq_false (hl j h2j hj)]; simp
    · rw [decide_eq_false h2j]; rfl
  rw [this]; rfl
theorem nosqN_spec {n : Nat} (h : PrimeP n) : 2 ≤ nosqN n ∧ nosqN n < 62 ∧ symN (nosqN n) n = -1 ∧ ∀ j, 2 ≤ j → j < nosqN n → symN j n ≠ -1 := by
  have key : ∀ m, 2 ≤ m → m < 62 → symN m n = -1 → ∃ k, 2 ≤ k ∧ k < 62 ∧ symN k n = -1 ∧ ∀ j, 2 ≤ j → j < k → symN j n ≠ -1 := by
    intro m
    induction m using Nat.strongRecOn with
    | ind m ih =>
      intro h1 h2 h3
      by_cases hx : ∃ j, 2 ≤ j ∧ j < m ∧ symN j n = -1
      · obtain ⟨j, j1, j2, j3⟩ := hx
        exact ih j j2 j1 (by omega) j3
      · exact ⟨m, h1, h2, h3, fun j j1 j2 j3 => hx ⟨j, j1, j2, j3⟩⟩
  obtain ⟨m, m1, m2, m3⟩ := h.no
  obtain ⟨k, k1, k2, k3, k4⟩ := key m m1 m2 m3
  rw [nosqN_eq k1 k2 k3 k4]
  exact ⟨k1, k2, k3, k4⟩
def nosqG (p : ByteArray) : ByteArray := if primeB p then gS (nosqN (gV p)) else ⟨#[]⟩
def twosG (p : ByteArray) : Nat := if modB p then twosN (gV p - 1) else 0
def oddG (p : ByteArray) : ByteArray := if modB p then gS (oddN (gV p - 1)) else ⟨#[]⟩
/-- The lesser root. -/
def rootN (a n : Nat) : Nat := ((List.range n).find? (fun x => x * x % n == a)).getD 0
theorem rootN_eq {a n x : Nat} (hp : Prm n) (hx : x < n) (h : x * x % n = a) (hle : 2 * x ≤ n) : rootN a n = x := by
  unfold rootN
  have : (List.range n).find? (fun x => x * x % n == a) = some x := by
    rw [List.find?_range_eq_some]
    refine ⟨by simpa using h, List.mem_range.2 hx, fun j hj => ?_⟩
    have hne : j * j % n ≠ a := fun e => by
      rcases hp.two_roots (by omega : j < n) hx (e.trans h.symm) with e1 | e1 | e1 <;> omega
    simpa using hne
  rw [this]; rfl
theorem neg_root {n x : Nat} (hx : x < n) : (n - x) * (n - x) % n = x * x % n := by
  obtain ⟨y, rfl⟩ : ∃ y, n = x + y := ⟨n - x, by omega⟩
  rw [Nat.add_sub_cancel_left]
  have e : (x + y) * (x + y) = x * x + x * y + (x * y + y * y) := by rw [Nat.add_mul, Nat.mul_add, Nat.mul_add, Nat.mul_comm y x]
  have h1 : (y * y + (x + y) * x) % (x + y) = (x * x + (x + y) * y) % (x + y) := by
    congr 1
    rw [Nat.add_mul, Nat.add_mul, Nat.mul_comm y x]; omega
  rw [Nat.add_mul_mod_self_left, Nat.add_mul_mod_self_left] at h1
  exact h1
/-- The lesser of a rest and what is against it. -/
theorem lesser_root {a n x : Nat} (hp : Prm n) (hx : x < n) (h : x * x % n = a) (ha : 0 < a) : rootN a n = (if (0 + n - x) % n < x then (0 + n - x) % n else x) := by
  have h0 : 0 < x := by
    rcases Nat.eq_zero_or_pos x with e | e
    · rw [e, Nat.zero_mul, Nat.zero_mod] at h; omega
    · exact e
  have e : (0 + n - x) % n = n - x := by rw [Nat.zero_add, Nat.mod_eq_of_lt (by omega)]
  rw [e]
  by_cases hl : n - x < x
  · rw [if_pos hl]
    exact rootN_eq hp (by omega) (by rw [neg_root hx]; exact h) (by omega)
  · rw [if_neg hl]
    exact rootN_eq hp hx h (by omega)
def rootB (a p : ByteArray) : Bool := decide (symG a p = 0) || decide (symG a p = 1)
def rootG (a p : ByteArray) : ByteArray := if symG a p = 1 then gS (rootN (gV a) (gV p)) else ⟨#[]⟩
end Go.Proofs.YtkmmlfocidfghaaGreat
/-
  What the laws of chapter 6 ask of the answers.
-/
namespace Go.Proofs.YtkmmlfocidfghaaGreat
end Go.Proofs.YtkmmlfocidfghaaGreat

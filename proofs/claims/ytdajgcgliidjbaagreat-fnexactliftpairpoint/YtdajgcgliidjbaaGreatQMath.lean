import Derived.Test.YtdajgcgliidjbaaGreatRLaw
import Derived.Test.YtdajgcgliidjbaaGreatMAll
namespace Go.Proofs.YtdajgcgliidjbaaGreat
def smallB (n : Nat) : Bool := decide (3 ≤ n) && (decide (n % 2 = 1) && (List.range 100).all fun k => decide (k < 3) || (decide (k % 2 = 0) || (decide (n < k * k) || decide (n % k ≠ 0))))
theorem smallB_no {n k : Nat} (hn : n < 10000) (h3 : 3 ≤ k) (ho : k % 2 = 1) (hk : k * k ≤ n) (hd : n % k = 0) : smallB n = false := by
 have hk100 : k < 100 := by
  rcases Nat.lt_or_ge k 100 with h | h
  ·exact h
  ·have : 100 * 100 ≤ k * k := Nat.mul_le_mul h h; omega
 cases hb : smallB n with
 | false => rfl
 | true =>
  exfalso
  simp only [smallB, Bool.and_eq_true, List.all_eq_true, List.mem_range, Bool.or_eq_true, decide_eq_true_eq] at hb
  rcases hb.2.2 k hk100 with h | h | h | h <;> omega
theorem smallB_yes {n k : Nat} (h3 : 3 ≤ n) (ho : n % 2 = 1) (hk : n < k * k) (h : ∀ j, 3 ≤ j → j % 2 = 1 → j < k → n % j ≠ 0) : smallB n = true := by
 simp only [smallB, Bool.and_eq_true, List.all_eq_true, List.mem_range, Bool.or_eq_true, decide_eq_true_eq]
 refine ⟨h3, ho, fun j _ => ?_⟩
 by_cases h1 : j < 3
 ·exact .inl h1
 ·by_cases h2 : j % 2 = 0
  ·exact .inr (.inl h2)
  ·by_cases h4 : j < k
   ·exact .inr (.inr (.inr (h j (by omega) (by omega) h4)))
   ·have : k * k ≤ j * j := Nat.mul_le_mul (by omega) (by omega)
    exact .inr (.inr (.inl (by omega)))
theorem smallB_less {n : Nat} (h : n < 3 ∨ n % 2 = 0) : smallB n = false := by
 unfold smallB
 rcases h with h | h
 ·rw [decide_eq_false (by omega : ¬ 3 ≤ n)]; rfl
 ·rw [decide_eq_false (by omega : ¬ n % 2 = 1), Bool.false_and, Bool.and_false]
theorem smallB_prm {n : Nat} (hn : n < 10000) (h : smallB n = true) : Prm n ∧ 3 ≤ n := by
 have hb := h
 simp only [smallB, Bool.and_eq_true, List.all_eq_true, List.mem_range, Bool.or_eq_true, decide_eq_true_eq] at hb
 refine ⟨prm_trial hb.1 hb.2.1 fun k k3 ko kk hd => ?_, hb.1⟩
 rw [smallB_no hn k3 ko kk hd] at h
 cases h
def sameT (p q : ByteArray) : Bool := p.toList == q.toList
theorem sameT_iff {p q : ByteArray} : sameT p q = true ↔ p = q := by
 unfold sameT
 rw [ByteArray.toList_eq, ByteArray.toList_eq, beq_iff_eq]
 constructor
 ·intro h
  cases p; cases q
  exact congrArg ByteArray.mk (Array.toList_inj.1 h)
 ·intro h; rw [h]
def curvePB (p : ByteArray) : Bool := ((sameT p cvP1 || sameT p cvR1) || (sameT p cvP2 || sameT p cvR2)) || ((sameT p cvP3 || sameT p cvR3) || (sameT p cvP4 || sameT p cvR4))
def primeB (p : ByteArray) : Bool := if okG p && decide (gV p < 10000) then smallB (gV p) else curvePB p
theorem curve_num : gV cvP1 = 1706311 ∧ gV cvR1 = 1704961 ∧ gV cvP2 = 10647363907 ∧ gV cvR2 = 9831361 ∧ gV cvP3 = 21888242871839275222246405745257275088696311157297823662689037894645226208583 ∧ gV cvR3 = 21888242871839275222246405745257275088548364400416034343698204186575808495617 ∧ gV cvP4 = 4002409555221667393417789825735904156556882819939007885332058136124031650490837864442687629129015664037894272559787 ∧ gV cvR4 = 52435875175126190479447740508185965837690552500527637822603658699938581184513 := by
 refine ⟨?_, ?_, ?_, ?_, ?_, ?_, ?_, ?_⟩
 ·unfold cvP1; decide +kernel
 ·unfold cvR1; decide +kernel
 ·unfold cvP2; decide +kernel
 ·unfold cvR2; decide +kernel
 ·unfold cvP3; decide +kernel
 ·unfold cvR3; decide +kernel
 ·unfold cvP4; decide +kernel
 ·unfold cvR4; decide +kernel
theorem curve_ok : okG cvP1 = true ∧ okG cvR1 = true ∧ okG cvP2 = true ∧ okG cvR2 = true ∧ okG cvP3 = true ∧ okG cvR3 = true ∧ okG cvP4 = true ∧ okG cvR4 = true := by
 refine ⟨?_, ?_, ?_, ?_, ?_, ?_, ?_, ?_⟩
 ·unfold cvP1; decide +kernel
 ·unfold cvR1; decide +kernel
 ·unfold cvP2; decide +kernel
 ·unfold cvR2; decide +kernel
 ·unfold cvP3; decide +kernel
 ·unfold cvR3; decide +kernel
 ·unfold cvP4; decide +kernel
 ·unfold cvR4; decide +kernel
theorem curvePB_cases {p : ByteArray} (h : curvePB p = true) : p = cvP1 ∨ p = cvR1 ∨ p = cvP2 ∨ p = cvR2 ∨ p = cvP3 ∨ p = cvR3 ∨ p = cvP4 ∨ p = cvR4 := by
 simp only [curvePB, Bool.or_eq_true, sameT_iff] at h
 rcases h with ((h | h) | (h | h)) | ((h | h) | (h | h)) <;> simp [h]
structure PrimeP (n : Nat) : Prop where
 prm : Prm n
 ge : 3 ≤ n
 no : ∃ m, 2 ≤ m ∧ m < 62 ∧ symN m n = -1
theorem primeB_p {p : ByteArray} (h : primeB p = true) : okG p = true ∧ PrimeP (gV p) := by
 unfold primeB at h
 cases ht : (okG p && decide (gV p < 10000)) with
 | true =>
  rw [ht, if_pos rfl] at h
  simp only [Bool.and_eq_true, decide_eq_true_eq] at ht
  obtain ⟨h1, h2⟩ := smallB_prm ht.2 h
  obtain ⟨m, m1, m2, m3⟩ := no_square_small h1 h2 ht.2
  exact ⟨ht.1, h1, h2, m, m1, m2, by unfold symN; rw [m3, if_neg (by omega), if_neg (by omega)]⟩
 | false =>
  rw [ht, if_neg (by decide)] at h
  obtain ⟨o1, o2, o3, o4, o5, o6, o7, o8⟩ := curve_ok
  obtain ⟨e1, e2, e3, e4, e5, e6, e7, e8⟩ := curve_num
  rcases curvePB_cases h with rfl | rfl | rfl | rfl | rfl | rfl | rfl | rfl
  ·exact ⟨o1, by rw [e1]; exact ⟨prm_1706311, by decide, 3, by decide, by decide, nosq_1706311⟩⟩
  ·exact ⟨o2, by rw [e2]; exact ⟨prm_1704961, by decide, 7, by decide, by decide, nosq_1704961⟩⟩
  ·exact ⟨o3, by rw [e3]; exact ⟨prm_10647363907, by decide, 2, by decide, by decide, nosq_10647363907⟩⟩
  ·exact ⟨o4, by rw [e4]; exact ⟨prm_9831361, by decide, 13, by decide, by decide, nosq_9831361⟩⟩
  ·exact ⟨o5, by rw [e5]; exact ⟨prm_21888242871839275222246405745257275088696311157297823662689037894645226208583, by decide, 3, by decide, by decide, nosq_21888242871839275222246405745257275088696311157297823662689037894645226208583⟩⟩
  ·exact ⟨o6, by rw [e6]; exact ⟨prm_21888242871839275222246405745257275088548364400416034343698204186575808495617, by decide, 5, by decide, by decide, nosq_21888242871839275222246405745257275088548364400416034343698204186575808495617⟩⟩
  ·exact ⟨o7, by rw [e7]; exact ⟨prm_4002409555221667393417789825735904156556882819939007885332058136124031650490837864442687629129015664037894272559787, by decide, 2, by decide, by decide, nosq_4002409555221667393417789825735904156556882819939007885332058136124031650490837864442687629129015664037894272559787⟩⟩
  ·exact ⟨o8, by rw [e8]; exact ⟨prm_52435875175126190479447740508185965837690552500527637822603658699938581184513, by decide, 5, by decide, by decide, nosq_52435875175126190479447740508185965837690552500527637822603658699938581184513⟩⟩
def symG (a p : ByteArray) : Int := if primeB p && restB a p then symN (gV a) (gV p) else 2
def nosqN (n : Nat) : Nat := ((List.range 62).find? (fun m => decide (2 ≤ m) && decide (symN m n = -1))).getD 0
theorem nosqN_eq {n m : Nat} (h2 : 2 ≤ m) (hm : m < 62) (h : symN m n = -1) (hl : ∀ j, 2 ≤ j → j < m → symN j n ≠ -1) : nosqN n = m := by
 unfold nosqN
 have : (List.range 62).find? (fun m => decide (2 ≤ m) && decide (symN m n = -1)) = some m := by
  rw [List.find?_range_eq_some]
  refine ⟨by rw [decide_eq_true h2, decide_eq_true h]; rfl, List.mem_range.2 hm, fun j hj => ?_⟩
  by_cases h2j : 2 ≤ j
  ·rw [decide_eq_false (hl j h2j hj)]; simp
  ·rw [decide_eq_false h2j]; rfl
 rw [this]; rfl
theorem nosqN_spec {n : Nat} (h : PrimeP n) : 2 ≤ nosqN n ∧ nosqN n < 62 ∧ symN (nosqN n) n = -1 ∧ ∀ j, 2 ≤ j → j < nosqN n → symN j n ≠ -1 := by
 have key : ∀ m, 2 ≤ m → m < 62 → symN m n = -1 → ∃ k, 2 ≤ k ∧ k < 62 ∧ symN k n = -1 ∧ ∀ j, 2 ≤ j → j < k → symN j n ≠ -1 := by
  intro m
  induction m using Nat.strongRecOn with
  | ind m ih =>
   intro h1 h2 h3
   by_cases hx : ∃ j, 2 ≤ j ∧ j < m ∧ symN j n = -1
   ·obtain ⟨j, j1, j2, j3⟩ := hx
    exact ih j j2 j1 (by omega) j3
   ·exact ⟨m, h1, h2, h3, fun j j1 j2 j3 => hx ⟨j, j1, j2, j3⟩⟩
 obtain ⟨m, m1, m2, m3⟩ := h.no
 obtain ⟨k, k1, k2, k3, k4⟩ := key m m1 m2 m3
 rw [nosqN_eq k1 k2 k3 k4]
 exact ⟨k1, k2, k3, k4⟩
def nosqG (p : ByteArray) : ByteArray := if primeB p then gS (nosqN (gV p)) else ⟨#[]⟩
def twosG (p : ByteArray) : Nat := if modB p then twosN (gV p - 1) else 0
def oddG (p : ByteArray) : ByteArray := if modB p then gS (oddN (gV p - 1)) else ⟨#[]⟩
def rootN (a n : Nat) : Nat := ((List.range n).find? (fun x => x * x % n == a)).getD 0
theorem rootN_eq {a n x : Nat} (hp : Prm n) (hx : x < n) (h : x * x % n = a) (hle : 2 * x ≤ n) : rootN a n = x := by
 unfold rootN
 have : (List.range n).find? (fun x => x * x % n == a) = some x := by
  rw [List.find?_range_eq_some]
  refine ⟨by simpa using h, List.mem_range.2 hx, fun j hj => ?_⟩
  have hne : j * j % n ≠ a := fun e => by
   rcases hp.two_roots (by omega : j < n) hx (e.trans h.symm) with e1 | e1 | e1 <;> omega
  simpa using hne
 rw [this]; rfl
theorem neg_root {n x : Nat} (hx : x < n) : (n - x) * (n - x) % n = x * x % n := by
 obtain ⟨y, rfl⟩ : ∃ y, n = x + y := ⟨n - x, by omega⟩
 rw [Nat.add_sub_cancel_left]
 have e : (x + y) * (x + y) = x * x + x * y + (x * y + y * y) := by rw [Nat.add_mul, Nat.mul_add, Nat.mul_add, Nat.mul_comm y x]
 have h1 : (y * y + (x + y) * x) % (x + y) = (x * x + (x + y) * y) % (x + y) := by
  congr 1
  rw [Nat.add_mul, Nat.add_mul, Nat.mul_comm y x]; omega
 rw [Nat.add_mul_mod_self_left, Nat.add_mul_mod_self_left] at h1
 exact h1
theorem lesser_root {a n x : Nat} (hp : Prm n) (hx : x < n) (h : x * x % n = a) (ha : 0 < a) : rootN a n = (if (0 + n - x) % n < x then (0 + n - x) % n else x) := by
 have h0 : 0 < x := by
  rcases Nat.eq_zero_or_pos x with e | e
  ·rw [e, Nat.zero_mul, Nat.zero_mod] at h; omega
  ·exact e
 have e : (0 + n - x) % n = n - x := by rw [Nat.zero_add, Nat.mod_eq_of_lt (by omega)]
 rw [e]
 by_cases hl : n - x < x
 ·rw [if_pos hl]
  exact rootN_eq hp (by omega) (by rw [neg_root hx]; exact h) (by omega)
 ·rw [if_neg hl]
  exact rootN_eq hp hx h (by omega)
def rootB (a p : ByteArray) : Bool := decide (symG a p = 0) || decide (symG a p = 1)
def rootG (a p : ByteArray) : ByteArray := if symG a p = 1 then gS (rootN (gV a) (gV p)) else ⟨#[]⟩
def greaterB (a p : ByteArray) : Bool := oneB a p && decide ((0 + gV p - gV a) % gV p < gV a)
end Go.Proofs.YtdajgcgliidjbaaGreat
namespace Go.Proofs.YtdajgcgliidjbaaGreat
theorem TS.root {n a : Nat} (hp : Prm n) : ∀ (t x b g : Nat), TS n a x b g t → ∃ r, r * r % n = a % n := by
 intro t
 induction t using Nat.strongRecOn with
 | ind t ih =>
  intro x b g h
  by_cases hb : b % n = 1
  ·exact ⟨x, h.done hb⟩
  ·have key : ∀ k, b ^ (2 ^ k) % n = 1 → ∃ m, 1 ≤ m ∧ m ≤ k ∧ b ^ (2 ^ m) % n = 1 ∧ b ^ (2 ^ (m - 1)) % n ≠ 1 := by
    intro k
    induction k with
    | zero => intro hk; rw [Nat.pow_zero, Nat.pow_one] at hk; exact absurd hk hb
    | succ k ih2 =>
     intro hk
     by_cases h1 : b ^ (2 ^ k) % n = 1
     ·obtain ⟨m, m1, m2, m3, m4⟩ := ih2 h1
      exact ⟨m, m1, by omega, m3, m4⟩
     ·exact ⟨k + 1, by omega, Nat.le_refl _, hk, by rw [Nat.add_sub_cancel]; exact h1⟩
   obtain ⟨m, m1, m2, m3, m4⟩ := key (t - 1) h.one
   have hm : m < t := by have := h.pos; omega
   exact ih m hm _ _ _ (TS.next hp h m1 hm m3 m4)
theorem root_ex {a n : Nat} (pp : PrimeP n) (ha : a < n) (hs : symN a n = 1) : ∃ r, r < n ∧ r * r % n = a := by
 have h3 := pp.ge
 have hodd := pp.prm.odd h3
 obtain ⟨e1, e2⟩ := twos_all (n - 1) (by omega)
 have h1 : 1 ≤ twosN (n - 1) := by rw [twosN_even (by omega) (by omega)]; omega
 have h0 : ¬ n ∣ a := fun h => by have := (symN_zero (a := a) pp.prm h3).2 h; rw [this] at hs; cases hs
 have ha1 : a ^ ((n - 1) / 2) % n = 1 := by
  rcases symN_cases pp.prm h3 h0 with h | h
  ·exact h.2
  ·rw [h.1] at hs; cases hs
 obtain ⟨_, _, m3, _⟩ := nosqN_spec pp
 have hm0 : ¬ n ∣ nosqN n := fun h => by have := (symN_zero (a := nosqN n) pp.prm h3).2 h; rw [this] at m3; cases m3
 have hm1 : nosqN n ^ ((n - 1) / 2) % n = n - 1 := by
  rcases symN_cases pp.prm h3 hm0 with h | h
  ·rw [h.1] at m3; cases m3
  ·exact h.2
 obtain ⟨r, hr⟩ := TS.root pp.prm _ _ _ _ (TS.start h1 e1 e2 ha1 hm1)
 exact ⟨r % n, Nat.mod_lt _ (by omega), by rw [← Nat.mul_mod, hr, Nat.mod_eq_of_lt ha]⟩
theorem rootN_spec {a n : Nat} (pp : PrimeP n) (ha : a < n) (hs : symN a n = 1) : rootN a n < n ∧ rootN a n * rootN a n % n = a ∧ 2 * rootN a n ≤ n ∧ 0 < rootN a n := by
 have h3 := pp.ge
 have ha0 : 0 < a := by
  rcases Nat.eq_zero_or_pos a with e | e
  ·have := (symN_zero (a := a) pp.prm h3).2 (by rw [e]; exact Nat.dvd_zero _)
   rw [this] at hs; cases hs
  ·exact e
 obtain ⟨r, hr, hrr⟩ := root_ex pp ha hs
 have r0 : 0 < r := by
  rcases Nat.eq_zero_or_pos r with e | e
  ·rw [e, Nat.zero_mul, Nat.zero_mod] at hrr; omega
  ·exact e
 by_cases h2 : 2 * r ≤ n
 ·rw [rootN_eq pp.prm hr hrr h2]; exact ⟨hr, hrr, h2, r0⟩
 ·have e : (n - r) * (n - r) % n = a := by rw [neg_root hr]; exact hrr
  rw [rootN_eq pp.prm (by omega) e (by omega)]
  exact ⟨by omega, e, by omega, by omega⟩
theorem symN_mul {p : Nat} (h : Prm p) (h3 : 3 ≤ p) (a b : Nat) : symN (a * b) p = symN a p * symN b p := by
 by_cases ha : p ∣ a
 ·rw [(symN_zero h h3).2 ha, (symN_zero h h3).2 (Nat.dvd_trans ha (Nat.dvd_mul_right a b)), Int.zero_mul]
 by_cases hb : p ∣ b
 ·rw [(symN_zero h h3).2 hb, (symN_zero h h3).2 (Nat.dvd_trans hb (Nat.dvd_mul_left b a)), Int.mul_zero]
 have e : ∀ x y, a ^ ((p - 1) / 2) % p = x → b ^ ((p - 1) / 2) % p = y → (a * b) ^ ((p - 1) / 2) % p = x * y % p := by
  intro x y hx hy
  rw [Nat.mul_pow, Nat.mul_mod, hx, hy]
 rcases symN_cases h h3 ha with ⟨a1, a2⟩ | ⟨a1, a2⟩ <;> rcases symN_cases h h3 hb with ⟨b1, b2⟩ | ⟨b1, b2⟩
 ·rw [a1, b1]; have := e _ _ a2 b2; unfold symN; rw [this, Nat.mod_eq_of_lt (by omega)]; rfl
 ·rw [a1, b1]; have := e _ _ a2 b2; unfold symN; rw [this, Nat.one_mul, Nat.mod_eq_of_lt (by omega), if_neg (by omega), if_neg (by omega)]; rfl
 ·rw [a1, b1]; have := e _ _ a2 b2; unfold symN; rw [this, Nat.mul_one, Nat.mod_eq_of_lt (by omega), if_neg (by omega), if_neg (by omega)]; rfl
 ·rw [a1, b1]; have := e _ _ a2 b2; unfold symN; rw [this, neg_sq (by omega)]; rfl
theorem symN_three {p : Nat} (h : Prm p) (h3 : 3 ≤ p) (a : Nat) : symN a p = -1 ∨ symN a p = 0 ∨ symN a p = 1 := by
 by_cases ha : p ∣ a
 ·exact .inr (.inl ((symN_zero h h3).2 ha))
 ·rcases symN_cases h h3 ha with ⟨a1, _⟩ | ⟨a1, _⟩
  ·exact .inr (.inr a1)
  ·exact .inl a1
theorem nosqN_lt {n : Nat} (pp : PrimeP n) : nosqN n < n := by
 have h3 := pp.ge
 obtain ⟨m1, m2, m3, m4⟩ := nosqN_spec pp
 rcases Nat.lt_or_ge (nosqN n) n with h | h
 ·exact h
 ·exfalso
  have e : symN (nosqN n % n) n = -1 := by rw [symN_mod]; exact m3
  have hlt : nosqN n % n < n := Nat.mod_lt _ (by omega)
  have h0 : nosqN n % n ≠ 0 := fun e0 => by
   rw [e0, (symN_zero pp.prm h3).2 (Nat.dvd_zero _)] at e; cases e
  have h1 : nosqN n % n ≠ 1 := fun e1 => by
   rw [e1] at e
   unfold symN at e
   rw [Nat.one_pow, Nat.mod_eq_of_lt (by omega)] at e
   exact absurd e (by decide)
  exact m4 _ (by omega) (by omega) e
end Go.Proofs.YtdajgcgliidjbaaGreat

/-
  Plain facts for impl's chapter 5 (rows of 108 limbs to the base 2^24): a product that is not carried yet, low limbs cleared by adding p, what is carried, what is taken away; the low inverse by three doublings.
-/
import Derived.Test.YtdbjjnbmbeabeaaGreatNKn
namespace Go.Proofs.YtdbjjnbmbeabeaaGreat

/-- The greatest product of two limbs. -/
def MM : Nat := 281474943156225
theorem mul_MM {x y : Nat} (hx : x < 16777216) (hy : y < 16777216) : x * y ≤ MM := by
  have h : x * y ≤ 16777215 * 16777215 := Nat.mul_le_mul (by omega) (by omega)
  exact h
theorem MM_fits {a c : Nat} (ha : a ≤ 110) (h : c ≤ a * MM + 4294967296) : c < 36028797018963968 := by
  have h1 : a * MM ≤ 110 * MM := Nat.mul_le_mul_right _ ha
  have h2 : 110 * MM + 4294967296 < 36028797018963968 := by decide
  omega
theorem getD_set_if {l : List Nat} {k j : Nat} (v : Nat) (hk : k < l.length) : (l.set k v).getD j 0 = if k = j then v else l.getD j 0 := by
  simp only [List.getD_eq_getElem?_getD, List.getElem?_set]
  by_cases h : k = j
  · subst h; simp [hk]
  · simp [h]
theorem lV_take_all {l : List Nat} {m : Nat} (hz : ∀ k, m ≤ k → l.getD k 0 = 0) : lV (l.take m) = lV l := by
  have z : lV (l.drop m) = 0 := lV_zeros fun x hx => by
    obtain ⟨i, hi, rfl⟩ := List.getElem_of_mem hx
    rw [List.length_drop] at hi
    have := hz (m + i) (by omega)
    rw [getD_eq (by omega)] at this
    rw [List.getElem_drop]; exact this
  rw [lV_split l m, z]; omega
theorem getD_drop (l : List Nat) (i j : Nat) : (l.drop i).getD j 0 = l.getD (i + j) 0 := by
  simp only [List.getD_eq_getElem?_getD, List.getElem?_drop]
theorem lV_drop (l : List Nat) (i : Nat) : lV (l.drop i) = l.getD i 0 + 16777216 * lV (l.drop (i + 1)) := by
  by_cases hk : i < l.length
  · rw [List.drop_eq_getElem_cons hk, lV_cons, getD_eq hk]
  · rw [List.drop_of_length_le (by omega), List.drop_of_length_le (by omega), List.getD_eq_getElem?_getD, List.getElem?_eq_none (by omega)]; rfl

def Z108 : List Nat := List.replicate 108 0
theorem Z108_len : Z108.length = 108 := by simp [Z108]
theorem Z108_getD (k : Nat) : Z108.getD k 0 = 0 := by
  simp only [Z108, List.getD_eq_getElem?_getD, List.getElem?_replicate]; split <;> rfl
theorem Z108_lim : Limbs Z108 := fun x hx => by have := List.eq_of_mem_replicate hx; omega
theorem Z108_val : lV Z108 = 0 := lV_zeros fun _ hx => List.eq_of_mem_replicate hx

/-- A right row of so many limbs. -/
structure LRow (l : List Nat) (L : Nat) : Prop where
  lim : Limbs l
  len : l.length = 108
  zero : ∀ k, L ≤ k → l.getD k 0 = 0

/-! A product that is not carried. -/
structure ProdW (x y : List Nat) (L i j : Nat) (l : List Nat) : Prop where
  len : l.length = 108
  val : lV l = lV (x.take i) * lV y + 16777216 ^ i * (x.getD i 0 * lV (y.take j))
  bd : ∀ k, l.getD k 0 ≤ (if k < i + j then i + 1 else i) * MM
  zero : ∀ k, 2 * L ≤ k → l.getD k 0 = 0
theorem ProdW.start (x y : List Nat) (L : Nat) : ProdW x y L 0 0 Z108 :=
  ⟨Z108_len, by rw [Z108_val]; simp [lV], fun k => by rw [Z108_getD]; omega, fun k _ => Z108_getD k⟩
theorem ProdW.next {x y l : List Nat} {L i j n : Nat} (h : ProdW x y L i j l) (hi : i < L) (hj : j < L) (hL : L ≤ 54) (lx : Limbs x) (ly : Limbs y) (hn : l.getD (i + j) 0 + x.getD i 0 * y.getD j 0 = n) :
    ProdW x y L i (j + 1) (l.set (i + j) n) := by
  have hk : i + j < l.length := by rw [h.len]; omega
  have hs := lV_set l (i + j) n hk
  have hm := mul_MM (getD_lt lx i) (getD_lt ly j)
  refine ⟨by rw [List.length_set]; exact h.len, ?_, fun k => ?_, fun k hk2 => ?_⟩
  · rw [lV_take_succ, Nat.mul_add, Nat.mul_add, ← Nat.add_assoc, ← h.val]
    rw [← hn, Nat.mul_add] at hs
    rw [← hn]
    have e : 16777216 ^ (i + j) * (x.getD i 0 * y.getD j 0) = 16777216 ^ i * (x.getD i 0 * (16777216 ^ j * y.getD j 0)) := by
      rw [Nat.pow_add, Nat.mul_assoc, Nat.mul_left_comm (x.getD i 0)]
    rw [e] at hs
    omega
  · rw [getD_set_if n hk]
    by_cases e : i + j = k
    · subst e
      have := h.bd (i + j)
      rw [if_neg (by omega)] at this
      rw [if_pos rfl, if_pos (by omega), Nat.add_mul, Nat.one_mul]
      omega
    · rw [if_neg e]
      have := h.bd k
      refine Nat.le_trans this (Nat.mul_le_mul_right _ ?_)
      split <;> split <;> omega
  · rw [getD_set_if n hk, if_neg (by omega)]; exact h.zero k hk2
theorem ProdW.row {x y l : List Nat} {L i : Nat} (h : ProdW x y L i L l) (hy : ∀ k, L ≤ k → y.getD k 0 = 0) : ProdW x y L (i + 1) 0 l := by
  refine ⟨h.len, ?_, fun k => ?_, h.zero⟩
  · rw [h.val, lV_take_all hy, lV_take_succ, List.take_zero, show lV [] = 0 from rfl, Nat.add_mul, Nat.mul_zero, Nat.mul_zero, Nat.add_zero, Nat.mul_assoc]
  · refine Nat.le_trans (h.bd k) (Nat.mul_le_mul_right _ ?_)
    split <;> split <;> omega
/-- What stands in the row when low limbs are about to be cleared. -/
structure SumW (S L : Nat) (l : List Nat) : Prop where
  len : l.length = 108
  val : lV l = S
  bd : ∀ k, l.getD k 0 ≤ 55 * MM
  zero : ∀ k, 2 * L ≤ k → l.getD k 0 = 0
theorem ProdW.done {x y l : List Nat} {L : Nat} (h : ProdW x y L L 0 l) (hx : ∀ k, L ≤ k → x.getD k 0 = 0) (hL : L ≤ 54) : SumW (lV x * lV y) L l := by
  refine ⟨h.len, ?_, fun k => Nat.le_trans (h.bd k) (Nat.mul_le_mul_right _ (by split <;> omega)), h.zero⟩
  rw [h.val, lV_take_all hx, hx L (Nat.le_refl _), Nat.zero_mul, Nat.mul_zero, Nat.add_zero]
theorem LRow.sum {l : List Nat} {L : Nat} (h : LRow l L) : SumW (lV l) L l :=
  ⟨h.len, rfl, fun k => by have := getD_lt h.lim k; have : 16777216 ≤ 55 * MM := by decide
                           omega, fun k hk => h.zero k (by omega)⟩

/-! Low limbs cleared. -/
structure ClearO (S P L i : Nat) (l : List Nat) : Prop where
  len : l.length = 108
  val : ∃ T, T < 16777216 ^ i ∧ 16777216 ^ i * lV (l.drop i) = S + T * P
  bd : ∀ k, l.getD k 0 ≤ (55 + i) * MM + (if k ≤ i then 4294967296 else 0)
  zero : ∀ k, 2 * L ≤ k → l.getD k 0 = 0
structure ClearI (V : Nat) (y : List Nat) (L i t j : Nat) (l : List Nat) : Prop where
  len : l.length = 108
  val : lV (l.drop i) = V + t * lV (y.take j)
  bd : ∀ k, l.getD k 0 ≤ (if k < i + j then 56 + i else 55 + i) * MM + (if k ≤ i then 4294967296 else 0)
  zero : ∀ k, 2 * L ≤ k → l.getD k 0 = 0
theorem ClearO.start {S P L : Nat} {l : List Nat} (h : SumW S L l) : ClearO S P L 0 l :=
  ⟨h.len, ⟨0, by decide, by rw [List.drop_zero, h.val]; omega⟩, fun k => by have := h.bd k; omega, h.zero⟩
theorem ClearO.inner {S P L i : Nat} {l : List Nat} (h : ClearO S P L i l) (y : List Nat) (t : Nat) : ClearI (lV (l.drop i)) y L i t 0 l :=
  ⟨h.len, by rw [List.take_zero]; simp [lV], fun k => Nat.le_trans (h.bd k) (Nat.add_le_add_right (Nat.mul_le_mul_right _ (by split <;> omega)) _), h.zero⟩
theorem ClearI.fits {V L i t j : Nat} {y l : List Nat} (h : ClearI V y L i t j l) (hi : i < 54) (k : Nat) : l.getD k 0 < 36028797018963968 := by
  have := h.bd k
  refine MM_fits (a := if k < i + j then 56 + i else 55 + i) (by split <;> omega) ?_
  refine Nat.le_trans this (Nat.add_le_add_left ?_ _)
  split <;> omega
theorem ClearO.fits {S P L i : Nat} {l : List Nat} (h : ClearO S P L i l) (hi : i ≤ 54) (k : Nat) : l.getD k 0 < 36028797018963968 := by
  have := h.bd k
  refine MM_fits (a := 55 + i) (by omega) ?_
  refine Nat.le_trans this (Nat.add_le_add_left ?_ _)
  split <;> omega
theorem ClearI.next {V L i t j n : Nat} {y l : List Nat} (h : ClearI V y L i t j l) (hi : i < L) (hj : j < L) (hL : L ≤ 54) (ht : t < 16777216) (ly : Limbs y) (hn : l.getD (i + j) 0 + t * y.getD j 0 = n) :
    ClearI V y L i t (j + 1) (l.set (i + j) n) := by
  have hk : i + j < l.length := by rw [h.len]; omega
  have hm := mul_MM ht (getD_lt ly j)
  have hs := lV_set (l.drop i) j n (by rw [List.length_drop]; omega)
  rw [getD_drop] at hs
  refine ⟨by rw [List.length_set]; exact h.len, ?_, fun k => ?_, fun k hk2 => ?_⟩
  · rw [List.drop_set, if_neg (by omega), show i + j - i = j from by omega]
    rw [lV_take_succ, Nat.mul_add, ← Nat.add_assoc, ← h.val]
    rw [← hn, Nat.mul_add, Nat.mul_left_comm (16777216 ^ j) t] at hs
    rw [← hn]
    omega
  · rw [getD_set_if n hk]
    by_cases e : i + j = k
    · subst e
      have := h.bd (i + j)
      rw [if_neg (by omega)] at this
      rw [if_pos rfl, if_pos (by omega), show 56 + i = 55 + i + 1 from by omega, Nat.add_mul (55 + i), Nat.one_mul]
      generalize (55 + i) * MM = Q at *
      generalize (if i + j ≤ i then 4294967296 else 0) = E at *
      omega
    · rw [if_neg e]
      have := h.bd k
      refine Nat.le_trans this (Nat.add_le_add_right (Nat.mul_le_mul_right _ ?_) _)
      split <;> split <;> omega
  · rw [getD_set_if n hk, if_neg (by omega)]; exact h.zero k hk2
theorem clear_digit {v P m q t : Nat} (hm : (m * P + 1) % 16777216 = 0) (hq : v % 16777216 = q) (ht : q * m % 16777216 = t) : (v + t * P) % 16777216 = 0 := by
  have e1 : (v + t * P) % 16777216 = (q + q * m * P) % 16777216 := by
    have a1 : t * P % 16777216 = q * m * P % 16777216 := by rw [← ht, Nat.mod_mul_mod]
    rw [Nat.add_mod, a1, hq, Nat.add_mod_mod]
  rw [e1, Nat.mul_assoc, show q + q * (m * P) = q * (m * P + 1) from by rw [Nat.mul_add]; omega, Nat.mul_mod, hm, Nat.mul_zero, Nat.zero_mod]
theorem ClearI.done {S P L i t m : Nat} {y l0 l : List Nat} {c : Nat} (h0 : ClearO S P L i l0) (h : ClearI (lV (l0.drop i)) y L i t L l) (hi : i < L) (hL : L ≤ 54) (hy : ∀ k, L ≤ k → y.getD k 0 = 0) (hP : lV y = P)
    (hm : (m * P + 1) % 16777216 = 0) (ht : l0.getD i 0 % 16777216 * m % 16777216 = t) (hc : l.getD (i + 1) 0 + l.getD i 0 / 16777216 = c) : ClearO S P L (i + 1) (l.set (i + 1) c) := by
  have hk : i + 1 < l.length := by rw [h.len]; omega
  have ht2 : t < 16777216 := by rw [← ht]; exact Nat.mod_lt _ (by omega)
  have hv := h.val
  rw [lV_take_all hy, hP] at hv
  have d0 := lV_drop l0 i
  have d1 := lV_drop l i
  have hz : l.getD i 0 % 16777216 = 0 := by
    have := clear_digit hm (v := lV (l0.drop i)) (q := l0.getD i 0 % 16777216) (t := t) (by rw [d0]; omega) ht
    rw [← hv, d1] at this
    omega
  have hf := h.fits (by omega) i
  have hs := lV_set (l.drop (i + 1)) 0 c (by rw [List.length_drop]; omega)
  rw [getD_drop, Nat.pow_zero, Nat.one_mul, Nat.one_mul, Nat.add_zero] at hs
  refine ⟨by rw [List.length_set]; exact h.len, ?_, fun k => ?_, fun k hk2 => ?_⟩
  · obtain ⟨T, hT, e⟩ := h0.val
    refine ⟨T + 16777216 ^ i * t, ?_, ?_⟩
    · have : 16777216 ^ i * (t + 1) ≤ 16777216 ^ i * 16777216 := Nat.mul_le_mul_left _ ht2
      rw [Nat.mul_add] at this
      rw [Nat.pow_succ]
      omega
    · rw [List.drop_set, if_neg (by omega), show i + 1 - (i + 1) = 0 from by omega]
      have e2 : 16777216 * lV ((l.drop (i + 1)).set 0 c) = lV (l0.drop i) + t * P := by rw [← hv, d1]; omega
      rw [Nat.pow_succ, Nat.mul_assoc, e2, Nat.mul_add, e, Nat.add_mul, Nat.mul_assoc]
      omega
  · rw [getD_set_if c hk]
    have hbk := h.bd k
    by_cases e : i + 1 = k
    · subst e
      rw [if_pos rfl, if_pos (by omega)]
      rw [if_neg (by omega : ¬ i + 1 ≤ i)] at hbk
      have : (if i + 1 < i + L then 56 + i else 55 + i) * MM ≤ (55 + (i + 1)) * MM := Nat.mul_le_mul_right _ (by split <;> omega)
      omega
    · rw [if_neg e]
      refine Nat.le_trans hbk (Nat.add_le_add (Nat.mul_le_mul_right _ ?_) ?_)
      · split <;> omega
      · split <;> split <;> omega
  · rw [getD_set_if c hk, if_neg (by omega)]; exact h.zero k hk2
/-- What is left over the low limbs. -/
theorem ClearO.last {S P L : Nat} {l : List Nat} (h : ClearO S P L L l) (hS : S < P * 16777216 ^ L) : ∃ T, 16777216 ^ L * lV (l.drop L) = S + T * P ∧ lV (l.drop L) < 2 * P := by
  obtain ⟨T, hT, e⟩ := h.val
  refine ⟨T, e, ?_⟩
  have hp : 0 < 16777216 ^ L := Nat.pow_pos (by omega)
  generalize 16777216 ^ L = B at *
  have h1 : T * P ≤ B * P := Nat.mul_le_mul_right _ (Nat.le_of_lt hT)
  have h2 : B * lV (l.drop L) < B * (2 * P) := by rw [e, show B * (2 * P) = P * B + B * P from by rw [Nat.mul_comm P B, ← Nat.mul_two, Nat.mul_assoc, Nat.mul_comm P 2]]; omega
  exact Nat.lt_of_mul_lt_mul_left h2

/-! Carried. -/
structure CarW (l : List Nat) (L i c : Nat) (o : List Nat) : Prop where
  lim : Limbs o
  len : o.length = 108
  val : lV o + 16777216 ^ i * c = lV ((l.drop L).take i)
  zero : ∀ k, i ≤ k → o.getD k 0 = 0
  cb : c < 17179869184
theorem CarW.start (l : List Nat) (L : Nat) : CarW l L 0 0 Z108 := ⟨Z108_lim, Z108_len, by rw [Z108_val]; simp [lV], fun k _ => Z108_getD k, by omega⟩
theorem CarW.next {l o : List Nat} {L i c n : Nat} (h : CarW l L i c o) (hi : i < 108) (hf : l.getD (L + i) 0 < 36028797018963968) (hn : c + l.getD (L + i) 0 = n) : CarW l L (i + 1) (n / 16777216) (o.set i (n % 16777216)) := by
  have hk : i < o.length := by rw [h.len]; exact hi
  have hs := lV_set o i (n % 16777216) hk
  have hcb := h.cb
  rw [h.zero i (Nat.le_refl _)] at hs
  refine ⟨h.lim.set _ (Nat.mod_lt _ (by omega)), by rw [List.length_set]; exact h.len, ?_, fun k hk2 => ?_, by omega⟩
  · rw [lV_take_succ, getD_drop, ← h.val]
    have e : 16777216 ^ i * n = 16777216 ^ i * (n % 16777216) + 16777216 ^ i * 16777216 * (n / 16777216) := by
      rw [Nat.mul_assoc, ← Nat.mul_add]; congr 1; omega
    rw [← hn, Nat.mul_add, hn] at e
    rw [Nat.pow_succ]
    omega
  · rw [getD_set_if _ hk, if_neg (by omega)]; exact h.zero k (by omega)
theorem CarW.done {l o : List Nat} {L c P : Nat} (h : CarW l L L c o) (hL : L ≤ 54) (hz : ∀ k, 2 * L ≤ k → l.getD k 0 = 0) (hV : lV (l.drop L) < 2 * P) (hP : P < 16777216 ^ L) :
    c < 16777216 ∧ LRow (o.set L c) (L + 1) ∧ lV (o.set L c) = lV (l.drop L) := by
  have hk : L < o.length := by rw [h.len]; omega
  have e := h.val
  rw [lV_take_all (fun k hk2 => by rw [getD_drop]; exact hz _ (by omega))] at e
  have hc : c < 2 := by
    rcases Nat.lt_or_ge c 2 with h2 | h2
    · exact h2
    · have : 16777216 ^ L * 2 ≤ 16777216 ^ L * c := Nat.mul_le_mul_left _ h2
      omega
  have hs := lV_set o L c hk
  rw [h.zero L (Nat.le_refl _)] at hs
  refine ⟨by omega, ⟨h.lim.set _ (by omega), by rw [List.length_set]; exact h.len, fun k hk2 => ?_⟩, by omega⟩
  rw [getD_set_if _ hk, if_neg (by omega)]; exact h.zero k (by omega)

/-! Which is less; what is taken away. -/
theorem hi_next {l m : List Nat} (hl : Limbs l) (hm : Limbs m) {k : Nat} (h : lV l / 16777216 ^ (k + 1) = lV m / 16777216 ^ (k + 1)) :
    (l.getD k 0 = m.getD k 0 → lV l / 16777216 ^ k = lV m / 16777216 ^ k) ∧ (l.getD k 0 < m.getD k 0 → lV l < lV m) := by
  have e1 := lV_dig hl k
  have e2 := lV_dig hm k
  rw [h] at e1
  refine ⟨fun e => by rw [e1, e2, e], fun e => ?_⟩
  have hlt : lV l / 16777216 ^ k < lV m / 16777216 ^ k := by omega
  rcases Nat.lt_or_ge (lV l) (lV m) with hh | hh
  · exact hh
  · have := Nat.div_le_div_right (c := 16777216 ^ k) hh; omega
theorem LRow.hi0 {l : List Nat} {L : Nat} (h : LRow l L) : lV l / 16777216 ^ L = 0 := Nat.div_eq_of_lt (low_of_zero h.lim h.zero)
theorem LRow.more {l : List Nat} {L M : Nat} (h : LRow l L) (hm : L ≤ M) : LRow l M := ⟨h.lim, h.len, fun k hk => h.zero k (by omega)⟩
theorem less_high {l m : List Nat} (hl : Limbs l) (hm : Limbs m) {k x y : Nat} (h : lV l / 16777216 ^ (k + 1) = lV m / 16777216 ^ (k + 1)) (hx : l.getD k 0 = x) (hy : m.getD k 0 = y) (hne : x ≠ y) : decide ((x : Int) < (y : Int)) = decide (lV l < lV m) := by
  have a := (hi_next hl hm h).2
  have b := (hi_next hm hl h.symm).2
  rw [hx, hy] at a b
  rcases Nat.lt_or_ge x y with hh | hh
  · rw [decide_eq_true (by omega : (x : Int) < (y : Int)), decide_eq_true (a hh)]
  · have := b (by omega)
    rw [decide_eq_false (by omega : ¬ (x : Int) < (y : Int)), decide_eq_false (by omega)]
structure TakeW (x y : List Nat) (i b : Nat) (l : List Nat) : Prop where
  lim : Limbs l
  len : l.length = 108
  val : lV l + lV (y.take i) = lV x + 16777216 ^ i * b
  rest : ∀ k, i ≤ k → l.getD k 0 = x.getD k 0
  b1 : b ≤ 1
theorem TakeW.start {x : List Nat} {L : Nat} (h : LRow x L) (y : List Nat) : TakeW x y 0 0 x := ⟨h.lim, h.len, by simp [lV], fun _ _ => rfl, by omega⟩
theorem TakeW.next {x y l : List Nat} {i b n : Nat} (h : TakeW x y i b l) (hi : i < 108) (lx : Limbs x) (ly : Limbs y) (hn : 16777216 + x.getD i 0 - y.getD i 0 - b = n) :
    n / 16777216 ≤ 1 ∧ TakeW x y (i + 1) (1 - n / 16777216) (l.set i (n % 16777216)) := by
  have hk : i < l.length := by rw [h.len]; exact hi
  have hx := getD_lt lx i
  have hy := getD_lt ly i
  have hb := h.b1
  have hs := lV_set l i (n % 16777216) hk
  have hr := h.rest i (Nat.le_refl _)
  rw [hr] at hs
  obtain ⟨u, hu⟩ : ∃ u, n / 16777216 = u := ⟨_, rfl⟩
  obtain ⟨d, hd⟩ : ∃ d, n % 16777216 = d := ⟨_, rfl⟩
  have hu1 : u ≤ 1 := by omega
  rw [hd] at hs
  rw [hu, hd]
  have key : d + y.getD i 0 + b = x.getD i 0 + 16777216 * (1 - u) := by omega
  refine ⟨hu1, h.lim.set _ (by omega), by rw [List.length_set]; exact h.len, ?_, fun k hk2 => ?_, by omega⟩
  · rw [lV_take_succ, Nat.pow_succ, Nat.mul_assoc]
    have e := congrArg (16777216 ^ i * ·) key
    simp only [Nat.mul_add] at e
    have hv := h.val
    omega
  · rw [getD_set_if _ hk, if_neg (by omega)]; exact h.rest k (by omega)
theorem TakeW.done {x y l : List Nat} {e b : Nat} (h : TakeW x y e b l) (hx : LRow x e) (hy : LRow y e) (hle : lV y ≤ lV x) : LRow l e ∧ lV l = lV x - lV y := by
  have hz : ∀ k, e ≤ k → l.getD k 0 = 0 := fun k hk => by rw [h.rest k hk]; exact hx.zero k hk
  have hlt := low_of_zero h.lim hz
  have hv := h.val
  rw [lV_take_all hy.zero] at hv
  have hb : b = 0 := by
    have := h.b1
    rcases (show b = 0 ∨ b = 1 by omega) with e0 | e0
    · exact e0
    · rw [e0] at hv; omega
  rw [hb] at hv
  exact ⟨⟨h.lim, h.len, hz⟩, by omega⟩

/-! The low inverse. -/
def lowStep32 (v x : Int) : Int := x * ((2 - v * x % 4294967296) % 4294967296) % 4294967296
theorem low_id32 (v x : Int) : ∃ z : Int, 1 - v * lowStep32 v x = (1 - v * x) * (1 - v * x) + 4294967296 * z := by
  unfold lowStep32
  have h1 := Int.emod_add_mul_ediv (v * x) 4294967296
  obtain ⟨r, hr⟩ : ∃ r, v * x % 4294967296 = r := ⟨_, rfl⟩
  obtain ⟨q, hq⟩ : ∃ q, v * x / 4294967296 = q := ⟨_, rfl⟩
  rw [hr, hq] at h1
  rw [hr]
  have h2 := Int.emod_add_mul_ediv (2 - r) 4294967296
  obtain ⟨r2, hr2⟩ : ∃ r', (2 - r) % 4294967296 = r' := ⟨_, rfl⟩
  obtain ⟨q2, hq2⟩ : ∃ q', (2 - r) / 4294967296 = q' := ⟨_, rfl⟩
  rw [hr2, hq2] at h2
  rw [hr2]
  have h3 := Int.emod_add_mul_ediv (x * r2) 4294967296
  obtain ⟨r3, hr3⟩ : ∃ r, x * r2 % 4294967296 = r := ⟨_, rfl⟩
  obtain ⟨q3, hq3⟩ : ∃ q, x * r2 / 4294967296 = q := ⟨_, rfl⟩
  rw [hr3, hq3] at h3
  rw [hr3]
  exact ⟨v * q3 + v * x * q2 - v * x * q, by grind⟩
theorem low_step32 {v x : Int} {k m : Nat} (h : ((2 ^ k : Nat) : Int) ∣ 1 - v * x) (hm : m ≤ 2 * k) (hm24 : m ≤ 32) : ((2 ^ m : Nat) : Int) ∣ 1 - v * lowStep32 v x := by
  have hB : ((2 ^ m : Nat) : Int) ∣ 4294967296 := by
    have : (2 ^ m : Nat) ∣ 2 ^ 32 := Nat.pow_dvd_pow 2 hm24
    exact Int.natCast_dvd_natCast.2 this
  obtain ⟨z, hz⟩ := low_id32 v x
  rw [hz]
  have hu : ((2 ^ m : Nat) : Int) ∣ (1 - v * x) * (1 - v * x) := by
    have h1 : ((2 ^ k : Nat) : Int) * ((2 ^ k : Nat) : Int) ∣ (1 - v * x) * (1 - v * x) := Int.mul_dvd_mul h h
    have h2 : ((2 ^ m : Nat) : Int) ∣ ((2 ^ k : Nat) : Int) * ((2 ^ k : Nat) : Int) := by
      rw [← Int.natCast_mul, ← Nat.pow_add]
      exact Int.natCast_dvd_natCast.2 (Nat.pow_dvd_pow 2 (by omega))
    exact Int.dvd_trans h2 h1
  exact Int.dvd_add hu (Int.dvd_mul_of_dvd_left hB)
def lowAt (v : Int) : Nat → Int
  | 0 => v
  | n + 1 => lowStep32 v (lowAt v n)
theorem low_three {v : Nat} (hv : v % 2 = 1) : ∃ z : Int, 1 - (v : Int) * lowAt v 3 = 16777216 * z := by
  have d0 : ((2 ^ 3 : Nat) : Int) ∣ 1 - (v : Int) * lowAt v 0 := by
    show (8 : Int) ∣ 1 - (v : Int) * (v : Int)
    obtain ⟨u, hu⟩ : ∃ u, v = 2 * u + 1 := ⟨v / 2, by omega⟩
    have h2 : u * (u + 1) % 2 = 0 := by
      rcases Nat.mod_two_eq_zero_or_one u with e | e
      · rw [Nat.mul_mod, e]; simp
      · rw [Nat.mul_mod, show (u + 1) % 2 = 0 from by omega]; simp
    obtain ⟨c, hc⟩ : ∃ c, u * (u + 1) = 2 * c := ⟨u * (u + 1) / 2, by omega⟩
    refine ⟨-(c : Int), ?_⟩
    have hcI : (u : Int) * ((u : Int) + 1) = 2 * (c : Int) := by exact_mod_cast hc
    have huI : (v : Int) = 2 * (u : Int) + 1 := by exact_mod_cast hu
    rw [huI]
    grind
  have d1 := low_step32 (m := 6) d0 (by omega) (by omega)
  have d2 := low_step32 (m := 12) d1 (by omega) (by omega)
  have d3 := low_step32 (m := 24) d2 (by omega) (by omega)
  exact d3
theorem low_range32 (v x : Int) : 0 ≤ lowStep32 v x ∧ lowStep32 v x < 4294967296 := ⟨Int.emod_nonneg _ (by decide), Int.emod_lt_of_pos _ (by decide)⟩
/-- Behind three of them: what LowInverse tells of v, the low limb of V. -/
theorem low_end {V v x : Nat} (hV : V % 16777216 = v) (hv : v % 2 = 1) (hx : (x : Int) = lowAt v 3) : ((4294967296 - x) % 4294967296 % 16777216 * V + 1) % 16777216 = 0 := by
  obtain ⟨z, hz⟩ := low_three hv
  have hr := low_range32 v (lowAt v 2)
  change 0 ≤ lowAt v 3 ∧ lowAt v 3 < 4294967296 at hr
  rw [← hx] at hz hr
  obtain ⟨y, hy⟩ : ∃ y, (4294967296 - x) % 4294967296 % 16777216 = y := ⟨_, rfl⟩
  rw [hy]
  obtain ⟨c, hc⟩ : ∃ c : Int, (y : Int) = 16777216 * c - (x : Int) := ⟨((y : Int) + (x : Int)) / 16777216, by omega⟩
  obtain ⟨d, hd⟩ : ∃ d : Int, (V : Int) = 16777216 * d + (v : Int) := ⟨(V : Int) / 16777216, by omega⟩
  have e : (y : Int) * (V : Int) + 1 = 16777216 * (c * (V : Int) - (x : Int) * d + z) := by
    rw [hc]
    rw [hd]
    grind
  have : ((y * V + 1 : Nat) : Int) % 16777216 = 0 := by
    push_cast
    rw [e]
    exact Int.mul_emod_right _ _
  omega
end Go.Proofs.YtdbjjnbmbeabeaaGreat

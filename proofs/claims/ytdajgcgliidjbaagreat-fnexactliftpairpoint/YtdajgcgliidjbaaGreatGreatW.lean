import Derived.Test.YtdajgcgliidjbaaGreatBase
namespace Go.Proofs.YtdajgcgliidjbaaGreat
open Go.RowKit
def bN (l : List UInt8) : Nat := l.foldl (fun a c => 256 * a + c.toNat) 0
theorem foldl_bN (l : List UInt8) (a : Nat) : l.foldl (fun a c => 256 * a + c.toNat) a = a * 256 ^ l.length + bN l := by
 unfold bN
 induction l generalizing a with
 | nil => simp
 | cons c r ih =>
  rw [List.foldl_cons, List.foldl_cons, ih, ih (256 * 0 + c.toNat), List.length_cons, Nat.pow_succ]
  simp only [Nat.mul_zero, Nat.zero_add, Nat.add_mul]
  rw [Nat.mul_comm 256 a, Nat.mul_assoc, Nat.mul_comm (256 ^ r.length) 256]
  omega
theorem bN_nil : bN [] = 0 := rfl
theorem bN_snoc (l : List UInt8) (c : UInt8) : bN (l ++ [c]) = 256 * bN l + c.toNat := by unfold bN; rw [List.foldl_append]; rfl
theorem bN_append (l m : List UInt8) : bN (l ++ m) = bN l * 256 ^ m.length + bN m := by
 conv => lhs; unfold bN
 rw [List.foldl_append, foldl_bN]
 rfl
theorem bN_cons (c : UInt8) (l : List UInt8) : bN (c :: l) = c.toNat * 256 ^ l.length + bN l := by
 have := bN_append [c] l
 rw [List.singleton_append] at this
 rw [this]
 simp [bN]
theorem bN_lt (l : List UInt8) : bN l < 256 ^ l.length := by
 induction l with
 | nil => simp [bN]
 | cons c r ih =>
  rw [bN_cons, List.length_cons, Nat.pow_succ]
  have hc := c.toNat_lt
  have : (c.toNat + 1) * 256 ^ r.length ≤ 256 * 256 ^ r.length := Nat.mul_le_mul_right _ (by omega)
  rw [Nat.add_mul] at this
  omega
theorem bN_zeros (k : Nat) (l : List UInt8) : bN (List.replicate k 0 ++ l) = bN l := by
 induction k with
 | zero => simp
 | succ k ih => rw [List.replicate_succ, List.cons_append, bN_cons, ih]; simp
def gT (n : Nat) : List UInt8 := if _h : n = 0 then [] else gT (n / 256) ++ [UInt8.ofNat (n % 256)]
termination_by n
decreasing_by omega
theorem gT_zero : gT 0 = [] := by rw [gT]; simp
theorem gT_pos {n : Nat} (h : 0 < n) : gT n = gT (n / 256) ++ [UInt8.ofNat (n % 256)] := by
 conv => lhs; rw [gT]
 rw [dif_neg (by omega)]
theorem byte_nat (k : Nat) (h : k < 256) : (UInt8.ofNat k).toNat = k := by simp; omega
theorem bN_gT (n : Nat) : bN (gT n) = n := by
 induction n using Nat.strongRecOn with
 | _ n ih =>
  by_cases h : n = 0
  ·subst h; rw [gT_zero]; rfl
  ·rw [gT_pos (by omega), bN_snoc, ih (n / 256) (by omega), byte_nat _ (by omega)]
   omega
def headOk (l : List UInt8) : Bool := match l with | [] => true | c :: _ => decide (c.toNat ≠ 0)
theorem headOk_append {l m : List UInt8} (h : headOk l = true) (hl : l ≠ []) : headOk (l ++ m) = true := by
 cases l with
 | nil => exact absurd rfl hl
 | cons c r => exact h
theorem gT_ne {n : Nat} (h : 0 < n) : gT n ≠ [] := by rw [gT_pos h]; simp
theorem gT_head (n : Nat) : headOk (gT n) = true := by
 induction n using Nat.strongRecOn with
 | _ n ih =>
  by_cases h : n = 0
  ·subst h; rw [gT_zero]; rfl
  ·rw [gT_pos (by omega)]
   by_cases h2 : n / 256 = 0
   ·rw [h2, gT_zero, List.nil_append]
    simp only [headOk]
    rw [byte_nat _ (by omega)]
    simp; omega
   ·exact headOk_append (ih _ (by omega)) (gT_ne (by omega))
theorem headOk_pos {l : List UInt8} (h : headOk l = true) (hl : l ≠ []) : 256 ^ (l.length - 1) ≤ bN l := by
 cases l with
 | nil => exact absurd rfl hl
 | cons c r =>
  simp only [headOk, decide_eq_true_eq] at h
  rw [bN_cons]
  have : 1 * 256 ^ r.length ≤ c.toNat * 256 ^ r.length := Nat.mul_le_mul_right _ (by omega)
  simp at *
  omega
theorem headOk_dropLast {l : List UInt8} (h : headOk l = true) : headOk l.dropLast = true := by
 cases l with
 | nil => rfl
 | cons c r =>
  cases r with
  | nil => rfl
  | cons d t => exact h
theorem gT_bN (l : List UInt8) (h : headOk l = true) : gT (bN l) = l := by
 induction hn : l.length generalizing l with
 | zero => rw [List.eq_nil_of_length_eq_zero hn]; exact gT_zero
 | succ n ih =>
  have hne : l ≠ [] := by intro e; rw [e] at hn; cases hn
  have hp := headOk_pos h hne
  have hs := List.dropLast_concat_getLast hne
  have ih := ih l.dropLast (headOk_dropLast h) (by rw [List.length_dropLast]; omega)
  have hb : bN l = 256 * bN l.dropLast + (l.getLast hne).toNat := by
   conv => lhs; rw [← hs]
   exact bN_snoc _ _
  have hc := (l.getLast hne).toNat_lt
  have h1 : 0 < bN l := Nat.lt_of_lt_of_le (Nat.pos_of_ne_zero (by simp)) hp
  rw [gT_pos h1, show bN l / 256 = bN l.dropLast from by omega, ih, show bN l % 256 = (l.getLast hne).toNat from by omega]
  conv => rhs; rw [← hs]
  simp
theorem gT_len_lt {n k : Nat} (h : n < 256 ^ k) : (gT n).length ≤ k := by
 rcases Nat.lt_or_ge k (gT n).length with hl | hl
 ·exfalso
  have hne : gT n ≠ [] := by intro e; rw [e] at hl; simp at hl
  have := headOk_pos (gT_head n) hne
  rw [bN_gT] at this
  have : 256 ^ k ≤ 256 ^ ((gT n).length - 1) := Nat.pow_le_pow_right (by omega) (by omega)
  omega
 ·exact hl
theorem gT_len_ge {n k : Nat} (h : 256 ^ k ≤ n) : k < (gT n).length := by
 rcases Nat.lt_or_ge k (gT n).length with hl | hl
 ·exact hl
 ·exfalso
  have := bN_lt (gT n)
  rw [bN_gT] at this
  have : 256 ^ (gT n).length ≤ 256 ^ k := Nat.pow_le_pow_right (by omega) hl
  omega
def okG (s : ByteArray) : Bool := decide (s.size ≤ 160) && headOk s.data.toList
def gV (s : ByteArray) : Nat := bN s.data.toList
def gS (n : Nat) : ByteArray := ⟨(gT n).toArray⟩
theorem gS_list (n : Nat) : (gS n).data.toList = gT n := by simp [gS]
theorem gS_gV {s : ByteArray} (h : okG s = true) : gS (gV s) = s := by
 simp only [okG, Bool.and_eq_true] at h
 unfold gS gV
 rw [gT_bN _ h.2]
theorem gV_gS (n : Nat) : gV (gS n) = n := by unfold gV; rw [gS_list, bN_gT]
theorem gS_size (n : Nat) : (gS n).size = (gT n).length := by show (gT n).toArray.size = _; simp
def GB : Nat := 256 ^ 160
theorem okG_gS {n : Nat} : okG (gS n) = decide (n < GB) := by
 unfold okG
 rw [gS_list, gT_head, gS_size, Bool.and_true]
 rw [Bool.eq_iff_iff]
 simp only [decide_eq_true_eq]
 constructor
 ·intro h
  rcases Nat.lt_or_ge n GB with hl | hl
  ·exact hl
  ·have := gT_len_ge (k := 160) hl; omega
 ·exact fun h => gT_len_lt h
theorem gV_lt {s : ByteArray} (h : okG s = true) : gV s < GB := by
 simp only [okG, Bool.and_eq_true, decide_eq_true_eq] at h
 have := bN_lt s.data.toList
 have hl : s.data.toList.length ≤ 160 := by simpa using h.1
 have : 256 ^ s.data.toList.length ≤ 256 ^ 160 := Nat.pow_le_pow_right (by omega) hl
 unfold gV GB
 omega
theorem gS_zero : gS 0 = ⟨#[]⟩ := by unfold gS; rw [gT_zero]
def lV : List Nat → Nat
 | [] => 0
 | x :: r => x + 16777216 * lV r
theorem lV_cons (x : Nat) (r : List Nat) : lV (x :: r) = x + 16777216 * lV r := rfl
theorem lV_append (l m : List Nat) : lV (l ++ m) = lV l + 16777216 ^ l.length * lV m := by
 induction l with
 | nil => simp [lV]
 | cons x r ih =>
  rw [List.cons_append, lV_cons, ih, lV_cons, List.length_cons, Nat.pow_succ, Nat.mul_add]
  rw [Nat.mul_comm (16777216 ^ r.length) 16777216, Nat.mul_assoc]
  omega
theorem lV_snoc (l : List Nat) (x : Nat) : lV (l ++ [x]) = lV l + 16777216 ^ l.length * x := by rw [lV_append]; simp [lV]
def Limbs (l : List Nat) : Prop := ∀ x ∈ l, x < 16777216
theorem Limbs.nil : Limbs [] := fun _ h => by cases h
theorem Limbs.snoc {l : List Nat} {x : Nat} (h : Limbs l) (hx : x < 16777216) : Limbs (l ++ [x]) := fun y hy => by
 rcases List.mem_append.1 hy with hy | hy
 ·exact h y hy
 ·have : y = x := by simpa using hy
  omega
theorem Limbs.take {l : List Nat} (h : Limbs l) (k : Nat) : Limbs (l.take k) := fun y hy => h y (List.mem_of_mem_take hy)
theorem Limbs.get {l : List Nat} (h : Limbs l) {k : Nat} (hk : k < l.length) : l[k] < 16777216 := h _ (List.getElem_mem hk)
theorem lV_lt {l : List Nat} (h : Limbs l) : lV l < 16777216 ^ l.length := by
 induction l with
 | nil => simp [lV]
 | cons x r ih =>
  have h1 := h x (by simp)
  have h2 := ih (fun y hy => h y (by simp [hy]))
  rw [lV_cons, List.length_cons, Nat.pow_succ]
  omega
def Trimmed (l : List Nat) : Prop := l = [] ∨ ∃ r x, l = r ++ [x] ∧ 0 < x
theorem Trimmed.ge {l : List Nat} (h : Trimmed l) (hl : l ≠ []) : 16777216 ^ (l.length - 1) ≤ lV l := by
 rcases h with h | ⟨r, x, rfl, hx⟩
 ·exact absurd h hl
 ·rw [lV_snoc]
  have : 16777216 ^ r.length * 1 ≤ 16777216 ^ r.length * x := Nat.mul_le_mul_left _ hx
  simp at *
  omega
end Go.Proofs.YtdajgcgliidjbaaGreat
namespace Go.Proofs.YtdajgcgliidjbaaGreat
open Go.RowKit
namespace W
theorem take_snocN (l : List Nat) {k : Nat} (h : k < l.length) : l.take (k + 1) = l.take k ++ [l[k]] := List.take_succ_eq_append_getElem h
def lV : List Nat → Nat
 | [] => 0
 | x :: r => x + 4294967296 * lV r
theorem lV_cons (x : Nat) (r : List Nat) : lV (x :: r) = x + 4294967296 * lV r := rfl
theorem lV_append (l m : List Nat) : lV (l ++ m) = lV l + 4294967296 ^ l.length * lV m := by
 induction l with
 | nil => simp [lV]
 | cons x r ih =>
  rw [List.cons_append, lV_cons, ih, lV_cons, List.length_cons, Nat.pow_succ, Nat.mul_add]
  rw [Nat.mul_comm (4294967296 ^ r.length) 4294967296, Nat.mul_assoc]
  omega
theorem lV_snoc (l : List Nat) (x : Nat) : lV (l ++ [x]) = lV l + 4294967296 ^ l.length * x := by rw [lV_append]; simp [lV]
def Limbs (l : List Nat) : Prop := ∀ x ∈ l, x < 4294967296
theorem Limbs.nil : Limbs [] := fun _ h => by cases h
theorem Limbs.snoc {l : List Nat} {x : Nat} (h : Limbs l) (hx : x < 4294967296) : Limbs (l ++ [x]) := fun y hy => by
 rcases List.mem_append.1 hy with hy | hy
 ·exact h y hy
 ·have : y = x := by simpa using hy
  omega
theorem Limbs.take {l : List Nat} (h : Limbs l) (k : Nat) : Limbs (l.take k) := fun y hy => h y (List.mem_of_mem_take hy)
theorem Limbs.get {l : List Nat} (h : Limbs l) {k : Nat} (hk : k < l.length) : l[k] < 4294967296 := h _ (List.getElem_mem hk)
theorem lV_lt {l : List Nat} (h : Limbs l) : lV l < 4294967296 ^ l.length := by
 induction l with
 | nil => simp [lV]
 | cons x r ih =>
  have h1 := h x (by simp)
  have h2 := ih (fun y hy => h y (by simp [hy]))
  rw [lV_cons, List.length_cons, Nat.pow_succ]
  omega
def Trimmed (l : List Nat) : Prop := l = [] ∨ ∃ r x, l = r ++ [x] ∧ 0 < x
theorem Trimmed.ge {l : List Nat} (h : Trimmed l) (hl : l ≠ []) : 4294967296 ^ (l.length - 1) ≤ lV l := by
 rcases h with h | ⟨r, x, rfl, hx⟩
 ·exact absurd h hl
 ·rw [lV_snoc]
  have : 4294967296 ^ r.length * 1 ≤ 4294967296 ^ r.length * x := Nat.mul_le_mul_left _ hx
  simp at *
  omega
theorem lV_take_succ (l : List Nat) (k : Nat) : lV (l.take (k + 1)) = lV (l.take k) + 4294967296 ^ k * l.getD k 0 := by
 by_cases h : k < l.length
 ·rw [take_snocN l h, lV_snoc, List.length_take, Nat.min_eq_left (by omega), List.getD_eq_getElem?_getD, List.getElem?_eq_getElem h]; rfl
 ·rw [List.take_of_length_le (by omega), List.take_of_length_le (by omega), List.getD_eq_getElem?_getD, List.getElem?_eq_none (by omega)]; simp
theorem lV_split (l : List Nat) (k : Nat) : lV l = lV (l.take k) + 4294967296 ^ (min k l.length) * lV (l.drop k) := by
 conv => lhs; rw [← List.take_append_drop k l]
 rw [lV_append, List.length_take]
theorem getD_lt {l : List Nat} (h : Limbs l) (k : Nat) : l.getD k 0 < 4294967296 := by
 rw [List.getD_eq_getElem?_getD]
 by_cases hk : k < l.length
 ·rw [List.getElem?_eq_getElem hk]; exact h.get hk
 ·rw [List.getElem?_eq_none (by omega)]; simp
theorem getD_eq {l : List Nat} {k : Nat} (h : k < l.length) : l.getD k 0 = l[k] := by rw [List.getD_eq_getElem?_getD, List.getElem?_eq_getElem h]; rfl
theorem lV_set : ∀ (l : List Nat) (k v : Nat), k < l.length → lV (l.set k v) + 4294967296 ^ k * l.getD k 0 = lV l + 4294967296 ^ k * v
 | [], _, _, h => by simp at h
 | x :: r, 0, v, _ => by
  simp only [List.set_cons_zero, lV_cons, List.getD_cons_zero]; omega
 | x :: r, k + 1, v, h => by
  have ih := lV_set r k v (by simpa using h)
  rw [List.set_cons_succ, lV_cons, lV_cons, List.getD_cons_succ, Nat.pow_succ, Nat.mul_comm (4294967296 ^ k) 4294967296, Nat.mul_assoc, Nat.mul_assoc]
  omega
theorem Limbs.set {l : List Nat} (h : Limbs l) (k : Nat) {v : Nat} (hv : v < 4294967296) : Limbs (l.set k v) := fun y hy => by
 rcases List.mem_or_eq_of_mem_set hy with hy | rfl
 ·exact h y hy
 ·exact hv
theorem getD_set_ne {l : List Nat} {k j : Nat} (v : Nat) (h : k ≠ j) : (l.set k v).getD j 0 = l.getD j 0 := by
 simp only [List.getD_eq_getElem?_getD]
 rw [List.getElem?_set_ne h]
def MulRel (la lb : List Nat) (i : Nat) (O : List Nat) : Prop := Limbs O ∧ O.length = la.length + lb.length ∧ lV O = lV (la.take i) * lV lb ∧ ∀ j, i + lb.length ≤ j → O.getD j 0 = 0
def MulIn (la lb : List Nat) (i : Nat) (O : List Nat) (k c : Nat) (Q : List Nat) : Prop :=
 Limbs Q ∧ Q.length = O.length ∧ lV Q + 4294967296 ^ (i + k) * c = lV O + la.getD i 0 * 4294967296 ^ i * lV (lb.take k) ∧ ∀ j, i + k ≤ j → Q.getD j 0 = O.getD j 0
theorem MulIn.next {la lb O Q : List Nat} {i k c n : Nat} (h : MulIn la lb i O k c Q) (hk : i + k < Q.length) (hn : n = Q.getD (i + k) 0 + la.getD i 0 * lb.getD k 0 + c) :
  MulIn la lb i O (k + 1) (n / 4294967296) (Q.set (i + k) (n % 4294967296)) := by
 obtain ⟨h1, h2, h3, h4⟩ := h
 refine ⟨h1.set _ (by omega), by simp [h2], ?_, fun j hj => by rw [getD_set_ne _ (by omega)]; exact h4 j (by omega)⟩
 have hs := lV_set Q (i + k) (n % 4294967296) hk
 have e : 4294967296 ^ (i + k) * (n % 4294967296) + 4294967296 ^ (i + (k + 1)) * (n / 4294967296) = 4294967296 ^ (i + k) * n := by
  rw [show i + (k + 1) = i + k + 1 from by omega, Nat.pow_succ, Nat.mul_assoc, ← Nat.mul_add]; congr 1; omega
 have e2 : 4294967296 ^ (i + k) * n = 4294967296 ^ (i + k) * Q.getD (i + k) 0 + la.getD i 0 * 4294967296 ^ i * (4294967296 ^ k * lb.getD k 0) + 4294967296 ^ (i + k) * c := by
  rw [hn, Nat.mul_add, Nat.mul_add, Nat.pow_add]
  congr 2
  simp only [Nat.mul_assoc, Nat.mul_comm, Nat.mul_left_comm]
 rw [lV_take_succ, Nat.mul_add]
 omega
theorem MulIn.done {la lb O Q : List Nat} {i c : Nat} (hO : MulRel la lb i O) (h : MulIn la lb i O lb.length c Q) (hi : i < la.length) (hc : c < 4294967296) : MulRel la lb (i + 1) (Q.set (i + lb.length) c) := by
 obtain ⟨h1, h2, h3, h4⟩ := h
 obtain ⟨o1, o2, o3, o4⟩ := hO
 have hlt : i + lb.length < Q.length := by rw [h2, o2]; omega
 have hz : Q.getD (i + lb.length) 0 = 0 := by rw [h4 _ (Nat.le_refl _)]; exact o4 _ (Nat.le_refl _)
 refine ⟨h1.set _ hc, by rw [List.length_set, h2, o2], ?_, fun j hj => ?_⟩
 ·have hs := lV_set Q (i + lb.length) c hlt
  rw [hz, Nat.mul_zero, Nat.add_zero] at hs
  rw [hs, h3, o3, List.take_of_length_le (Nat.le_refl _), lV_take_succ, Nat.add_mul]
  congr 1
  rw [Nat.mul_comm (la.getD i 0)]
 ·rw [getD_set_ne _ (by omega), h4 j (by omega)]
  exact o4 j (by omega)
theorem lV_div {l : List Nat} (h : Limbs l) (k : Nat) : lV l / 4294967296 ^ k = lV (l.drop k) := by
 have hp : 0 < 4294967296 ^ k := Nat.pow_pos (by omega)
 by_cases hk : k ≤ l.length
 ·rw [lV_split l k, Nat.min_eq_left hk, Nat.add_mul_div_left _ _ hp]
  have := lV_lt (h.take k)
  rw [List.length_take, Nat.min_eq_left hk] at this
  rw [Nat.div_eq_of_lt this]; omega
 ·rw [List.drop_of_length_le (by omega)]
  have := lV_lt h
  have : 4294967296 ^ l.length ≤ 4294967296 ^ k := Nat.pow_le_pow_right (by omega) (by omega)
  rw [Nat.div_eq_of_lt (by omega)]; rfl
theorem lV_dig {l : List Nat} (h : Limbs l) (k : Nat) : lV l / 4294967296 ^ k = l.getD k 0 + 4294967296 * (lV l / 4294967296 ^ (k + 1)) := by
 rw [lV_div h, lV_div h]
 by_cases hk : k < l.length
 ·rw [List.drop_eq_getElem_cons hk, lV_cons, getD_eq hk]
 ·rw [List.drop_of_length_le (by omega), List.drop_of_length_le (by omega), List.getD_eq_getElem?_getD, List.getElem?_eq_none (by omega)]; rfl
theorem high_zero {l : List Nat} (h : Limbs l) {m : Nat} (hl : lV l < 4294967296 ^ m) {k : Nat} (hk : m ≤ k) : l.getD k 0 = 0 := by
 have e := lV_dig h k
 have : 4294967296 ^ m ≤ 4294967296 ^ k := Nat.pow_le_pow_right (by omega) hk
 rw [Nat.div_eq_of_lt (by omega)] at e
 omega
theorem lV_zeros {l : List Nat} (h : ∀ x ∈ l, x = 0) : lV l = 0 := by
 induction l with
 | nil => rfl
 | cons x r ih => rw [lV_cons, h x (by simp), ih (fun y hy => h y (by simp [hy]))]
theorem low_of_zero {l : List Nat} (h : Limbs l) {m : Nat} (hz : ∀ k, m ≤ k → l.getD k 0 = 0) : lV l < 4294967296 ^ m := by
 have hp : 0 < 4294967296 ^ m := Nat.pow_pos (by omega)
 have e := lV_div h m
 have z : lV (l.drop m) = 0 := lV_zeros fun x hx => by
  obtain ⟨i, hi, rfl⟩ := List.getElem_of_mem hx
  rw [List.length_drop] at hi
  have := hz (m + i) (by omega)
  rw [getD_eq (by omega)] at this
  rw [List.getElem_drop]; exact this
 rw [z] at e
 rcases Nat.lt_or_ge (lV l) (4294967296 ^ m) with h | h
 ·exact h
 ·have := Nat.div_pos h hp; omega
structure Top (X V P top u3 v1 v2 : Nat) : Prop where
 hP : 0 < P
 hX : X / P = top * 4294967296 + u3
 hV : V / P = v1 * 4294967296 + v2
 h1 : 2147483648 ≤ v1
 h1' : v1 < 4294967296
 h2 : v2 < 4294967296
 h3 : u3 < 4294967296
 hlt : X < V * 4294967296
namespace Top
variable {X V P top u3 v1 v2 : Nat}
theorem Vpos (t : Top X V P top u3 v1 v2) : P * 4294967296 ≤ V := by
 have := Nat.div_mul_le_self V P
 rw [t.hV] at this
 have h : 4294967296 * P ≤ (v1 * 4294967296 + v2) * P := Nat.mul_le_mul_right _ (by have := t.h1; omega)
 rw [Nat.mul_comm P]; omega
theorem Vpos' (t : Top X V P top u3 v1 v2) : 0 < V := by have := t.Vpos; have := t.hP; omega
theorem qd (t : Top X V P top u3 v1 v2) : X / V < 4294967296 := (Nat.div_lt_iff_lt_mul t.Vpos').2 (by rw [Nat.mul_comm]; exact t.hlt)
theorem VD (t : Top X V P top u3 v1 v2) : (v1 * 4294967296 + v2) * P ≤ V := by rw [← t.hV]; exact Nat.div_mul_le_self V P
theorem VD' (t : Top X V P top u3 v1 v2) : V < (v1 * 4294967296 + v2 + 1) * P := by
 rw [← t.hV]; have := Nat.div_add_mod V P; have := Nat.mod_lt V t.hP; rw [Nat.add_mul, Nat.mul_comm (V / P)]; omega
theorem XT (t : Top X V P top u3 v1 v2) : (top * 4294967296 + u3) * P ≤ X := by rw [← t.hX]; exact Nat.div_mul_le_self X P
theorem XT' (t : Top X V P top u3 v1 v2) : X < (top * 4294967296 + u3 + 1) * P := by
 rw [← t.hX]; have := Nat.div_add_mod X P; have := Nat.mod_lt X t.hP; rw [Nat.add_mul, Nat.mul_comm (X / P)]; omega
theorem qT (t : Top X V P top u3 v1 v2) : X / V * (v1 * 4294967296 + v2) ≤ top * 4294967296 + u3 := by
 have a := Nat.div_mul_le_self X V
 have b := Nat.mul_le_mul_left (X / V) t.VD
 have c := t.XT'
 rw [← Nat.mul_assoc] at b
 have : X / V * (v1 * 4294967296 + v2) * P < (top * 4294967296 + u3 + 1) * P := by omega
 have := Nat.lt_of_mul_lt_mul_right this
 omega
theorem q1 (t : Top X V P top u3 v1 v2) : X / V * v1 ≤ top := by
 have a := t.qT
 have h3 := t.h3
 rw [Nat.mul_add, ← Nat.mul_assoc] at a
 generalize X / V * v1 = p at *
 generalize X / V * v2 = p2 at *
 omega
theorem top_lt (t : Top X V P top u3 v1 v2) : top < v1 * 4294967296 + 4294967296 := by
 have a := t.XT
 have b := t.VD'
 have c := t.hlt
 have d : V * 4294967296 < (v1 * 4294967296 + v2 + 1) * P * 4294967296 := Nat.mul_lt_mul_of_pos_right b (by omega)
 have e : (top * 4294967296 + u3) * P < (v1 * 4294967296 + v2 + 1) * 4294967296 * P := by rw [Nat.mul_right_comm]; omega
 have := Nat.lt_of_mul_lt_mul_right e
 have := t.h2
 omega
theorem more (t : Top X V P top u3 v1 v2) {g r : Nat} (h : g * v1 + r = top) (h2 : r * 4294967296 + u3 < g * v2) : X / V < g := by
 have e : top * 4294967296 + u3 < g * (v1 * 4294967296 + v2) := by
  have h' : g * v1 * 4294967296 + r * 4294967296 = top * 4294967296 := by rw [← Nat.add_mul, h]
  rw [Nat.mul_add, ← Nat.mul_assoc, ← h', Nat.add_assoc]
  exact Nat.add_lt_add_left h2 _
 exact Nat.lt_of_mul_lt_mul_right (Nat.lt_of_le_of_lt t.qT e)
theorem less (t : Top X V P top u3 v1 v2) {g r : Nat} (h : g * v1 + r = top) (hg : g ≤ 4294967296) (h2 : g * v2 ≤ r * 4294967296 + u3) : g ≤ X / V + 1 := by
 have e : g * (v1 * 4294967296 + v2) ≤ top * 4294967296 + u3 := by
  have h' : g * v1 * 4294967296 + r * 4294967296 = top * 4294967296 := by rw [← Nat.add_mul, h]
  rw [Nat.mul_add, ← Nat.mul_assoc, ← h', Nat.add_assoc]
  exact Nat.add_le_add_left h2 _
 have a := Nat.le_trans (Nat.mul_le_mul_right P e) t.XT
 have b : g * V < g * ((v1 * 4294967296 + v2 + 1) * P) ∨ g = 0 := by
  rcases Nat.eq_zero_or_pos g with h | h
  ·exact .inr h
  ·exact .inl (Nat.mul_lt_mul_of_pos_left t.VD' h)
 rcases b with b | b
 ·have c : g * P ≤ 4294967296 * P := Nat.mul_le_mul_right _ hg
  have d : g * ((v1 * 4294967296 + v2 + 1) * P) = g * (v1 * 4294967296 + v2) * P + g * P := by rw [Nat.add_mul _ 1 P, Nat.one_mul, Nat.mul_add, ← Nat.mul_assoc]
  have f := t.Vpos
  rw [Nat.mul_comm P] at f
  have hx := Nat.lt_div_mul_add (a := X) t.Vpos'
  have : g * V < (X / V + 2) * V := by
   rw [Nat.add_mul]
   generalize X / V * V = z at *
   generalize g * V = z2 at *
   generalize g * P = z3 at *
   generalize g * (v1 * 4294967296 + v2) * P = z4 at *
   omega
  have := Nat.lt_of_mul_lt_mul_right this
  omega
 ·rw [b]; exact Nat.zero_le _
theorem past (t : Top X V P top u3 v1 v2) {g r : Nat} (h : g * v1 + r = top) (hr : 4294967296 ≤ r) (hg : g ≤ 4294967296) : g ≤ X / V := by
 rw [Nat.le_div_iff_mul_le t.Vpos']
 have a := t.XT
 have b : V ≤ (v1 + 1) * 4294967296 * P := by
  have := t.VD'
  have h2 := t.h2
  have : (v1 * 4294967296 + v2 + 1) * P ≤ (v1 + 1) * 4294967296 * P := Nat.mul_le_mul_right _ (by omega)
  omega
 have c := Nat.mul_le_mul_left g b
 have d : g * ((v1 + 1) * 4294967296 * P) ≤ top * 4294967296 * P := by
  rw [← Nat.mul_assoc, ← Nat.mul_assoc]
  refine Nat.mul_le_mul_right _ (Nat.mul_le_mul_right _ ?_)
  rw [Nat.mul_add]; omega
 have e : top * 4294967296 * P ≤ (top * 4294967296 + u3) * P := Nat.mul_le_mul_right _ (by omega)
 omega
theorem first (t : Top X V P top u3 v1 v2) : X / V ≤ top / v1 ∧ top / v1 ≤ 4294967297 := by
 have h1 := t.h1
 refine ⟨(Nat.le_div_iff_mul_le (by omega)).2 t.q1, ?_⟩
 have := (Nat.div_lt_iff_lt_mul (k := v1) (x := top) (y := 4294967298) (by omega)).2 (by have := t.top_lt; omega)
 omega
end Top
structure DivRel (u0 : Nat) (v : List Nat) (n j m : Nat) (U q : List Nat) : Prop where
 lU : Limbs U
 lq : Limbs q
 nU : U.length = m + n
 nq : q.length = m
 sum : u0 = lV v * lV q + lV U
 lt : lV U < lV v * 4294967296 ^ j
 zero : ∀ k, k < j → q.getD k 0 = 0
structure Dvr (v : List Nat) (n : Nat) : Prop where
 lv : Limbs v
 nv : v.length = n
 two : 2 ≤ n
 top : 2147483648 ≤ v.getD (n - 1) 0
theorem Dvr.lt {v : List Nat} {n : Nat} (d : Dvr v n) : lV v < 4294967296 ^ n := by have := lV_lt d.lv; rw [d.nv] at this; exact this
theorem window {u0 n j m : Nat} {v U q : List Nat} (d : Dvr v n) (r : DivRel u0 v n (j + 1) m U q) : lV U < 4294967296 ^ (j + n + 1) := by
 have a := r.lt
 have b := Nat.mul_lt_mul_of_pos_right d.lt (Nat.pow_pos (n := j + 1) (show 0 < 4294967296 by omega))
 rw [← Nat.pow_add, show n + (j + 1) = j + n + 1 from by omega] at b
 omega
theorem top_of {u0 n j m : Nat} {v U q : List Nat} (d : Dvr v n) (r : DivRel u0 v n (j + 1) m U q) :
  Top (lV U / 4294967296 ^ j) (lV v) (4294967296 ^ (n - 2)) (U.getD (j + n) 0 * 4294967296 + U.getD (j + n - 1) 0) (U.getD (j + n - 2) 0) (v.getD (n - 1) 0) (v.getD (n - 2) 0) := by
 have h2 := d.two
 have w := window d r
 refine ⟨Nat.pow_pos (by omega), ?_, ?_, d.top, getD_lt d.lv _, getD_lt d.lv _, getD_lt r.lU _, ?_⟩
 ·rw [Nat.div_div_eq_div_mul, ← Nat.pow_add]
  have e1 := lV_dig r.lU (j + (n - 2))
  have e2 := lV_dig r.lU (j + (n - 2) + 1)
  have e3 := lV_dig r.lU (j + (n - 2) + 1 + 1)
  rw [show j + (n - 2) + 1 + 1 + 1 = j + n + 1 from by omega, Nat.div_eq_of_lt w] at e3
  rw [e1, e2, e3, show j + (n - 2) + 1 + 1 = j + n from by omega, show j + (n - 2) + 1 = j + n - 1 from by omega, show j + (n - 2) = j + n - 2 from by omega]
  generalize U.getD (j + n) 0 = a
  generalize U.getD (j + n - 1) 0 = b
  generalize U.getD (j + n - 2) 0 = c
  omega
 ·have e1 := lV_dig d.lv (n - 2)
  have e2 := lV_dig d.lv (n - 2 + 1)
  rw [show n - 2 + 1 + 1 = n from by omega, Nat.div_eq_of_lt d.lt] at e2
  rw [e1, e2, show n - 2 + 1 = n - 1 from by omega]
  generalize v.getD (n - 1) 0 = a
  generalize v.getD (n - 2) 0 = b
  omega
 ·rw [Nat.div_lt_iff_lt_mul (Nat.pow_pos (by omega)), Nat.mul_assoc, ← Nat.pow_succ']
  exact r.lt
def MS (U v : List Nat) (j g i br : Nat) (Q : List Nat) : Prop :=
 Limbs Q ∧ Q.length = U.length ∧ lV Q + g * 4294967296 ^ j * lV (v.take i) = lV U + 4294967296 ^ (j + i) * br ∧ br ≤ g ∧ ∀ k, j + i ≤ k → Q.getD k 0 = U.getD k 0
theorem MS.start {U v : List Nat} (h : Limbs U) (j g : Nat) : MS U v j g 0 0 U := ⟨h, rfl, by simp [lV], Nat.zero_le _, fun _ _ => rfl⟩
theorem MS.next {U v Q : List Nat} {j g i br y br' : Nat} (h : MS U v j g i br Q) (lv : Limbs v) (hk : j + i < Q.length) (hy : y < 4294967296)
  (hn : Q.getD (j + i) 0 + 4294967296 * br' = g * v.getD i 0 + br + y) : MS U v j g (i + 1) br' (Q.set (j + i) y) := by
 obtain ⟨h1, h2, h3, h4, h5⟩ := h
 refine ⟨h1.set _ hy, by simp [h2], ?_, ?_, fun k hk2 => by rw [getD_set_ne _ (by omega)]; exact h5 k (by omega)⟩
 ·have hs := lV_set Q (j + i) y hk
  have e : 4294967296 ^ (j + i) * (Q.getD (j + i) 0 + 4294967296 * br') = 4294967296 ^ (j + i) * (g * v.getD i 0 + br + y) := by rw [hn]
  rw [lV_take_succ, Nat.mul_add]
  have e2 : g * 4294967296 ^ j * (4294967296 ^ i * v.getD i 0) = 4294967296 ^ (j + i) * (g * v.getD i 0) := by
   rw [Nat.pow_add]; simp only [Nat.mul_assoc, Nat.mul_comm, Nat.mul_left_comm]
  have e3 : 4294967296 ^ (j + (i + 1)) * br' = 4294967296 ^ (j + i) * (4294967296 * br') := by rw [← Nat.add_assoc, Nat.pow_succ, Nat.mul_assoc]
  rw [Nat.mul_add, Nat.mul_add, Nat.mul_add] at e
  rw [e2, e3]
  generalize 4294967296 ^ (j + i) * (g * v.getD i 0) = z1 at *
  generalize 4294967296 ^ (j + i) * (4294967296 * br') = z2 at *
  generalize 4294967296 ^ (j + i) * y = z3 at *
  generalize 4294967296 ^ (j + i) * br = z4 at *
  generalize 4294967296 ^ (j + i) * Q.getD (j + i) 0 = z5 at *
  generalize g * 4294967296 ^ j * lV (v.take i) = z6 at *
  omega
 ·have hv := getD_lt lv i
  have : g * v.getD i 0 ≤ g * 4294967295 := Nat.mul_le_mul_left _ (by omega)
  omega
def AB (Q v : List Nat) (j i c : Nat) (R : List Nat) : Prop := MulIn (List.replicate (j + 1) 1) v j Q i c R
theorem one_at (j : Nat) : (List.replicate (j + 1) 1).getD j 0 = 1 := by
 rw [List.getD_eq_getElem?_getD, List.getElem?_replicate]; simp
theorem AB.start {Q v : List Nat} (h : Limbs Q) (j : Nat) : AB Q v j 0 0 Q := ⟨h, rfl, by simp [lV], fun _ _ => rfl⟩
theorem AB.next {Q v R : List Nat} {j i c n : Nat} (h : AB Q v j i c R) (hk : j + i < R.length) (hn : n = R.getD (j + i) 0 + v.getD i 0 + c) : AB Q v j (i + 1) (n / 4294967296) (R.set (j + i) (n % 4294967296)) :=
 MulIn.next h hk (by rw [one_at, hn, Nat.one_mul])
def Left1 (U v : List Nat) (j g : Nat) (R : List Nat) : Prop := Limbs R ∧ R.length = U.length ∧ lV R + lV v * (4294967296 ^ j * g) = lV U ∧ lV R < lV v * 4294967296 ^ j
theorem MS.low {u0 n j m g br : Nat} {v U q Q : List Nat} (d : Dvr v n) (r : DivRel u0 v n (j + 1) m U q) (h : MS U v j g (n + 1) br Q) :
  lV Q < 4294967296 ^ (j + n + 1) ∧ lV Q + g * 4294967296 ^ j * lV v = lV U + 4294967296 ^ (j + n + 1) * br := by
 obtain ⟨h1, h2, h3, h4, h5⟩ := h
 have w := window d r
 refine ⟨low_of_zero h1 fun k hk => by rw [h5 k (by omega)]; exact high_zero r.lU w hk, ?_⟩
 rw [List.take_of_length_le (by rw [d.nv]; omega)] at h3
 exact h3
theorem fits {u0 n j m : Nat} {v U q : List Nat} (d : Dvr v n) (r : DivRel u0 v n (j + 1) m U q) {X : Nat} (hX : X = lV U / 4294967296 ^ j) :
  lV v * (4294967296 ^ j * (X / lV v)) ≤ lV U ∧ lV U < lV v * (4294967296 ^ j * (X / lV v)) + lV v * 4294967296 ^ j ∧ 0 < lV v := by
 have hv : 0 < lV v := (top_of d r).Vpos'
 have hp : 0 < 4294967296 ^ j := Nat.pow_pos (by omega)
 have a := Nat.div_add_mod X (lV v)
 have b := Nat.mod_lt X hv
 have c := Nat.div_add_mod (lV U) (4294967296 ^ j)
 have e := Nat.mod_lt (lV U) hp
 rw [← hX] at c
 have f : lV v * (4294967296 ^ j * (X / lV v)) = 4294967296 ^ j * (lV v * (X / lV v)) := by rw [Nat.mul_left_comm]
 rw [f, Nat.mul_comm (lV v) (4294967296 ^ j)]
 have g1 : 4294967296 ^ j * (lV v * (X / lV v)) + 4294967296 ^ j * (X % lV v) = 4294967296 ^ j * X := by rw [← Nat.mul_add, a]
 have g2 : 4294967296 ^ j * (X % lV v + 1) ≤ 4294967296 ^ j * lV v := Nat.mul_le_mul_left _ b
 rw [Nat.mul_add, Nat.mul_one] at g2
 generalize 4294967296 ^ j * (lV v * (X / lV v)) = z1 at *
 generalize 4294967296 ^ j * (X % lV v) = z2 at *
 generalize 4294967296 ^ j * X = z3 at *
 generalize 4294967296 ^ j * lV v = z4 at *
 generalize lV U % 4294967296 ^ j = z5 at *
 generalize 4294967296 ^ j = z6 at *
 exact ⟨by omega, by omega, hv⟩
theorem step_right {u0 n j m g : Nat} {v U q Q : List Nat} (d : Dvr v n) (r : DivRel u0 v n (j + 1) m U q) (h : MS U v j g (n + 1) 0 Q) (hg : lV U / 4294967296 ^ j / lV v ≤ g) :
  g = lV U / 4294967296 ^ j / lV v ∧ Left1 U v j g Q := by
 obtain ⟨lo, e⟩ := h.low d r
 obtain ⟨f1, f2, hv⟩ := fits d r rfl
 have e' : lV Q + lV v * (4294967296 ^ j * g) = lV U := by
  rw [Nat.mul_zero, Nat.add_zero] at e
  rw [← e]; congr 1; rw [Nat.mul_comm g, Nat.mul_comm (lV v)]
 have hq : g = lV U / 4294967296 ^ j / lV v := by
  refine Nat.le_antisymm ?_ hg
  rw [Nat.le_div_iff_mul_le hv, Nat.le_div_iff_mul_le (Nat.pow_pos (by omega))]
  have : g * lV v * 4294967296 ^ j = lV v * (4294967296 ^ j * g) := by simp only [Nat.mul_assoc, Nat.mul_comm, Nat.mul_left_comm]
  rw [this]; omega
 refine ⟨hq, h.1, h.2.1, e', ?_⟩
 rw [← hq] at f2
 omega
theorem step_back {u0 n j m g br c : Nat} {v U q Q R : List Nat} (d : Dvr v n) (r : DivRel u0 v n (j + 1) m U q) (h : MS U v j g (n + 1) br Q) (hbr : 0 < br)
  (hg2 : g ≤ lV U / 4294967296 ^ j / lV v + 1) (ha : AB Q v j (n + 1) c R) : g = lV U / 4294967296 ^ j / lV v + 1 ∧ Left1 U v j (g - 1) R := by
 obtain ⟨lo, e⟩ := h.low d r
 obtain ⟨f1, f2, hv⟩ := fits d r rfl
 have w := window d r
 have hp : 0 < 4294967296 ^ j := Nat.pow_pos (by omega)
 generalize hqd : lV U / 4294967296 ^ j / lV v = qd at *
 have hlow : g * 4294967296 ^ j * lV v = lV v * (4294967296 ^ j * g) := by simp only [Nat.mul_assoc, Nat.mul_comm]
 rw [hlow] at e
 have hge : 4294967296 ^ (j + n + 1) * 1 ≤ 4294967296 ^ (j + n + 1) * br := Nat.mul_le_mul_left _ hbr
 have hq : g = qd + 1 := by
  refine Nat.le_antisymm hg2 ?_
  rcases Nat.lt_or_ge qd g with h | h
  ·exact h
  ·exfalso
   have : lV v * (4294967296 ^ j * g) ≤ lV v * (4294967296 ^ j * qd) := Nat.mul_le_mul_left _ (Nat.mul_le_mul_left _ h)
   omega
 refine ⟨hq, ?_⟩
 obtain ⟨a1, a2, a3, a4⟩ := ha
 have aw : lV R < 4294967296 ^ (j + n + 1) := low_of_zero a1 fun k hk => by
  rw [a4 k (by omega), h.2.2.2.2 k (by omega)]; exact high_zero r.lU w hk
 rw [one_at, Nat.one_mul, List.take_of_length_le (by rw [d.nv]; omega), ← Nat.add_assoc] at a3
 subst hq
 rw [Nat.add_sub_cancel]
 have ee : lV v * (4294967296 ^ j * (qd + 1)) = lV v * (4294967296 ^ j * qd) + lV v * 4294967296 ^ j := by rw [Nat.mul_add, Nat.mul_one, Nat.mul_add]
 rw [ee] at e
 rw [Nat.mul_comm (4294967296 ^ j) (lV v)] at a3
 have hvB : lV v * 4294967296 ^ j ≤ 4294967296 ^ (j + n + 1) := by
  have := Nat.mul_le_mul_right (4294967296 ^ j) (Nat.le_of_lt d.lt)
  rw [← Nat.pow_add] at this
  have h2 : 4294967296 ^ (n + j) ≤ 4294967296 ^ (j + n + 1) := Nat.pow_le_pow_right (by omega) (by omega)
  omega
 obtain ⟨S, hS⟩ : ∃ S, lV U = lV v * (4294967296 ^ j * qd) + S := ⟨lV U - lV v * (4294967296 ^ j * qd), by omega⟩
 have hSlt : S < 4294967296 ^ (j + n + 1) := by omega
 have key : lV R + 4294967296 ^ (j + n + 1) * c = S + 4294967296 ^ (j + n + 1) * br := by omega
 have hRS : lV R = S := by
  have k1 := congrArg (· % 4294967296 ^ (j + n + 1)) key
  simp only [Nat.add_mul_mod_self_left] at k1
  rw [Nat.mod_eq_of_lt aw, Nat.mod_eq_of_lt hSlt] at k1
  exact k1
 exact ⟨a1, by rw [a2, h.2.1], by omega, by omega⟩
theorem DivRel.next {u0 n j m g : Nat} {v U q R : List Nat} (r : DivRel u0 v n (j + 1) m U q) (hj : j < m) (h : Left1 U v j g R) (hg : g < 4294967296) : DivRel u0 v n j m R (q.set j g) := by
 obtain ⟨h1, h2, h3, h4⟩ := h
 have hs := lV_set q j g (by rw [r.nq]; exact hj)
 rw [r.zero j (by omega), Nat.mul_zero, Nat.add_zero] at hs
 refine ⟨h1, r.lq.set _ hg, by rw [h2, r.nU], by rw [List.length_set, r.nq], ?_, h4, fun k hk => by rw [getD_set_ne _ (by omega)]; exact r.zero k (by omega)⟩
 rw [r.sum, hs, Nat.mul_add]
 generalize lV v * (4294967296 ^ j * g) = z at *
 generalize lV v * lV q = z2 at *
 omega
theorem DivRel.done {u0 n m : Nat} {v U q : List Nat} (r : DivRel u0 v n 0 m U q) : lV q = u0 / lV v ∧ lV U = u0 % lV v := by
 have h := r.lt
 rw [Nat.pow_zero, Nat.mul_one] at h
 have s := r.sum
 have hv : 0 < lV v := by omega
 constructor
 ·rw [s, Nat.mul_add_div hv, Nat.div_eq_of_lt h]; omega
 ·rw [s, Nat.mul_add_mod, Nat.mod_eq_of_lt h]
end W
end Go.Proofs.YtdajgcgliidjbaaGreat

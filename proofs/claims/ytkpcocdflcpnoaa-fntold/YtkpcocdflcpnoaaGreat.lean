/-
  Great numbers as plain lists: bN (bytes, the highest first), gT (the one text of a number), limbs of 24 bits (lV, limbs), okG.
-/
import Derived.Test.YtkpcocdflcpnoaaBase
namespace Go.Proofs.Ytkpcocdflcpnoaa
open Go.RowKit

/-! Bytes, the highest first. -/
def bN (l : List UInt8) : Nat := l.foldl (fun a c => 256 * a + c.toNat) 0
theorem foldl_bN (l : List UInt8) (a : Nat) : l.foldl (fun a c => 256 * a + c.toNat) a = a * 256 ^ l.length + bN l := by
  unfold bN
  induction l generalizing a with
  | nil => simp
  | cons c r ih =>
    rw [List.foldl_cons, List.foldl_cons, ih, ih (256 * 0 + c.toNat), List.length_cons, Nat.pow_succ]
    simp only [Nat.mul_zero, Nat.zero_add, Nat.add_mul]
    rw [Nat.mul_comm 256 a, Nat.mul_assoc, Nat.mul_comm (256 ^ r.length) 256]
    omega
theorem bN_nil : bN [] = 0 := rfl
theorem bN_snoc (l : List UInt8) (c : UInt8) : bN (l ++ [c]) = 256 * bN l + c.toNat := by unfold bN; rw [List.foldl_append]; rfl
theorem bN_append (l m : List UInt8) : bN (l ++ m) = bN l * 256 ^ m.length + bN m := by
  conv => lhs; unfold bN
  rw [List.foldl_append, foldl_bN]
  rfl
theorem bN_cons (c : UInt8) (l : List UInt8) : bN (c :: l) = c.toNat * 256 ^ l.length + bN l := by
  have := bN_append [c] l
  rw [List.singleton_append] at this
  rw [this]
  simp [bN]
theorem bN_lt (l : List UInt8) : bN l < 256 ^ l.length := by
  induction l with
  | nil => simp [bN]
  | cons c r ih =>
    rw [bN_cons, List.length_cons, Nat.pow_succ]
    have hc := c.toNat_lt
    have : (c.toNat + 1) * 256 ^ r.length ≤ 256 * 256 ^ r.length := Nat.mul_le_mul_right _ (by omega)
    rw [Nat.add_mul] at this
    omega
theorem bN_zeros (k : Nat) (l : List UInt8) : bN (List.replicate k 0 ++ l) = bN l := by
  induction k with
  | zero => simp
  | succ k ih => rw [List.replicate_succ, List.cons_append, bN_cons, ih]; simp

/-- The one text of a number. -/
def gT (n : Nat) : List UInt8 := if _h : n = 0 then [] else gT (n / 256) ++ [UInt8.ofNat (n % 256)]
termination_by n
decreasing_by omega
theorem gT_zero : gT 0 = [] := by rw [gT]; simp
theorem gT_pos {n : Nat} (h : 0 < n) : gT n = gT (n / 256) ++ [UInt8.ofNat (n % 256)] := by
  conv => lhs; rw [gT]
  rw [dif_neg (by omega)]
theorem byte_nat (k : Nat) (h : k < 256) : (UInt8.ofNat k).toNat = k := by simp; omega
theorem bN_gT (n : Nat) : bN (gT n) = n := by
  induction n using Nat.strongRecOn with
  | _ n ih =>
    by_cases h : n = 0
    · subst h; rw [gT_zero]; rfl
    · rw [gT_pos (by omega), bN_snoc, ih (n / 256) (by omega), byte_nat _ (by omega)]
      omega
/-- No byte 0 ahead. -/
def headOk (l : List UInt8) : Bool := match l with | [] => true | c :: _ => decide (c.toNat ≠ 0)
theorem headOk_append {l m : List UInt8} (h : headOk l = true) (hl : l ≠ []) : headOk (l ++ m) = true := by
  cases l with
  | nil => exact absurd rfl hl
  | cons c r => exact h
theorem gT_ne {n : Nat} (h : 0 < n) : gT n ≠ [] := by rw [gT_pos h]; simp
theorem gT_head (n : Nat) : headOk (gT n) = true := by
  induction n using Nat.strongRecOn with
  | _ n ih =>
    by_cases h : n = 0
    · subst h; rw [gT_zero]; rfl
    · rw [gT_pos (by omega)]
      by_cases h2 : n / 256 = 0
      · rw [h2, gT_zero, List.nil_append]
        simp only [headOk]
        rw [byte_nat _ (by omega)]
        simp; omega
      · exact headOk_append (ih _ (by omega)) (gT_ne (by omega))
theorem headOk_pos {l : List UInt8} (h : headOk l = true) (hl : l ≠ []) : 256 ^ (l.length - 1) ≤ bN l := by
  cases l with
  | nil => exact absurd rfl hl
  | cons c r =>
    simp only [headOk, decide_eq_true_eq] at h
    rw [bN_cons]
    have : 1 * 256 ^ r.length ≤ c.toNat * 256 ^ r.length := Nat.mul_le_mul_right _ (by omega)
    simp at *
    omega
theorem headOk_dropLast {l : List UInt8} (h : headOk l = true) : headOk l.dropLast = true := by
  cases l with
  | nil => rfl
  | cons c r =>
    cases r with
    | nil => rfl
    | cons d t => exact h
theorem gT_bN (l : List UInt8) (h : headOk l = true) : gT (bN l) = l := by
  induction hn : l.length generalizing l with
  | zero => rw [List.eq_nil_of_length_eq_zero hn]; exact gT_zero
  | succ n ih =>
    have hne : l ≠ [] := by intro e; rw [e] at hn; cases hn
    have hp := headOk_pos h hne
    have hs := List.dropLast_concat_getLast hne
    have ih := ih l.dropLast (headOk_dropLast h) (by rw [List.length_dropLast]; omega)
    have hb : bN l = 256 * bN l.dropLast + (l.getLast hne).toNat := by
      conv => lhs; rw [← hs]
      exact bN_snoc _ _
    have hc := (l.getLast hne).toNat_lt
    have h1 : 0 < bN l := Nat.lt_of_lt_of_le (Nat.pos_of_ne_zero (by simp)) hp
    rw [gT_pos h1, show bN l / 256 = bN l.dropLast from by omega, ih, show bN l % 256 = (l.getLast hne).toNat from by omega]
    conv => rhs; rw [← hs]
    simp
theorem gT_len_lt {n k : Nat} (h : n < 256 ^ k) : (gT n).length ≤ k := by
  rcases Nat.lt_or_ge k (gT n).length with hl | hl
  · exfalso
    have hne : gT n ≠ [] := by intro e; rw [e] at hl; simp at hl
    have := headOk_pos (gT_head n) hne
    rw [bN_gT] at this
    have : 256 ^ k ≤ 256 ^ ((gT n).length - 1) := Nat.pow_le_pow_right (by omega) (by omega)
    omega
  · exact hl
theorem gT_len_ge {n k : Nat} (h : 256 ^ k ≤ n) : k < (gT n).length := by
  rcases Nat.lt_or_ge k (gT n).length with hl | hl
  · exact hl
  · exfalso
    have := bN_lt (gT n)
    rw [bN_gT] at this
    have : 256 ^ (gT n).length ≤ 256 ^ k := Nat.pow_le_pow_right (by omega) hl
    omega

/-! Which texts are right. -/
def okG (s : ByteArray) : Bool := decide (s.size ≤ 160) && headOk s.data.toList
/-- The number of a text. -/
def gV (s : ByteArray) : Nat := bN s.data.toList
def gS (n : Nat) : ByteArray := ⟨(gT n).toArray⟩
theorem gS_list (n : Nat) : (gS n).data.toList = gT n := by simp [gS]
theorem gS_gV {s : ByteArray} (h : okG s = true) : gS (gV s) = s := by
  simp only [okG, Bool.and_eq_true] at h
  unfold gS gV
  rw [gT_bN _ h.2]
theorem gV_gS (n : Nat) : gV (gS n) = n := by unfold gV; rw [gS_list, bN_gT]
theorem gS_size (n : Nat) : (gS n).size = (gT n).length := by show (gT n).toArray.size = _; simp
/-- The bound of what is right. -/
def GB : Nat := 256 ^ 160
theorem okG_gS {n : Nat} : okG (gS n) = decide (n < GB) := by
  unfold okG
  rw [gS_list, gT_head, gS_size, Bool.and_true]
  rw [Bool.eq_iff_iff]
  simp only [decide_eq_true_eq]
  constructor
  · intro h
    rcases Nat.lt_or_ge n GB with hl | hl
    · exact hl
    · have := gT_len_ge (k := 160) hl; omega
  · exact fun h => gT_len_lt h
theorem gV_lt {s : ByteArray} (h : okG s = true) : gV s < GB := by
  simp only [okG, Bool.and_eq_true, decide_eq_true_eq] at h
  have := bN_lt s.data.toList
  have hl : s.data.toList.length ≤ 160 := by simpa using h.1
  have : 256 ^ s.data.toList.length ≤ 256 ^ 160 := Nat.pow_le_pow_right (by omega) hl
  unfold gV GB
  omega
theorem gS_zero : gS 0 = ⟨#[]⟩ := by unfold gS; rw [gT_zero]

/-! Limbs of 24 bits, the lowest first. -/
def lV : List Nat → Nat
  | [] => 0
  | x :: r => x + 16777216 * lV r
theorem lV_cons (x : Nat) (r : List Nat) : lV (x :: r) = x + 16777216 * lV r := rfl
theorem lV_append (l m : List Nat) : lV (l ++ m) = lV l + 16777216 ^ l.length * lV m := by
  induction l with
  | nil => simp [lV]
  | cons x r ih =>
    rw [List.cons_append, lV_cons, ih, lV_cons, List.length_cons, Nat.pow_succ, Nat.mul_add]
    rw [Nat.mul_comm (16777216 ^ r.length) 16777216, Nat.mul_assoc]
    omega
theorem lV_snoc (l : List Nat) (x : Nat) : lV (l ++ [x]) = lV l + 16777216 ^ l.length * x := by rw [lV_append]; simp [lV]
def Limbs (l : List Nat) : Prop := ∀ x ∈ l, x < 16777216
theorem Limbs.nil : Limbs [] := fun _ h => by cases h
theorem Limbs.snoc {l : List Nat} {x : Nat} (h : Limbs l) (hx : x < 16777216) : Limbs (l ++ [x]) := fun y hy => by
  rcases List.mem_append.1 hy with hy | hy
  · exact h y hy
  · have : y = x := by simpa using hy
    omega
theorem Limbs.take {l : List Nat} (h : Limbs l) (k : Nat) : Limbs (l.take k) := fun y hy => h y (List.mem_of_mem_take hy)
theorem Limbs.get {l : List Nat} (h : Limbs l) {k : Nat} (hk : k < l.length) : l[k] < 16777216 := h _ (List.getElem_mem hk)
theorem lV_lt {l : List Nat} (h : Limbs l) : lV l < 16777216 ^ l.length := by
  induction l with
  | nil => simp [lV]
  | cons x r ih =>
    have h1 := h x (by simp)
    have h2 := ih (fun y hy => h y (by simp [hy]))
    rw [lV_cons, List.length_cons, Nat.pow_succ]
    omega
/-- Without needless ones. -/
def Trimmed (l : List Nat) : Prop := l = [] ∨ ∃ r x, l = r ++ [x] ∧ 0 < x
theorem Trimmed.ge {l : List Nat} (h : Trimmed l) (hl : l ≠ []) : 16777216 ^ (l.length - 1) ≤ lV l := by
  rcases h with h | ⟨r, x, rfl, hx⟩
  · exact absurd h hl
  · rw [lV_snoc]
    have : 16777216 ^ r.length * 1 ≤ 16777216 ^ r.length * x := Nat.mul_le_mul_left _ hx
    simp at *
    omega
theorem limbs_unique : ∀ {l m : List Nat}, Limbs l → Limbs m → Trimmed l → Trimmed m → lV l = lV m → l = m := by
  intro l m hl hm tl tm e
  have key : ∀ (l m : List Nat), Limbs l → Limbs m → l.length = m.length → lV l = lV m → l = m := by
    intro l
    induction l with
    | nil => intro m _ _ h _; exact (List.eq_nil_of_length_eq_zero h.symm).symm
    | cons x r ih =>
      intro m hl hm h e
      cases m with
      | nil => cases h
      | cons y t =>
        rw [lV_cons, lV_cons] at e
        have h1 := hl x (by simp)
        have h2 := hm y (by simp)
        have e1 : x = y := by omega
        have e2 : lV r = lV t := by omega
        rw [e1, ih t (fun z hz => hl z (by simp [hz])) (fun z hz => hm z (by simp [hz])) (by simpa using h) e2]
  refine key l m hl hm ?_ e
  have l1 := lV_lt hl
  have l2 := lV_lt hm
  rcases Nat.lt_trichotomy l.length m.length with h | h | h
  · exfalso
    have hne : m ≠ [] := by intro e; rw [e] at h; simp at h
    have := tm.ge hne
    have : 16777216 ^ l.length ≤ 16777216 ^ (m.length - 1) := Nat.pow_le_pow_right (by omega) (by omega)
    omega
  · exact h
  · exfalso
    have hne : l ≠ [] := by intro e; rw [e] at h; simp at h
    have := tl.ge hne
    have : 16777216 ^ m.length ≤ 16777216 ^ (l.length - 1) := Nat.pow_le_pow_right (by omega) (by omega)
    omega
end Go.Proofs.Ytkpcocdflcpnoaa

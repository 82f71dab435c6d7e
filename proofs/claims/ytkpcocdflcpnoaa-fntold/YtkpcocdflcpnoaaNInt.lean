/-
  The contracts of spec.GreatInt, BitsOf, BitOf.
-/
import Derived.Test.YtkpcocdflcpnoaaNBits
namespace Go.Proofs.Ytkpcocdflcpnoaa
open Go.RowKit

/-- A lower part put under a higher one. -/
theorem orL (k a c : Nat) (hc : c < 2 ^ k) (h : 2 ^ k * a + c < 9223372036854775808) : bits .or .i64 (((2 ^ k * a : Nat) : Int)) (c : Int) = ((2 ^ k * a + c : Nat) : Int) := by
  show IntKind.i64.wrap ((BitVec.ofInt 64 ((2 ^ k * a : Nat) : Int) ||| BitVec.ofInt 64 (c : Int)).toNat : Nat) = _
  rw [BitVec.toNat_or, BitVec.toNat_ofInt, BitVec.toNat_ofInt]
  have e1 : (((2 ^ k * a : Nat) : Int) % ((2 ^ 64 : Nat) : Int)).toNat = 2 ^ k * a := by
    generalize 2 ^ k * a = y at *; omega
  have e2 : ((c : Int) % ((2 ^ 64 : Nat) : Int)).toNat = c := by
    generalize 2 ^ k * a = y at *; omega
  rw [e1, e2, ← Nat.two_pow_add_eq_or_of_lt hc]
  generalize 2 ^ k * a + c = y at *
  rw [IntKind.wrap_i64]; omega
theorem orL8 (a c : Nat) (hc : c < 256) (h : 256 * a + c < 9223372036854775808) : bits .or .i64 (256 * (a : Int)) (c : Int) = 256 * (a : Int) + (c : Int) := by
  have := orL 8 a c hc h
  simpa using this
theorem orL24 (a c : Nat) (hc : c < 16777216) (h : 16777216 * a + c < 9223372036854775808) : bits .or .i64 (16777216 * (a : Int)) (c : Int) = 16777216 * (a : Int) + (c : Int) := by
  have := orL 24 a c hc h
  simpa using this
theorem bN_take_le (l : List UInt8) (k : Nat) : bN (l.take k) ≤ bN l := by
  have e := List.take_append_drop k l
  conv => rhs; rw [← e]
  rw [bN_append]
  have : bN (l.take k) * 1 ≤ bN (l.take k) * 256 ^ (l.drop k).length := Nat.mul_le_mul_left _ (Nat.pow_pos (by omega))
  omega
theorem bN_at {l : List UInt8} {k : Nat} (h : k < l.length) : bN l / 256 ^ (l.length - 1 - k) % 256 = l[k].toNat := by
  have e : l = l.take k ++ [l[k]] ++ l.drop (k + 1) := by
    rw [← List.take_succ_eq_append_getElem h, List.take_append_drop]
  have hd : (l.drop (k + 1)).length = l.length - 1 - k := by rw [List.length_drop]; omega
  have hv : bN l = bN (l.take k ++ [l[k]]) * 256 ^ (l.length - 1 - k) + bN (l.drop (k + 1)) := by
    conv => lhs; rw [e]
    rw [bN_append, hd]
  have hlt := bN_lt (l.drop (k + 1))
  rw [hd] at hlt
  rw [hv, Nat.add_comm, Nat.add_mul_div_right _ _ (Nat.pow_pos (by omega)), Nat.div_eq_of_lt hlt, bN_snoc]
  have := l[k].toNat_lt
  omega

/-! GreatInt -/
def intB (s : ByteArray) : Bool := okG s && decide (gV s < 9223372036854775808)
def intG (s : ByteArray) : Int := if intB s then (gV s : Int) else 0
theorem head_val {s : ByteArray} (h : 0 < s.size) : s[0].toNat = gV s / 256 ^ (s.size - 1) % 256 := by
  have hl : 0 < s.data.toList.length := by simpa using h
  have := bN_at (l := s.data.toList) (k := 0) hl
  have e : s.data.toList.length = s.size := by simp
  rw [e] at this
  unfold gV
  rw [show s.size - 1 = s.size - 1 - 0 from by omega, this]
  rfl
theorem gV_size (s : ByteArray) : gV s < 256 ^ s.size := by
  have := bN_lt s.data.toList
  have e : s.data.toList.length = s.size := by simp
  rw [e] at this; exact this
theorem gV_ge {s : ByteArray} (ok : okG s = true) (h : 0 < s.size) : 256 ^ (s.size - 1) ≤ gV s := by
  simp only [okG, Bool.and_eq_true] at ok
  have e : s.data.toList.length = s.size := by simp
  have hne : s.data.toList ≠ [] := by intro e2; rw [e2] at e; simp at e; omega
  have := headOk_pos ok.2 hne
  rw [e] at this; exact this
theorem intB_long {s : ByteArray} (ok : okG s = true) (h : 8 < s.size) : intB s = false := by
  unfold intB
  have := gV_ge ok (by omega)
  have : 256 ^ 8 ≤ 256 ^ (s.size - 1) := Nat.pow_le_pow_right (by omega) (by omega)
  have : decide (gV s < 9223372036854775808) = false := by simp only [decide_eq_false_iff_not]; omega
  rw [this]; simp
theorem intB_eight {s : ByteArray} (ok : okG s = true) (h : s.size = 8) : intB s = decide (s[0].toNat ≤ 127) := by
  have h1 := head_val (s := s) (by omega)
  have h2 := gV_size s
  have e1 : 256 ^ (s.size - 1) = 256 ^ 7 := by rw [h]
  rw [e1] at h1
  rw [h] at h2
  unfold intB
  rw [ok, Bool.true_and, Bool.eq_iff_iff]
  simp only [decide_eq_true_eq]
  omega
theorem intB_short {s : ByteArray} (ok : okG s = true) (h : s.size < 8) : intB s = true := by
  have h2 := gV_size s
  have : 256 ^ s.size ≤ 256 ^ 7 := Nat.pow_le_pow_right (by omega) (by omega)
  unfold intB
  rw [ok, Bool.true_and]
  simp only [decide_eq_true_eq]
  omega
def IntPost (s : ByteArray) (w : World) (e : Ending) (w' : World) : Prop := e = .returned (.tuple #[.int .i64 (intG s), .bool (intB s)]) ∧ w = w'
theorem int_no {s : ByteArray} (h : intB s = false) (w : World) : IntPost s w (.returned (.tuple #[.int .i64 0, .bool false])) w := ⟨by unfold intG; rw [h]; rfl, rfl⟩
/-! BitsOf -/
def bitLen (v : Nat) : Nat := if v = 0 then 0 else v.log2 + 1
theorem bitLen_eq {v b : Nat} (h1 : 2 ^ b ≤ v) (h2 : v < 2 ^ (b + 1)) : bitLen v = b + 1 := by
  have hv : v ≠ 0 := by have := Nat.pow_pos (n := b) (show 0 < 2 by omega); omega
  unfold bitLen
  rw [if_neg hv]
  have a1 := (Nat.le_log2 hv).2 h1
  have a2 := (Nat.log2_lt hv).2 h2
  omega
def bitsG (s : ByteArray) : Int := if okG s then (bitLen (gV s) : Int) else -1
/-- A text's bits, by its first byte. -/
theorem bits_head {s : ByteArray} (h : 0 < s.size) {k x : Nat} (hk : k ≤ 7) (hx : x = s[0].toNat * 2 ^ k) (h1 : 128 ≤ x) (h2 : x < 256) : bitLen (gV s) + k = 8 * s.size := by
  have hv := head_val h
  have hlt := gV_size s
  obtain ⟨n, hn⟩ : ∃ n, s.size = n + 1 := ⟨s.size - 1, by omega⟩
  have e1 : 256 ^ (s.size - 1) = 256 ^ n := by rw [hn]; rfl
  have e2 : 256 ^ s.size = 256 * 256 ^ n := by rw [hn, Nat.pow_succ, Nat.mul_comm]
  rw [e1] at hv
  rw [e2] at hlt
  obtain ⟨p, hp⟩ : ∃ p, 256 ^ n = p := ⟨_, rfl⟩
  have hp0 : 0 < p := by rw [← hp]; exact Nat.pow_pos (by omega)
  have hp2 : p = 2 ^ (8 * n) := by rw [← hp, show (256 : Nat) = 2 ^ 8 from rfl, ← Nat.pow_mul]
  rw [hp] at hv hlt
  have hq : gV s / p < 256 := (Nat.div_lt_iff_lt_mul hp0).2 (by omega)
  have hv2 : s[0].toNat = gV s / p := by rw [hv]; exact Nat.mod_eq_of_lt hq
  obtain ⟨d, hd⟩ : ∃ d, gV s / p = d := ⟨_, rfl⟩
  rw [hd] at hv2 hq
  have hdm := Nat.div_add_mod (gV s) p
  rw [hd] at hdm
  have hr := Nat.mod_lt (gV s) hp0
  rw [hv2] at hx
  have hkk : (2 : Nat) ^ 7 = 2 ^ (7 - k) * 2 ^ k := by rw [← Nat.pow_add]; congr 1; omega
  have hkk2 : (2 : Nat) ^ 8 = 2 ^ (8 - k) * 2 ^ k := by rw [← Nat.pow_add]; congr 1; omega
  have d1 : 2 ^ (7 - k) ≤ d := by
    rcases Nat.lt_or_ge d (2 ^ (7 - k)) with h | h
    · have := Nat.mul_lt_mul_of_pos_right h (Nat.pow_pos (n := k) (show 0 < 2 by omega)); omega
    · exact h
  have d2 : d < 2 ^ (8 - k) := by
    rcases Nat.lt_or_ge d (2 ^ (8 - k)) with h | h
    · exact h
    · have := Nat.mul_le_mul_right (2 ^ k) h; omega
  have hb : bitLen (gV s) = 7 - k + 8 * n + 1 := by
    refine bitLen_eq ?_ ?_
    · rw [Nat.pow_add, ← hp2]
      have := Nat.mul_le_mul_right p d1
      rw [Nat.mul_comm d p] at this; omega
    · rw [show 7 - k + 8 * n + 1 = 8 - k + 8 * n from by omega, Nat.pow_add, ← hp2]
      have := Nat.mul_le_mul_right p (show d + 1 ≤ 2 ^ (8 - k) from d2)
      rw [Nat.add_mul, Nat.mul_comm d p] at this; omega
  rw [hb, hn]; omega
/-! BitOf -/
def bitG (s : ByteArray) (i : Int) : Int := if okG s && decide (0 ≤ i) && decide (i.toNat / 8 < s.size) then ((gV s / 2 ^ i.toNat % 2 : Nat) : Int) else 0
theorem bit_at {s : ByteArray} {i : Nat} (h : i / 8 < s.size) : (s[s.size - 1 - i / 8]'(by omega)).toNat / 2 ^ (i % 8) % 2 = gV s / 2 ^ i % 2 := by
  have hl : s.size - 1 - i / 8 < s.data.toList.length := by simp; show _ < s.size; omega
  have := bN_at hl
  have e : s.data.toList.length = s.size := by simp
  rw [e, show s.size - 1 - (s.size - 1 - i / 8) = i / 8 from by omega] at this
  have e2 : (s[s.size - 1 - i / 8]'(by omega)).toNat = gV s / 256 ^ (i / 8) % 256 := by unfold gV; rw [this]; rfl
  rw [e2]
  have e3 : (2 : Nat) ^ i = 256 ^ (i / 8) * 2 ^ (i % 8) := by
    rw [show (256 : Nat) = 2 ^ 8 from rfl, ← Nat.pow_mul, ← Nat.pow_add]; congr 1; omega
  rw [e3, ← Nat.div_div_eq_div_mul]
  generalize gV s / 256 ^ (i / 8) = v
  have hr : i % 8 < 8 := Nat.mod_lt _ (by omega)
  have e4 : (256 : Nat) = 2 ^ (i % 8) * (2 * 2 ^ (7 - i % 8)) := by
    rw [show (256 : Nat) = 2 ^ 8 from rfl, ← Nat.pow_succ', ← Nat.pow_add]; congr 1; omega
  rw [e4, Nat.mod_mul_right_div_self]
  exact Nat.mod_mul_right_mod _ _ _
theorem andOne (n : Int) : bits .and .i64 n 1 = n % 2 := by
  have h1 : (BitVec.ofInt 64 1).toNat = 2 ^ 1 - 1 := by decide
  have key : (BitVec.ofInt 64 n &&& BitVec.ofInt 64 1).toNat = (n % ((2 ^ 64 : Nat) : Int)).toNat % 2 ^ 1 := by
    rw [BitVec.toNat_and, BitVec.toNat_ofInt, h1, Nat.and_two_pow_sub_one_eq_mod]
  show IntKind.i64.wrap ((BitVec.ofInt 64 n &&& BitVec.ofInt 64 1).toNat : Nat) = n % 2
  rw [key, IntKind.wrap_i64]
  omega
end Go.Proofs.Ytkpcocdflcpnoaa

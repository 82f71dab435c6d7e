/-
  The contracts of math/bits.Len8, Len32, LeadingZeros32 and of impl's bitCount.
-/
import Derived.Test.YtkpcocdflcpnoaaIRowOf
import Derived.Test.YtkpcocdflcpnoaaNInt
namespace Go.Proofs.Ytkpcocdflcpnoaa
open Go.RowKit

def len8T : ByteArray := ⟨#[0, 1, 2, 2, 3, 3, 3, 3, 4, 4, 4, 4, 4, 4, 4, 4, 5, 5, 5, 5, 5, 5, 5, 5, 5, 5, 5, 5, 5, 5, 5, 5, 6, 6, 6, 6, 6, 6, 6, 6, 6, 6, 6, 6, 6, 6, 6, 6, 6, 6, 6, 6, 6, 6, 6, 6, 6, 6, 6, 6, 6, 6, 6, 6, 7, 7, 7, 7, 7, 7, 7, 7, 7, 7, 7, 7, 7, 7, 7, 7, 7, 7, 7, 7, 7, 7, 7, 7, 7, 7, 7, 7, 7, 7, 7, 7, 7, 7, 7, 7, 7, 7, 7, 7, 7, 7, 7, 7, 7, 7, 7, 7, 7, 7, 7, 7, 7, 7, 7, 7, 7, 7, 7, 7, 7, 7, 7, 7, 8, 8, 8, 8, 8, 8, 8, 8, 8, 8, 8, 8, 8, 8, 8, 8, 8, 8, 8, 8, 8, 8, 8, 8, 8, 8, 8, 8, 8, 8, 8, 8, 8, 8, 8, 8, 8, 8, 8, 8, 8, 8, 8, 8, 8, 8, 8, 8, 8, 8, 8, 8, 8, 8, 8, 8, 8, 8, 8, 8, 8, 8, 8, 8, 8, 8, 8, 8, 8, 8, 8, 8, 8, 8, 8, 8, 8, 8, 8, 8, 8, 8, 8, 8, 8, 8, 8, 8, 8, 8, 8, 8, 8, 8, 8, 8, 8, 8, 8, 8, 8, 8, 8, 8, 8, 8, 8, 8, 8, 8, 8, 8, 8, 8, 8, 8, 8, 8, 8, 8, 8, 8, 8, 8, 8, 8, 8, 8]⟩
set_option maxRecDepth 100000 in
theorem len8_size : len8T.size = 256 := rfl
set_option maxRecDepth 100000 in
theorem len8_all : ∀ k : Fin 256, ((len8T[k.val]'(by rw [len8_size]; exact k.isLt)).toNat) = bitLen k.val := by decide +kernel
theorem len8_val (c : Nat) (h : c < len8T.size) : (len8T[c]'h).toNat = bitLen c := len8_all ⟨c, by rw [← len8_size]; exact h⟩
theorem bitLen_small {c : Nat} (h : c < 256) : bitLen c ≤ 8 := by
  unfold bitLen
  split
  · omega
  · rename_i h0; have := (Nat.log2_lt h0 (k := 8)).2 (by omega); omega
theorem w64 {n : Int} (h : -9223372036854775808 ≤ n ∧ n ≤ 9223372036854775807) : wrap64 n = n := by unfold wrap64; omega
theorem len8_wrap {c : Nat} (h : c < len8T.size) : wrap64 ((len8T[c]'h).toNat : Int) = (bitLen c : Int) := by
  rw [len8_val]
  have : bitLen c ≤ 8 := bitLen_small (by rw [← len8_size]; exact h)
  exact w64 (by omega)
theorem len32_zero {c : Nat} (h : c < len8T.size) : wrap64 (wrap64 ((len8T[c]'h).toNat : Int)) = (bitLen c : Int) := by
  rw [len8_wrap]
  have : bitLen c ≤ 8 := bitLen_small (by rw [← len8_size]; exact h)
  exact w64 (by omega)
theorem len32_end {c n : Nat} (h : c < len8T.size) (hn : n ≤ 24) : wrap64 ((n : Int) + wrap64 ((len8T[c]'h).toNat : Int)) = ((bitLen c + n : Nat) : Int) := by
  rw [len8_wrap]
  have : bitLen c ≤ 8 := bitLen_small (by rw [← len8_size]; exact h)
  rw [w64 (by omega)]; omega
theorem bitLen_shift {x k : Nat} (h : 2 ^ k ≤ x) : bitLen x = bitLen (x / 2 ^ k) + k := by
  have hp : 0 < 2 ^ k := Nat.pow_pos (by omega)
  have hx : x ≠ 0 := by omega
  have hd : x / 2 ^ k ≠ 0 := by have := Nat.div_pos h hp; omega
  obtain ⟨b, hb⟩ : ∃ b, b = (x / 2 ^ k).log2 := ⟨_, rfl⟩
  have a1 : 2 ^ b ≤ x / 2 ^ k := by rw [← Nat.le_log2 hd]; omega
  have a2 : x / 2 ^ k < 2 ^ (b + 1) := by rw [← Nat.log2_lt hd]; omega
  have e1 : bitLen (x / 2 ^ k) = b + 1 := bitLen_eq a1 a2
  have b1 : 2 ^ (b + k) ≤ x := by
    have := (Nat.le_div_iff_mul_le hp).1 a1
    rw [← Nat.pow_add] at this; exact this
  have b2 : x < 2 ^ (b + k + 1) := by
    have := (Nat.div_lt_iff_lt_mul hp).1 a2
    rw [← Nat.pow_add, show b + 1 + k = b + k + 1 from by omega] at this; exact this
  rw [e1, bitLen_eq b1 b2]; omega

set_option maxRecDepth 100000 in
set_option maxHeartbeats 1000000 in
theorem len32_any (x : Nat) (hx : x < 4294967296) (w : World) : Calls Try.prog 68 #[.int .u32 (x : Int)] w fun e w' => e = .returned (.int .i64 (bitLen x : Int)) ∧ w = w' := by
  by_cases h1 : 65536 ≤ x
  · have g1 : (65536 : Int) ≤ (x : Int) := by omega
    obtain ⟨y, hy⟩ : ∃ y, x / 65536 = y := ⟨_, rfl⟩
    have d1 : (x : Int) / 65536 = (y : Int) := by omega
    have E1 : Hid (bitLen x = bitLen y + 16) := by rw [← hy]; exact bitLen_shift (k := 16) h1
    by_cases h2 : 256 ≤ y
    · have g2 : (256 : Int) ≤ (y : Int) := by omega
      obtain ⟨z, hz⟩ : ∃ z, y / 256 = z := ⟨_, rfl⟩
      have d2 : (y : Int) / 256 = (z : Int) := by omega
      have E2 : Hid (bitLen y = bitLen z + 8) := by rw [← hz]; exact bitLen_shift (k := 8) h2
      have z1 : (0 : Int) ≤ (z : Int) := by omega
      have z2 : (z : Int) < 256 := by omega
      have hz2 : z < 256 := by omega
      have z3 : IntKind.u8.wrap (z : Int) = (z : Int) := IntWalk.u8_in _ (by omega)
      clear hz hy h1 h2
      go_enter Try.func68, Try.ntmps68
      go_wp2
      go_ret
      exact ⟨(ret_int (len32_end (c := z) (n := 24) (by rw [len8_size]; exact hz2) (by omega))).trans (by rw [E1.out, E2.out]), rfl⟩
    · have g2 : ¬ (256 : Int) ≤ (y : Int) := by omega
      have z1 : (0 : Int) ≤ (y : Int) := by omega
      have z2 : (y : Int) < 256 := by omega
      have hz2 : y < 256 := by omega
      have z3 : IntKind.u8.wrap (y : Int) = (y : Int) := IntWalk.u8_in _ (by omega)
      clear hy h1 h2
      go_enter Try.func68, Try.ntmps68
      go_wp2
      go_ret
      exact ⟨(ret_int (len32_end (c := y) (n := 16) (by rw [len8_size]; exact hz2) (by omega))).trans (by rw [E1.out]), rfl⟩
  · have g1 : ¬ (65536 : Int) ≤ (x : Int) := by omega
    by_cases h2 : 256 ≤ x
    · have g2 : (256 : Int) ≤ (x : Int) := by omega
      obtain ⟨z, hz⟩ : ∃ z, x / 256 = z := ⟨_, rfl⟩
      have d2 : (x : Int) / 256 = (z : Int) := by omega
      have E2 : Hid (bitLen x = bitLen z + 8) := by rw [← hz]; exact bitLen_shift (k := 8) h2
      have z1 : (0 : Int) ≤ (z : Int) := by omega
      have z2 : (z : Int) < 256 := by omega
      have hz2 : z < 256 := by omega
      have z3 : IntKind.u8.wrap (z : Int) = (z : Int) := IntWalk.u8_in _ (by omega)
      clear hz h1 h2
      go_enter Try.func68, Try.ntmps68
      go_wp2
      go_ret
      exact ⟨(ret_int (len32_end (c := z) (n := 8) (by rw [len8_size]; exact hz2) (by omega))).trans (by rw [E2.out]), rfl⟩
    · have g2 : ¬ (256 : Int) ≤ (x : Int) := by omega
      have z1 : (0 : Int) ≤ (x : Int) := by omega
      have z2 : (x : Int) < 256 := by omega
      have hz2 : x < 256 := by omega
      have z3 : IntKind.u8.wrap (x : Int) = (x : Int) := IntWalk.u8_in _ (by omega)
      clear h1 h2
      go_enter Try.func68, Try.ntmps68
      go_wp2
      go_ret
      exact ⟨ret_int (len32_zero (c := x) (by rw [len8_size]; exact hz2)), rfl⟩
theorem bitLen_32 {c : Nat} (h : c < 4294967296) : bitLen c ≤ 32 := by
  unfold bitLen
  split
  · omega
  · rename_i h0; have := (Nat.log2_lt h0 (k := 32)).2 (by omega); omega
/-! bitCount -/
/-- The digits of a right row. -/
theorem RV.lt {l : List Nat} {c : Nat} (h : RV l c) : W.lV l < 4294967296 ^ c := W.low_of_zero h.lim h.zero
theorem RV.bits {l : List Nat} {c : Nat} (h : RV l c) (h0 : 0 < c) : bitLen (W.lV l) = 32 * (c - 1) + bitLen (l.getD (c - 1) 0) := by
  obtain ⟨k, rfl⟩ : ∃ k, c = k + 1 := ⟨c - 1, by omega⟩
  have hd := getD_div h.lim h.lt
  have ht : 0 < l.getD k 0 := by rcases h.top with h | h; omega; exact h
  rw [show k + 1 - 1 = k from rfl, hd]
  have e : (4294967296 : Nat) ^ k = 2 ^ (32 * k) := by rw [show (4294967296 : Nat) = 2 ^ 32 from rfl, ← Nat.pow_mul]
  rw [hd] at ht
  rw [e] at ht ⊢
  have : 2 ^ (32 * k) ≤ W.lV l := by
    rcases Nat.lt_or_ge (W.lV l) (2 ^ (32 * k)) with h | h
    · rw [Nat.div_eq_of_lt h] at ht; omega
    · exact h
  rw [bitLen_shift this]; omega
theorem RV.zeroVal {l : List Nat} (h : RV l 0) : W.lV l = 0 := by have := h.lt; rw [Nat.pow_zero] at this; omega
def BitPost (n : Nat) (w : World) (e : Ending) (w' : World) : Prop := e = .returned (.int .i64 (n : Int)) ∧ ∃ k, w' = w.drewN k
set_option maxHeartbeats 1000000 in
theorem bitCount_any (g c : Nat) (l : List Nat) (w : World) (h : RowI w g l c) (hv : RV l c) (hc : c ≤ 81) :
    Calls Try.prog 60 #[.pointer (some ⟨g, 0, none⟩)] w (BitPost (bitLen (W.lV l)) w) := by
  obtain ⟨c2, f2⟩ := h.cnt
  by_cases h0 : c = 0
  · subst h0
    rw [hv.zeroVal]
    have q : ((((0 : Nat) : Int)) == 0) = true := rfl
    go_enter Try.func60, Try.ntmps60
    go_wp2
    go_ret
    exact ⟨rfl, 0, rfl⟩
  · obtain ⟨k, rfl⟩ : ∃ k, c = k + 1 := ⟨c - 1, by omega⟩
    rw [hv.bits (by omega), show k + 1 - 1 = k from rfl]
    obtain ⟨c1, f1⟩ := h.cell (k := k) (by omega)
    have hx := W.getD_lt hv.lim k
    have H := Lib.hid (len32_any (l.getD k 0) hx)
    have hb := bitLen_32 hx
    obtain ⟨x, hx2⟩ : ∃ x, l.getD k 0 = x := ⟨_, rfl⟩
    rw [hx2] at c1 hx H hb ⊢
    obtain ⟨b, hb2⟩ : ∃ b, bitLen x = b := ⟨_, rfl⟩
    rw [hb2] at H hb ⊢
    have q : ((((k + 1 : Nat) : Int)) == 0) = false := by simp; omega
    have q1 : ((k + 1 : Nat) : Int) - 1 = (k : Int) := by omega
    have q2 : IntKind.i64.wrap (((k + 1 : Nat) : Int) - 1) = (k : Int) := by rw [IntWalk.i64_in _ (by omega)]; omega
    have q3 : (k : Int) < 81 := by omega
    have q4 : (0 : Int) ≤ (k : Int) := by omega
    have q5 : IntKind.i64.wrap (32 * (k : Int)) = 32 * (k : Int) := IntWalk.i64_in _ (by omega)
    have q6 : IntKind.i64.wrap (32 * (k : Int) + (b : Int)) = 32 * (k : Int) + (b : Int) := IntWalk.i64_in _ (by omega)
    clear hx2 hb2 h hv
    generalize hkk : ((k + 1 : Nat) : Int) = kk at *
    clear hkk
    go_enter Try.func60, Try.ntmps60
    go_wp2_with fail
    go_quiet ((go_at_call 68; exact Calls.quiet_of_same ((H.out _).mono fun _ _ h => ⟨h.1, h.2.symm⟩)))
    clear q2 q5 q6
    go_wp2
    go_ret
    exact ⟨ret_int (by omega), _, rfl⟩
end Go.Proofs.Ytkpcocdflcpnoaa

/-
  How many bits a great number has, and which they are.
-/
import Derived.Test.YtflfeepgkcamnaaGreatILow
namespace Go.Proofs.YtflfeepgkcamnaaGreat

theorem lt_bits (N : Nat) : N < 2 ^ bitLen N := by
  rcases Nat.eq_zero_or_pos N with e | e
  · rw [e]; decide
  · exact (bitLen_bounds e).2.1
theorem bits_1280 {s : ByteArray} (ok : okG s = true) : bitLen (gV s) ≤ 1280 := by
  have := bitLen_pow (V := gV s) (c := 40) (by rw [← GB_40]; exact gV_lt ok)
  omega
theorem bit_pow {s : ByteArray} (ok : okG s = true) {i : Nat} (hi : i < bitLen (gV s)) : bitG s (i : Int) = ((gV s / 2 ^ i % 2 : Nat) : Int) := by
  unfold bitG
  have hsz : i / 8 < s.size := by
    rcases Nat.lt_or_ge (i / 8) s.size with h | h
    · exact h
    · exfalso
      have h1 : gV s < 2 ^ (8 * s.size) := by
        have := gV_size s
        rw [show (256 : Nat) = 2 ^ 8 from rfl, ← Nat.pow_mul] at this
        exact this
      have h2 : bitLen (gV s) ≤ 8 * s.size := by
        unfold bitLen
        split
        · omega
        · rename_i hN0
          exact (Nat.log2_lt hN0).2 h1
      omega
  rw [ok, Int.toNat_natCast, decide_eq_true (show (0 : Int) ≤ (i : Int) by omega), decide_eq_true hsz]
  rfl
end Go.Proofs.YtflfeepgkcamnaaGreat

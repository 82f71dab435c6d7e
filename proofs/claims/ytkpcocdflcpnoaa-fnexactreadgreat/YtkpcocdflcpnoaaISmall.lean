/-
  The contracts of impl.GreatOk, GreatInt, BitsOf, BitOf.
-/
import Derived.Test.YtkpcocdflcpnoaaILen
namespace Go.Proofs.Ytkpcocdflcpnoaa
open Go.RowKit

theorem greatOk_i (s : ByteArray) (w : World) : Calls Try.prog 30 #[.string s] w fun e w' => e = .returned (.bool (okG s)) ∧ w = w' := by
  by_cases h1 : 160 < s.size
  · have hd : decide ((s.size : Int) ≤ 160) = false := by simp; omega
    rw [okG_long h1]
    go_enter Try.func30, Try.ntmps30
    go_wp2
    go_ret
    exact ⟨rfl, rfl⟩
  have hd : decide ((s.size : Int) ≤ 160) = true := by simp; omega
  by_cases h2 : s.size = 0
  · have he : s.toList = [] := by have := isEmpty_size (s := s); rw [h2] at this; simpa using this
    rw [okG_empty h2]
    clear h2
    go_enter Try.func30, Try.ntmps30
    go_wp2
    go_ret
    exact ⟨rfl, rfl⟩
  · have he : s.toList.isEmpty = false := by rw [isEmpty_size]; simpa using h2
    have h3 : 0 < s.size := by omega
    have h4 : (0 : Int) < (s.size : Int) := by omega
    rw [okG_head h3 (by omega)]
    clear h2
    go_enter Try.func30, Try.ntmps30
    go_wp2
    go_ret
    exact ⟨rfl, rfl⟩

theorem okG_size' {s : ByteArray} (h : okG s = true) : s.size ≤ 160 := by
  simp only [okG, Bool.and_eq_true, decide_eq_true_eq] at h; exact h.1
/-! BitsOf -/
theorem bits_first {s : ByteArray} (ok : okG s = true) (h : 0 < s.size) : bitLen (gV s) = 8 * (s.size - 1) + bitLen s[0].toNat := by
  have hv := head_val h
  have hlt := gV_size s
  have hge := gV_ge ok h
  have hd : gV s / 256 ^ (s.size - 1) < 256 := by
    rw [Nat.div_lt_iff_lt_mul (Nat.pow_pos (by omega)), ← Nat.pow_succ', show (s.size - 1).succ = s.size from by omega]; exact hlt
  rw [Nat.mod_eq_of_lt hd] at hv
  have e : (256 : Nat) ^ (s.size - 1) = 2 ^ (8 * (s.size - 1)) := by rw [show (256 : Nat) = 2 ^ 8 from rfl, ← Nat.pow_mul]
  rw [e] at hv hge
  rw [bitLen_shift hge, hv]; omega
end Go.Proofs.Ytkpcocdflcpnoaa

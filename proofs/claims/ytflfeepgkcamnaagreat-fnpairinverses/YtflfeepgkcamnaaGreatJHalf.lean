/-
  The contract of impl's HalfRest.
-/
import Derived.Test.YtflfeepgkcamnaaGreatJPow
namespace Go.Proofs.YtflfeepgkcamnaaGreat
open Go.RowKit

/-! HalfRest -/
theorem half_num {x n : Nat} : (if x % 2 = 1 then x + n else x) / 2 = halfN x n := by unfold halfN; split <;> rfl
theorem bit_low {a : ByteArray} (ok : okG a = true) : bitG a 0 = ((gV a % 2 : Nat) : Int) := by
  rcases Nat.eq_zero_or_pos (gV a) with h | h
  · unfold bitG
    have : a.size = 0 := by
      rcases Nat.eq_zero_or_pos a.size with h2 | h2
      · exact h2
      · have := gV_pos ok h2; omega
    rw [this, h]; simp
  · have := bit_pow ok (i := 0) (by have := (bitLen_bounds h).2.2; omega)
    rw [Nat.pow_zero, Nat.div_one] at this
    exact this
theorem Row1.put {w : World} {g c c' : Nat} {l l' : List Nat} (h : RowI w g l c) (hl : l'.length = 81) : RowI (w.setRow g (rowC l' c')) g l' c' := h.stored hl
end Go.Proofs.YtflfeepgkcamnaaGreat

/-
  The contracts of spec.l02Bound, CompareGreat, AddGreat, SubGreat, MulGreat.
-/
import Derived.Test.YtkpcocdflcpnoaaNOut
import Derived.Test.YtkpcocdflcpnoaaNSub
import Derived.Test.YtkpcocdflcpnoaaNMul
namespace Go.Proofs.Ytkpcocdflcpnoaa
open Go.RowKit

theorem InP.len {n : Nat} {l : List Nat} (h : InP n l) {k : Nat} (hn : n < 16777216 ^ k) : l.length ≤ k := by
  rcases Nat.lt_or_ge k l.length with hl | hl
  · exfalso
    have hne : l ≠ [] := by intro e; rw [e] at hl; simp at hl
    have := h.2.1.ge hne
    rw [h.2.2] at this
    have : 16777216 ^ k ≤ 16777216 ^ (l.length - 1) := Nat.pow_le_pow_right (by omega) (by omega)
    omega
  · exact hl
theorem GB_54 : GB ≤ 16777216 ^ 54 := by unfold GB; decide
theorem InP.len54 {s : ByteArray} {l : List Nat} (ok : okG s = true) (h : InP (gV s) l) : l.length ≤ 54 := h.len (Nat.lt_of_lt_of_le (gV_lt ok) GB_54)
theorem okG_size {s : ByteArray} (h : okG s = true) : s.size ≤ 160 := by
  simp only [okG, Bool.and_eq_true, decide_eq_true_eq] at h; exact h.1
theorem bt {w w1 w2 : World} (h : Below w.heap.size w w1) (k : Below w1.heap.size w1 w2) : Below w.heap.size w w2 := h.trans (k.mono h.size)
/-- Whether both are right. -/
def okT (a b : ByteArray) : Bool := okG a && okG b
def boundG (s : ByteArray) : ByteArray := if okG s then s else ⟨#[]⟩
theorem boundG_gS (n : Nat) : boundG (gS n) = gS (if n < GB then n else 0) := by
  unfold boundG
  rw [okG_gS]
  by_cases h : n < GB
  · simp [h]
  · simp [h, gS_zero]
theorem bound_any (s : ByteArray) (w : World) : Calls Try.prog 62 #[.string s] w fun e w' => e = .returned (.string (boundG s)) ∧ w = w' := by
  have H := greatOk_any s
  unfold boundG
  cases h : okG s with
  | false =>
    rw [h] at H
    go_enter Try.func62, Try.ntmps62
    go_wp2_with fail
    refine (H _).mono ?_
    rintro e w1 ⟨rfl, rfl⟩
    go_wp2
    go_ret
    exact ⟨rfl, rfl⟩
  | true =>
    rw [h] at H
    go_enter Try.func62, Try.ntmps62
    go_wp2_with fail
    refine (H _).mono ?_
    rintro e w1 ⟨rfl, rfl⟩
    go_wp2
    go_ret
    exact ⟨rfl, rfl⟩

/-! CompareGreat -/
def cmpG (a b : ByteArray) : Int := if okT a b then cmpI (gV a) (gV b) else 0
/-! AddGreat, MulGreat, SubGreat -/
def addG (a b : ByteArray) : ByteArray := if okT a b then boundG (gS (gV a + gV b)) else ⟨#[]⟩
def mulG (a b : ByteArray) : ByteArray := if okT a b then boundG (gS (gV a * gV b)) else ⟨#[]⟩
def subB (a b : ByteArray) : Bool := okT a b && decide (gV b ≤ gV a)
def subG (a b : ByteArray) : ByteArray := if subB a b then gS (gV a - gV b) else ⟨#[]⟩
end Go.Proofs.Ytkpcocdflcpnoaa

/-
  Two rows laid into two variables of the call's own; how many limbs a right row of a bounded number has.
-/
import Derived.Test.YtkpcocdflcpnoaaIGreat
import Derived.Test.YtkpcocdflcpnoaaISmall
namespace Go.Proofs.Ytkpcocdflcpnoaa
open Go.RowKit

theorem RV.cnt_le {l : List Nat} {c k : Nat} (h : RV l c) (hv : W.lV l < 4294967296 ^ k) : c ≤ k := by
  rcases Nat.lt_or_ge k c with hk | hk
  · exfalso
    have ht : 0 < l.getD (c - 1) 0 := by rcases h.top with h | h; omega; exact h
    rw [W.high_zero h.lim hv (k := c - 1) (by omega)] at ht
    omega
  · exact hk
theorem GB_40 : GB = 4294967296 ^ 40 := by unfold GB; decide
theorem RV.cnt40 {l : List Nat} {c : Nat} {s : ByteArray} (h : RV l c) (hv : W.lV l = gV s) (ok : okG s = true) : c ≤ 40 := h.cnt_le (by rw [hv, ← GB_40]; exact gV_lt ok)
/-- The world behind two variables that were laid. -/
structure Vars (w w' : World) (lx : List Nat) (cx : Nat) (ly : List Nat) (cy : Nat) : Prop where
  x : RowI w' w.heap.size lx cx
  y : RowI w' (w.heap.size + 1) ly cy
  b : Below w.heap.size w w'
theorem Vars.of {w w' : World} {lx ly : List Nat} {cx cy : Nat} (h : Work w w' Z81 0) (hx : lx.length = 81) (hy : ly.length = 81) :
    Vars w ((w'.setRow w.heap.size (rowC lx cx)).setRow (w.heap.size + 1) (rowC ly cy)) lx cx ly cy :=
  ⟨(h.out.stored hx).storedApart (by omega), ((h.row.storedApart (by omega)).stored hy), below_setRow (below_setRow h.b (Nat.le_refl _) _) (by omega) _⟩
/-- One variable. -/
theorem one_var (w : World) {Z : Array Value} (hZ : rowC Z81 0 = Z) : RowI (w.alloc (.cells Z 39)) w.heap.size Z81 0 ∧ Below w.heap.size w (w.alloc (.cells Z 39)) := by
  subst hZ
  exact ⟨⟨Z81_len, heap_alloc_new w _⟩, (Below.refl _ _).alloc (Nat.le_refl _) _⟩
end Go.Proofs.Ytkpcocdflcpnoaa

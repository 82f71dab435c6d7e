/-
  The contracts of impl's addRows and AddGreat.
-/
import Derived.Test.YtkpcocdflcpnoaaIBits
import Derived.Test.YtkpcocdflcpnoaaIGreat
import Derived.Test.YtkpcocdflcpnoaaISmall
import Derived.RegionTactic
import Derived.BigRegion
import Derived.Deep.RegionHeld3
import Derived.Deep.DrawnRows
namespace Go.Proofs.Ytkpcocdflcpnoaa
open Go.RowKit
attribute [local go_sem ↓] Go.wp_at_zero Go.wp_at_succ

theorem W.lV_take_all {l : List Nat} {m : Nat} (hz : ∀ k, m ≤ k → l.getD k 0 = 0) : W.lV (l.take m) = W.lV l := by
  rw [W.lV_split l m, W.lV_zeros (l := l.drop m) (fun x hx => by
    obtain ⟨i, hi, rfl⟩ := List.getElem_of_mem hx
    rw [List.length_drop] at hi
    have := hz (m + i) (by omega)
    rw [W.getD_eq (by omega)] at this
    rw [List.getElem_drop]; exact this)]
  omega
structure AddW (lx ly : List Nat) (i c : Nat) (l : List Nat) : Prop where
  lim : W.Limbs l
  len : l.length = 81
  val : W.lV l + 4294967296 ^ i * c = W.lV (lx.take i) + W.lV (ly.take i)
  zero : ∀ k, i ≤ k → l.getD k 0 = 0
  c1 : c ≤ 1
theorem AddW.start (lx ly : List Nat) : AddW lx ly 0 0 Z81 := ⟨Z81_lim, Z81_len, by rw [Z81_val]; simp [W.lV], fun k _ => Z81_getD k, by omega⟩
theorem AddW.next {lx ly l : List Nat} {i c n p q : Nat} (h : AddW lx ly i c l) (hi : i < 81) (Lx : W.Limbs lx) (Ly : W.Limbs ly) (hn : lx.getD i 0 + ly.getD i 0 + c = n) (hp : n % 4294967296 = p) (hq : n / 4294967296 = q) : AddW lx ly (i + 1) q (l.set i p) := by
  have hs := W.lV_set l i p (by rw [h.len]; exact hi)
  have bx := W.getD_lt Lx i
  have by_ := W.getD_lt Ly i
  have hc := h.c1
  refine ⟨h.lim.set _ (by omega), by rw [List.length_set]; exact h.len, ?_, fun k hk => by rw [W.getD_set_ne _ (by omega)]; exact h.zero k (by omega), by omega⟩
  rw [h.zero i (Nat.le_refl _), Nat.mul_zero, Nat.add_zero] at hs
  have hv := h.val
  rw [W.lV_take_succ, W.lV_take_succ, hs, Nat.pow_succ, Nat.mul_assoc]
  have e : 4294967296 ^ i * p + 4294967296 ^ i * (4294967296 * q) = 4294967296 ^ i * lx.getD i 0 + 4294967296 ^ i * ly.getD i 0 + 4294967296 ^ i * c := by
    rw [← Nat.mul_add, ← Nat.mul_add, ← Nat.mul_add]; congr 1; omega
  omega
theorem AddW.done {lx ly l : List Nat} {m c : Nat} (h : AddW lx ly m c l) (hm : m < 81) (zx : ∀ k, m ≤ k → lx.getD k 0 = 0) (zy : ∀ k, m ≤ k → ly.getD k 0 = 0) :
    W.lV (l.set m c) = W.lV lx + W.lV ly ∧ W.Limbs (l.set m c) ∧ (l.set m c).length = 81 ∧ ∀ k, m + 1 ≤ k → (l.set m c).getD k 0 = 0 := by
  have hs := W.lV_set l m c (by rw [h.len]; exact hm)
  rw [h.zero m (Nat.le_refl _), Nat.mul_zero, Nat.add_zero] at hs
  have hc := h.c1
  refine ⟨?_, h.lim.set _ (by omega), by rw [List.length_set]; exact h.len, fun k hk => by rw [W.getD_set_ne _ (by omega)]; exact h.zero k (by omega)⟩
  rw [hs, h.val, W.lV_take_all zx, W.lV_take_all zy]

end Go.Proofs.Ytkpcocdflcpnoaa

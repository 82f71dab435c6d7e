/-
  The contract of impl's mulRows.
-/
import Derived.Test.YtkpcocdflcpnoaaIAdd
namespace Go.Proofs.Ytkpcocdflcpnoaa
open Go.RowKit

structure MulW (lx ly : List Nat) (cy i : Nat) (l : List Nat) : Prop where
  lim : W.Limbs l
  len : l.length = 81
  val : W.lV l = W.lV (lx.take i) * W.lV ly
  zero : ∀ k, i + cy ≤ k → l.getD k 0 = 0
theorem MulW.start (lx ly : List Nat) (cy : Nat) : MulW lx ly cy 0 Z81 := ⟨Z81_lim, Z81_len, by rw [Z81_val]; simp [W.lV], fun k _ => Z81_getD k⟩
theorem MulW.inner {lx ly l : List Nat} {cy i : Nat} (h : MulW lx ly cy i l) : W.MulIn lx ly i l 0 0 l := ⟨h.lim, rfl, by simp [W.lV], fun _ _ => rfl⟩
theorem MulW.done {lx ly l Q : List Nat} {cy i c : Nat} (h : MulW lx ly cy i l) (k : W.MulIn lx ly i l cy c Q) (hi : i + cy < 81) (zy : ∀ k, cy ≤ k → ly.getD k 0 = 0) (hc : c < 4294967296) : MulW lx ly cy (i + 1) (Q.set (i + cy) c) := by
  obtain ⟨h1, h2, h3, h4⟩ := k
  have hz : Q.getD (i + cy) 0 = 0 := by rw [h4 _ (Nat.le_refl _)]; exact h.zero _ (Nat.le_refl _)
  refine ⟨h1.set _ hc, by rw [List.length_set, h2]; exact h.len, ?_, fun j hj => by rw [W.getD_set_ne _ (by omega), h4 j (by omega)]; exact h.zero j (by omega)⟩
  have hs := W.lV_set Q (i + cy) c (by rw [h2, h.len]; exact hi)
  rw [hz, Nat.mul_zero, Nat.add_zero] at hs
  rw [hs, h3, h.val, W.lV_take_all zy, W.lV_take_succ, Nat.add_mul, Nat.mul_comm (lx.getD i 0)]
theorem mul_bd {x y z c p s n : Nat} (hx : x < 4294967296) (hy : y < 4294967296) (hz : z < 4294967296) (hc : c < 4294967296) (hp : x * y = p) (hs : p + z = s) (hn : c + s = n) :
    ((x : Int) * (y : Int) = (p : Int)) ∧ IntKind.u64.wrap (p : Int) = (p : Int) ∧ IntKind.u64.wrap ((p : Int) + (z : Int)) = (s : Int) ∧ IntKind.u64.wrap ((c : Int) + (s : Int)) = (n : Int) ∧ n / 4294967296 < 4294967296 := by
  have h1 : p ≤ 4294967295 * 4294967295 := by rw [← hp]; exact Nat.mul_le_mul (by omega) (by omega)
  refine ⟨by rw [← hp]; simp, by rw [IntKind.wrap_u64]; omega, by rw [IntKind.wrap_u64]; omega, by rw [IntKind.wrap_u64]; omega, by omega⟩
theorem u64_of {x : Nat} (h : x < 4294967296) : IntKind.u64.wrap (x : Int) = (x : Int) := by rw [IntKind.wrap_u64]; omega
theorem u32_of {n y : Nat} (h : n % 4294967296 = y) : IntKind.u32.wrap (n : Int) = (y : Int) ∧ (n : Int) % 4294967296 = (y : Int) := by rw [IntKind.wrap_u32]; exact ⟨by omega, by omega⟩

end Go.Proofs.Ytkpcocdflcpnoaa

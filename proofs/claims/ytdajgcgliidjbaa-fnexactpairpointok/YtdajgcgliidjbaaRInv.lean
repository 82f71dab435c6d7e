import Derived.Test.YtdajgcgliidjbaaRRow
import Derived.Deep.LoopGhost
namespace Go.Proofs.Ytdajgcgliidjbaa
open Go.RowKit
structure InvRel (a n r s x y : Nat) : Prop where
  g : Nat.gcd r s = Nat.gcd n a
  xa : x * a % n = r % n
  ya : y * a % n = s % n
  xn : x < n
  yn : y < n
  rn : r ≤ n
  sn : s < n
theorem InvRel.start {a n : Nat} (ha : a < n) (hn : 1 < n) : InvRel a n n a 0 1 := ⟨rfl, by simp, by rw [Nat.one_mul], by omega, hn, Nat.le_refl _, ha⟩
theorem sub_mod_eq {x q y a n r s : Nat} (hn : 0 < n) (hx : x * a % n = r % n) (hy : y * a % n = s % n) (hle : q * s ≤ r) : (x + n - q % n * y % n) % n * a % n = (r - q * s) % n := by
  have hqy : q % n * y % n < n := Nat.mod_lt _ hn
  obtain ⟨t, ht⟩ : ∃ t, q % n * y % n = t := ⟨_, rfl⟩
  rw [ht] at hqy ⊢
  -- t * a is q * s, up to n
  have h1 : t * a % n = q * s % n := by
    rw [← ht, Nat.mod_mul_mod, Nat.mul_assoc, Nat.mul_mod, Nat.mod_mod, hy, ← Nat.mul_mod]
  have h2 : ((x + n - t) * a + t * a) % n = r % n := by
    rw [← Nat.add_mul, show x + n - t + t = x + n from by omega, Nat.add_mul, Nat.add_mul_mod_self_left, hx]
  rw [Nat.mod_mul_mod]
  -- cancel t * a
  have h4 : ((x + n - t) * a % n + q * s % n) % n = r % n := by rw [← h1, ← Nat.add_mod, h2]
  have h5 : ((r - q * s) % n + q * s % n) % n = r % n := by rw [← Nat.add_mod, Nat.sub_add_cancel hle]
  have h3 := h4.trans h5.symm
  have c : ∀ u v m : Nat, u < n → v < n → (u + m) % n = (v + m) % n → u = v := by
    intro u v m hu hv e
    have e1 := Nat.div_add_mod (u + m) n
    have e2 := Nat.div_add_mod (v + m) n
    rw [e] at e1
    rcases Nat.lt_trichotomy ((u + m) / n) ((v + m) / n) with h | h | h
    · have : n * ((u + m) / n) + n ≤ n * ((v + m) / n) := by rw [← Nat.mul_succ]; exact Nat.mul_le_mul_left _ h
      omega
    · rw [h] at e1; omega
    · have : n * ((v + m) / n) + n ≤ n * ((u + m) / n) := by rw [← Nat.mul_succ]; exact Nat.mul_le_mul_left _ h
      omega
  exact c _ _ _ (Nat.mod_lt _ hn) (Nat.mod_lt _ hn) h3
theorem InvRel.next {a n r s x y : Nat} (h : InvRel a n r s x y) (hn : 1 < n) (hs : 0 < s) : InvRel a n s (r % s) y ((x + n - r / s % n * y % n) % n) := by
  refine ⟨by rw [← h.g, Nat.gcd_comm s, ← Nat.gcd_rec, Nat.gcd_comm], h.ya, ?_, h.yn, Nat.mod_lt _ (by omega), Nat.le_of_lt h.sn, Nat.lt_trans (Nat.mod_lt _ hs) h.sn⟩
  have e : r % s = r - r / s * s := by have := Nat.div_add_mod r s; rw [Nat.mul_comm] at this; omega
  rw [e]
  exact sub_mod_eq (by omega) h.xa h.ya (Nat.div_mul_le_self r s)
end Go.Proofs.Ytdajgcgliidjbaa

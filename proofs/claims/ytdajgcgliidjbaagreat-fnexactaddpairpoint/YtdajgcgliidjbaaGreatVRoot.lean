import Derived.Test.YtdajgcgliidjbaaGreatUBase
import Derived.Test.YtdajgcgliidjbaaGreatQMath
namespace Go.Proofs.YtdajgcgliidjbaaGreat
theorem int_two {p : Nat} (h : Prm p) (h4 : p % 4 = 3) {z : Gz} (hd : (p : Int) ∣ gn z) : (p : Int) ∣ z.1 ∧ (p : Int) ∣ z.2 := by
 have e : gn z = ((z.1.natAbs * z.1.natAbs + z.2.natAbs * z.2.natAbs : Nat) : Int) := by
  unfold gn
  push_cast
  rw [Int.natAbs_mul_self', Int.natAbs_mul_self']
 rw [e] at hd
 have h2 := h.two_squares h4 (Int.ofNat_dvd.1 hd)
 exact ⟨Int.ofNat_dvd_left.2 h2.1, Int.ofNat_dvd_left.2 h2.2⟩
theorem Prm.gm_zero {p : Nat} (h : Prm p) (h4 : p % 4 = 3) {u v : Gz} (hz : GC (p : Int) (gm u v) (0, 0)) : GC (p : Int) u (0, 0) ∨ GC (p : Int) v (0, 0) := by
 have hn : (p : Int) ∣ gn (gm u v) := by
  obtain ⟨⟨c, hc⟩, ⟨d, hd⟩⟩ := hz
  simp only [Int.sub_zero] at hc hd
  refine ⟨c * (gm u v).1 + d * (gm u v).2, ?_⟩
  unfold gn
  rw [hc, hd]; grind
 rw [gn_gm] at hn
 have h1 : p ∣ (gn u * gn v).natAbs := Int.ofNat_dvd_left.1 hn
 rw [Int.natAbs_mul] at h1
 rcases h.split h1 with h2 | h2
 ·left
  have := int_two h h4 (Int.ofNat_dvd_left.2 h2)
  exact ⟨by simpa using this.1, by simpa using this.2⟩
 ·right
  have := int_two h h4 (Int.ofNat_dvd_left.2 h2)
  exact ⟨by simpa using this.1, by simpa using this.2⟩
theorem pair_two_roots {p : Nat} (h : Prm p) (h4 : p % 4 = 3) {y z : Pn} (hy : InP2 p y) (hz : InP2 p z) (he : mulP p y y = mulP p z z) : y = z ∨ y = negP p z := by
 have hp : 0 < p := by have := h.1; omega
 rw [mulP_pr hp, mulP_pr hp] at he
 have g : GC (p : Int) (gm (toZ y) (toZ y)) (gm (toZ z) (toZ z)) := (prP_gc hp _).symm.trans (he ▸ prP_gc hp _)
 have g2 : GC (p : Int) (gm ((y.1 : Int) - z.1, (y.2 : Int) - z.2) ((y.1 : Int) + z.1, (y.2 : Int) + z.2)) (0, 0) := by
  obtain ⟨⟨c, hc⟩, ⟨d, hd⟩⟩ := g
  simp only [gm, toZ] at hc hd
  exact ⟨⟨c, by simp only [gm]; grind⟩, ⟨d, by simp only [gm]; grind⟩⟩
 rcases h.gm_zero h4 g2 with ⟨a, b⟩ | ⟨a, b⟩
 ·left
  have e1 := prN_eq (n := p) (s := (y.1 : Int)) (t := (z.1 : Int)) (by simpa using a)
  have e2 := prN_eq (n := p) (s := (y.2 : Int)) (t := (z.2 : Int)) (by simpa using b)
  rw [prN_nat, prN_nat, Nat.mod_eq_of_lt hy.1, Nat.mod_eq_of_lt hz.1] at e1
  rw [prN_nat, prN_nat, Nat.mod_eq_of_lt hy.2, Nat.mod_eq_of_lt hz.2] at e2
  cases y; cases z; simp_all
 ·right
  have e1 := prN_eq (n := p) (s := (y.1 : Int)) (t := ((0 : Nat) : Int) - (z.1 : Int)) (by obtain ⟨c, hc⟩ := a; exact ⟨c, by simp only [Int.sub_zero] at hc; rw [← hc]; simp⟩)
  have e2 := prN_eq (n := p) (s := (y.2 : Int)) (t := ((0 : Nat) : Int) - (z.2 : Int)) (by obtain ⟨c, hc⟩ := b; exact ⟨c, by simp only [Int.sub_zero] at hc; rw [← hc]; simp⟩)
  rw [prN_nat, prN_sub (Nat.le_of_lt hz.1), Nat.mod_eq_of_lt hy.1] at e1
  rw [prN_nat, prN_sub (Nat.le_of_lt hz.2), Nat.mod_eq_of_lt hy.2] at e2
  exact Prod.ext e1 e2
end Go.Proofs.YtdajgcgliidjbaaGreat
namespace Go.Proofs.YtdajgcgliidjbaaGreat
theorem against {n a : Nat} (h0 : 0 < a) (ha : a < n) (ho : n % 2 = 1) : (0 + n - a) % n = n - a ∧ decide ((0 + n - (n - a)) % n < n - a) = !decide (n - a < a) := by
 have e1 : (0 + n - a) % n = n - a := by rw [Nat.zero_add, Nat.mod_eq_of_lt (by omega)]
 have e2 : (0 + n - (n - a)) % n = a := by
  rw [Nat.zero_add, show n - (n - a) = a from by omega, Nat.mod_eq_of_lt ha]
 refine ⟨e1, ?_⟩
 rw [e2]
 by_cases h : n - a < a
 ·rw [decide_eq_true h, decide_eq_false (by omega)]; rfl
 ·rw [decide_eq_false h, decide_eq_true (by omega)]; rfl
end Go.Proofs.YtdajgcgliidjbaaGreat

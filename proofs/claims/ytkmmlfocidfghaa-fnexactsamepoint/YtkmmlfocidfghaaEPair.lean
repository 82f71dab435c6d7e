import Derived.Test.YtkmmlfocidfghaaEGrp
import Derived.Test.YtkmmlfocidfghaaUInvs
import Derived.Test.YtkmmlfocidfghaaYMath
namespace Go.Proofs.Ytkmmlfocidfghaa
open Go.RowKit
abbrev PF (p : Nat) : Type := {x : Pn // InP2 p x}
theorem addP_comm (n : Nat) (x y : Pn) : addP n x y = addP n y x := by unfold addP; rw [Nat.add_comm x.1, Nat.add_comm x.2]
theorem addP_assoc (n : Nat) (x y z : Pn) : addP n (addP n x y) z = addP n x (addP n y z) := by
  unfold addP
  refine Prod.ext ?_ ?_
  · show ((x.1 + y.1) % n + z.1) % n = (x.1 + (y.1 + z.1) % n) % n
    rw [Nat.mod_add_mod, Nat.add_mod_mod, Nat.add_assoc]
  · show ((x.2 + y.2) % n + z.2) % n = (x.2 + (y.2 + z.2) % n) % n
    rw [Nat.mod_add_mod, Nat.add_mod_mod, Nat.add_assoc]
theorem addP_none {n : Nat} {x : Pn} (h : InP2 n x) : addP n x (0, 0) = x := Prod.ext (Nat.mod_eq_of_lt h.1) (Nat.mod_eq_of_lt h.2)
theorem mulP_one {n : Nat} {x : Pn} (h : InP2 n x) : mulP n x (1, 0) = x := by
  unfold mulP
  refine Prod.ext ?_ ?_
  · show (x.1 * 1 % n + n - x.2 * 0 % n) % n = x.1
    rw [Nat.mul_one, Nat.mul_zero, Nat.zero_mod, Nat.sub_zero, Nat.add_mod_right, Nat.mod_mod, Nat.mod_eq_of_lt h.1]
  · show (x.1 * 0 % n + x.2 * 1 % n) % n = x.2
    rw [Nat.mul_zero, Nat.zero_mod, Nat.zero_add, Nat.mul_one, Nat.mod_mod, Nat.mod_eq_of_lt h.2]
theorem subP_neg {n : Nat} {x y : Pn} (hy : InP2 n y) : subP n x y = addP n x (negP n y) := by
  obtain ⟨h1, h2⟩ := hy
  unfold subP addP negP subP
  refine Prod.ext ?_ ?_
  · show (x.1 + n - y.1) % n = (x.1 + (0 + n - y.1) % n) % n
    rw [Nat.add_mod_mod, show x.1 + (0 + n - y.1) = x.1 + n - y.1 by omega]
  · show (x.2 + n - y.2) % n = (x.2 + (0 + n - y.2) % n) % n
    rw [Nat.add_mod_mod, show x.2 + (0 + n - y.2) = x.2 + n - y.2 by omega]
theorem norm_none {p : Nat} (h : Prm p) (h4 : p % 4 = 3) {x : Pn} (hx : InP2 p x) (hd : p ∣ normP p x) : x = (0, 0) := by
  have h0 : 0 < p := by have := h.1; omega
  have e : (x.1 * x.1 + x.2 * x.2) % p = 0 := by
    have k := Nat.eq_zero_of_dvd_of_lt hd (Nat.mod_lt _ h0)
    unfold normP at k
    rw [← Nat.add_mod] at k
    exact k
  obtain ⟨d1, d2⟩ := h.two_squares h4 (Nat.dvd_of_mod_eq_zero e)
  exact Prod.ext (Nat.eq_zero_of_dvd_of_lt d1 hx.1) (Nat.eq_zero_of_dvd_of_lt d2 hx.2)
theorem gcd_norm {p : Nat} (h : Prm p) (h4 : p % 4 = 3) {x : Pn} (hx : InP2 p x) (hne : x ≠ (0, 0)) : Nat.gcd p (normP p x) = 1 := h.cop fun hd => hne (norm_none h h4 hx hd)
theorem mul_inv7 {p : Nat} (h : Prm p) (h4 : p % 4 = 3) {x : Pn} (hx : InP2 p x) (hne : x ≠ (0, 0)) : mulP p x (inv7 x p) = (1, 0) := by
  have hp := h.1
  have hg := gcd_norm h h4 hx hne
  unfold inv7
  rw [if_pos hg]
  exact mul_invP hp hx (inv_of (normP_lt (by omega) x) hp hg).2
/-- The field of pairs. -/
def pairF {p : Nat} (h : Prm p) (h4 : p % 4 = 3) : Fd (PF p) where
  add x y := ⟨addP p x.1 y.1, addP_in (by omega) _ _⟩
  mul x y := ⟨mulP p x.1 y.1, mulP_in (by omega) _ _⟩
  neg x := ⟨negP p x.1, negP_in (by omega) _⟩
  zero := ⟨(0, 0), zero_in (by omega)⟩
  one := ⟨(1, 0), by have := h.1; exact ⟨by show 1 < p; omega, by show 0 < p; omega⟩⟩
  inv x := ⟨inv7 x.1 p, inv7_in (by omega)⟩
  add_comm x y := Subtype.ext (addP_comm _ _ _)
  add_assoc x y z := Subtype.ext (addP_assoc _ _ _ _)
  add_zero x := Subtype.ext (addP_none x.2)
  add_neg x := Subtype.ext (add_negP (by omega) x.2)
  mul_comm x y := Subtype.ext (mulP_comm (by omega) _ _)
  mul_assoc x y z := Subtype.ext (mulP_assoc (by omega) x.2 z.2)
  mul_one x := Subtype.ext (mulP_one x.2)
  mul_add x y z := Subtype.ext (mulP_addP (by omega) x.2)
  mul_inv x hx := Subtype.ext (mul_inv7 h h4 x.2 fun e => hx (Subtype.ext e))
  two_ne e := by
    have k : (1 + 1) % p = 0 := congrArg (fun x : PF p => x.1.1) e
    have h3 : 3 ≤ p := by omega
    rw [Nat.mod_eq_of_lt (by omega)] at k
    omega
/-! Sums of points, as numbers. -/
abbrev P2 := Option (Pn × Pn)
def lineP (p : Nat) (A B : Pn × Pn) (u d : Pn) : Pn × Pn :=
  (subP p (subP p (mulP p (mulP p u (inv7 d p)) (mulP p u (inv7 d p))) A.1) B.1,
   subP p (mulP p (mulP p u (inv7 d p)) (subP p A.1 (subP p (subP p (mulP p (mulP p u (inv7 d p)) (mulP p u (inv7 d p))) A.1) B.1))) A.2)
def tripleP (p : Nat) (x : Pn) : Pn := addP p (addP p (mulP p x x) (mulP p x x)) (mulP p x x)
def plusP (p : Nat) : P2 → P2 → P2
  | none, Q => Q
  | some A, none => some A
  | some A, some B => if subP p B.1 A.1 = (0, 0) then (if A.2 = (0, 0) ∨ subP p B.2 A.2 ≠ (0, 0) then none else some (lineP p A B (tripleP p A.1) (addP p A.2 A.2))) else some (lineP p A B (subP p B.2 A.2) (subP p B.1 A.1))
def minusP (p : Nat) : P2 → P2
  | none => none
  | some A => some (A.1, negP p A.2)
def onP (p : Nat) (b : Pn) : P2 → Prop
  | none => True
  | some A => InP2 p A.1 ∧ InP2 p A.2 ∧ mulP p A.2 A.2 = rightP p b A.1
section
variable {p : Nat} (h : Prm p) (h4 : p % 4 = 3)
def numsP (Q : Option (PF p × PF p)) : P2 := Q.map fun A => (A.1.1, A.2.1)
theorem sub_val (x y : PF p) : ((pairF h h4).sub x y).1 = subP p x.1 y.1 := (subP_neg y.2).symm
theorem sub_none (h : Prm p) (h4 : p % 4 = 3) {x y : PF p} : subP p x.1 y.1 = (0, 0) ↔ x = y := by
  refine ⟨fun e => (pairF h h4).sub_eq (Subtype.ext ((sub_val h h4 x y).trans e)), fun e => ?_⟩
  rw [e, ← sub_val h h4 y y, (pairF h h4).sub_self]
  rfl
theorem line_val (A B : PF p × PF p) (u d : PF p) (m : PF p) (hm : m = (pairF h h4).mul u ((pairF h h4).inv d)) : ((((pairF h h4).third A B m)).1.1, (((pairF h h4).third A B m)).2.1) = lineP p (A.1.1, A.2.1) (B.1.1, B.2.1) u.1 d.1 := by
  subst hm
  unfold Fd.third Fd.thirdX lineP
  refine Prod.ext ?_ ?_
  · simp only [sub_val]
    rfl
  · simp only [sub_val]
    rw [show ∀ x y : PF p, ((pairF h h4).mul x y).1 = mulP p x.1 y.1 from fun _ _ => rfl, sub_val, sub_val, sub_val]
    rfl
theorem plus_val (P Q : Option (PF p × PF p)) : numsP ((pairF h h4).plus P Q) = plusP p (numsP P) (numsP Q) := by
  cases P with
  | none => rfl
  | some A =>
    cases Q with
    | none => rfl
    | some B =>
      show numsP (if A.1 = B.1 ∧ (A.2 = (pairF h h4).zero ∨ A.2 ≠ B.2) then none else some ((pairF h h4).third A B ((pairF h h4).slope A B))) = plusP p (some (A.1.1, A.2.1)) (some (B.1.1, B.2.1))
      unfold plusP
      simp only
      by_cases hx : A.1 = B.1
      · rw [if_pos ((sub_none h h4).2 hx.symm)]
        by_cases hy : A.2 = (pairF h h4).zero ∨ A.2 ≠ B.2
        · rw [if_pos ⟨hx, hy⟩, if_pos]
          · rfl
          · rcases hy with hy | hy
            · exact .inl (congrArg Subtype.val hy)
            · exact .inr fun e => hy ((sub_none h h4).1 e).symm
        · rw [if_neg (fun k => hy k.2), if_neg]
          · refine congrArg some ((line_val h h4 A B _ _ _ (by unfold Fd.slope; rw [if_pos hx])).trans ?_)
            rfl
          · rintro (k | k)
            · exact hy (.inl (Subtype.ext k))
            · exact k ((sub_none h h4).2 (Classical.byContradiction fun e => hy (.inr fun e2 => e e2.symm)))
      · rw [if_neg (fun k => hx k.1), if_neg (fun k => hx ((sub_none h h4).1 k).symm)]
        refine congrArg some ((line_val h h4 A B _ _ _ (by unfold Fd.slope; rw [if_neg hx])).trans ?_)
        rw [sub_val, sub_val]
theorem minus_val (P : Option (PF p × PF p)) : numsP ((pairF h h4).minus P) = minusP p (numsP P) := by cases P <;> rfl
theorem on_val {b : PF p} {P : Option (PF p × PF p)} : (pairF h h4).OnO b P ↔ onP p b.1 (numsP P) := by
  cases P with
  | none => exact Iff.rfl
  | some A => exact ⟨fun e => ⟨A.1.2, A.2.2, congrArg Subtype.val e⟩, fun e => Subtype.ext e.2.2⟩
theorem of_on {b : Pn} {P : P2} (hP : onP p b P) : ∃ Q : Option (PF p × PF p), numsP Q = P := by
  cases P with
  | none => exact ⟨none, rfl⟩
  | some A => exact ⟨some (⟨A.1, hP.1⟩, ⟨A.2, hP.2.1⟩), rfl⟩
end
/-- What is known of sums of points. -/
structure SumLaws (p : Nat) (b : Pn) : Prop where
  on : ∀ {P Q : P2}, onP p b P → onP p b Q → onP p b (plusP p P Q)
  neg : ∀ {P : P2}, onP p b P → onP p b (minusP p P)
  comm : ∀ {P Q : P2}, onP p b P → onP p b Q → plusP p P Q = plusP p Q P
  assoc : ∀ {P Q R : P2}, onP p b P → onP p b Q → onP p b R → plusP p (plusP p P Q) R = plusP p P (plusP p Q R)
  against : ∀ {P : P2}, onP p b P → plusP p P (minusP p P) = none
  none : ∀ P : P2, plusP p P none = P
  twice : ∀ {P : P2}, onP p b P → minusP p (minusP p P) = P
  odd : ∀ {A : Pn × Pn}, onP p b (some A) → A.2 ≠ (0, 0)
theorem sum_laws {p : Nat} (h : Prm p) (h4 : p % 4 = 3) {b : PF p} (ho : (pairF h h4).Odd b) : SumLaws p b.1 := by
  refine ⟨?_, ?_, ?_, ?_, ?_, ?_, ?_, ?_⟩
  · intro P Q hP hQ
    obtain ⟨P, rfl⟩ := of_on hP
    obtain ⟨Q, rfl⟩ := of_on hQ
    rw [← plus_val h h4]
    exact (on_val h h4).1 (Fd.plus_on ho ((on_val h h4).2 hP) ((on_val h h4).2 hQ))
  · intro P hP
    obtain ⟨P, rfl⟩ := of_on hP
    rw [← minus_val h h4]
    exact (on_val h h4).1 (Fd.minus_on _ ((on_val h h4).2 hP))
  · intro P Q hP hQ
    obtain ⟨P, rfl⟩ := of_on hP
    obtain ⟨Q, rfl⟩ := of_on hQ
    rw [← plus_val h h4, ← plus_val h h4, Fd.plus_comm ho ((on_val h h4).2 hP) ((on_val h h4).2 hQ)]
  · intro P Q R hP hQ hR
    obtain ⟨P, rfl⟩ := of_on hP
    obtain ⟨Q, rfl⟩ := of_on hQ
    obtain ⟨R, rfl⟩ := of_on hR
    rw [← plus_val h h4, ← plus_val h h4, ← plus_val h h4, ← plus_val h h4, Fd.plus_assoc ho ((on_val h h4).2 hP) ((on_val h h4).2 hQ) ((on_val h h4).2 hR)]
  · intro P hP
    obtain ⟨P, rfl⟩ := of_on hP
    rw [← minus_val h h4, ← plus_val h h4, Fd.plus_minus ho ((on_val h h4).2 hP)]
    rfl
  · intro P; cases P <;> rfl
  · intro P hP
    obtain ⟨P, rfl⟩ := of_on hP
    rw [← minus_val h h4, ← minus_val h h4, Fd.minus_minus]
  · intro A hA e
    obtain ⟨Q, hQ⟩ := of_on hA
    cases Q with
    | none => cases hQ
    | some B =>
      have eA : (B.1.1, B.2.1) = A := Option.some.inj hQ
      rw [← eA] at hA e
      exact ho B ((on_val h h4 (P := some B)).2 hA) (Subtype.ext e)
/-- The norm of what is added at the end is no cube. -/
theorem odd_of {p : Nat} (h : Prm p) (h4 : p % 4 = 3) {b : PF p} (f : Nat) (h3 : p % 3 = 1) (hf : (p - 1) / 3 < 2 ^ f) (hc : pm p f (normP p b.1) ((p - 1) / 3) ≠ 1 ∧ pm p f (normP p b.1) ((p - 1) / 3) ≠ 0) : (pairF h h4).Odd b := by
  intro q hq e
  have h0 : 0 < p := by omega
  have e1 : (pairF h h4).mul ((pairF h h4).mul ((pairF h h4).neg q.1) ((pairF h h4).neg q.1)) ((pairF h h4).neg q.1) = b := by
    have k : (pairF h h4).mul q.2 q.2 = (pairF h h4).add ((pairF h h4).mul ((pairF h h4).mul q.1 q.1) q.1) b := hq
    rw [e] at k
    rw [(pairF h h4).mul_zero] at k
    have k2 := (pairF h h4).neg_of k.symm
    rw [k2]
    exact (pairF h h4).ring (fun _ => q.1) (.m (.m (.n (.v 0)) (.n (.v 0))) (.n (.v 0))) (.n (.m (.m (.v 0) (.v 0)) (.v 0))) (by kernel_rfl)
  have e2 : mulP p (mulP p (negP p q.1.1) (negP p q.1.1)) (negP p q.1.1) = b.1 := congrArg Subtype.val e1
  generalize negP p q.1.1 = y at *
  have e3 : normP p b.1 = normP p y * normP p y % p * normP p y % p := by rw [← e2, normP_mul h0, normP_mul h0]
  rw [pm_eq _ _ _ _ hf, e3] at hc
  generalize normP p y = n at *
  have e4 : (n * n % p * n % p) ^ ((p - 1) / 3) % p = n ^ (p - 1) % p := by
    rw [← Nat.pow_mod, Nat.pow_mod (n * n % p * n), Nat.mul_mod, Nat.mod_mod, ← Nat.mul_mod, ← Nat.pow_mod, show n * n * n = n ^ 3 by rw [Nat.pow_succ, Nat.pow_succ, Nat.pow_one], ← Nat.pow_mul, show 3 * ((p - 1) / 3) = p - 1 by omega]
  rw [e4] at hc
  by_cases hd : p ∣ n
  · refine hc.2 ?_
    have hp1 : 0 < p - 1 := by have := h.1; omega
    exact Nat.mod_eq_zero_of_dvd (Nat.dvd_trans hd (Nat.dvd_trans (by rw [Nat.pow_one]; exact Nat.dvd_refl n : n ∣ n ^ 1) (Nat.pow_dvd_pow n (by omega))))
  · exact hc.1 (h.fermat1 hd)
/-- On the four curves, and over pairs, points are added in any order. -/
structure CurveSums (id : Int) : Prop where
  prm : Prm (gV (cvPT id))
  m4 : gV (cvPT id) % 4 = 3
  base : SumLaws (gV (cvPT id)) (gV (cvBT id), 0)
  pair : SumLaws (gV (cvPT id)) (valP (cvKT id))
theorem curve_sums {id : Int} (h : cvB id = true) : CurveSums id := by
  have hp := (primeB_p (curve_says h).p).2.prm
  have k : gV (cvPT id) % 4 = 3 ∧ gV (cvPT id) % 3 = 1 ∧ (gV (cvPT id) - 1) / 3 < 2 ^ 400 ∧ gV (cvBT id) < gV (cvPT id) ∧ (valP (cvKT id)).1 < gV (cvPT id) ∧ (valP (cvKT id)).2 < gV (cvPT id) ∧
      (pm (gV (cvPT id)) 400 (normP (gV (cvPT id)) (gV (cvBT id), 0)) ((gV (cvPT id) - 1) / 3) ≠ 1 ∧ pm (gV (cvPT id)) 400 (normP (gV (cvPT id)) (gV (cvBT id), 0)) ((gV (cvPT id) - 1) / 3) ≠ 0) ∧
      (pm (gV (cvPT id)) 400 (normP (gV (cvPT id)) (valP (cvKT id))) ((gV (cvPT id) - 1) / 3) ≠ 1 ∧ pm (gV (cvPT id)) 400 (normP (gV (cvPT id)) (valP (cvKT id))) ((gV (cvPT id) - 1) / 3) ≠ 0) := by
    rcases four_ids h with rfl | rfl | rfl | rfl
    · exact ⟨by decide +kernel, by decide +kernel, by decide +kernel, by decide +kernel, by decide +kernel, by decide +kernel, by decide +kernel, by decide +kernel⟩
    · exact ⟨by decide +kernel, by decide +kernel, by decide +kernel, by decide +kernel, by decide +kernel, by decide +kernel, by decide +kernel, by decide +kernel⟩
    · exact ⟨by decide +kernel, by decide +kernel, by decide +kernel, by decide +kernel, by decide +kernel, by decide +kernel, by decide +kernel, by decide +kernel⟩
    · exact ⟨by decide +kernel, by decide +kernel, by decide +kernel, by decide +kernel, by decide +kernel, by decide +kernel, by decide +kernel, by decide +kernel⟩
  obtain ⟨k4, k3, kf, kb, kk1, kk2, c1, c2⟩ := k
  have h0 : 0 < gV (cvPT id) := by have := hp.1; omega
  exact ⟨hp, k4, sum_laws hp k4 (odd_of hp k4 (b := ⟨(gV (cvBT id), 0), kb, h0⟩) 400 k3 kf c1), sum_laws hp k4 (odd_of hp k4 (b := ⟨valP (cvKT id), kk1, kk2⟩) 400 k3 kf c2)⟩
end Go.Proofs.Ytkmmlfocidfghaa

import Derived.Test.YtkmmlfocidfghaaRLaw
import Derived.Test.YtkmmlfocidfghaaMAll
import Derived.Deep.RegionHeld3
import Derived.OrdersHeld
import Derived.Laws.Tables
/-
  What chapter 7 answers, as plain functions of numbers and texts, and plain facts of them.
-/
namespace Go.Proofs.Ytkmmlfocidfghaa
/-! Pairs of rests of n as numbers. -/
abbrev Pn := Nat × Nat
def toZ (x : Pn) : Gz := ((x.1 : Int), (x.2 : Int))
def prN (n : Nat) (t : Int) : Nat := (t % (n : Int)).toNat
def prP (n : Nat) (z : Gz) : Pn := (prN n z.1, prN n z.2)
theorem prN_cast {n : Nat} (h : 0 < n) (t : Int) : ((prN n t : Nat) : Int) = t % (n : Int) := Int.toNat_of_nonneg (Int.emod_nonneg _ (by omega))
theorem prN_lt {n : Nat} (h : 0 < n) (t : Int) : prN n t < n := by
  have h1 := prN_cast h t
  have h2 := Int.emod_lt_of_pos t (show (0 : Int) < (n : Int) by omega)
  omega
theorem prN_dvd {n : Nat} (h : 0 < n) (t : Int) : (n : Int) ∣ ((prN n t : Nat) : Int) - t := by
  rw [prN_cast h]
  exact ⟨-(t / (n : Int)), by have := Int.mul_ediv_add_emod t (n : Int); grind⟩
theorem prN_eq {n : Nat} {s t : Int} (h : (n : Int) ∣ s - t) : prN n s = prN n t := by
  unfold prN
  rw [Int.emod_eq_emod_iff_emod_sub_eq_zero.2 (Int.emod_eq_zero_of_dvd h)]
theorem prN_nat (n x : Nat) : prN n (x : Int) = x % n := by unfold prN; rw [← Int.natCast_emod, Int.toNat_natCast]
theorem prN_sub {n x y : Nat} (hy : y ≤ n) : prN n ((x : Int) - (y : Int)) = (x + n - y) % n := by
  rw [← prN_nat]
  refine prN_eq ⟨-1, ?_⟩
  rw [Int.natCast_sub (by omega)]
  push_cast
  omega
theorem prP_gc {n : Nat} (h : 0 < n) (z : Gz) : GC (n : Int) (toZ (prP n z)) z := ⟨prN_dvd h z.1, prN_dvd h z.2⟩
theorem prP_eq {n : Nat} {z y : Gz} (h : GC (n : Int) z y) : prP n z = prP n y := by unfold prP; rw [prN_eq h.a, prN_eq h.b]
theorem prP_of {n : Nat} {x : Pn} (h1 : x.1 < n) (h2 : x.2 < n) : prP n (toZ x) = x := by
  unfold prP toZ
  rw [prN_nat, prN_nat, Nat.mod_eq_of_lt h1, Nat.mod_eq_of_lt h2]
def addP (n : Nat) (x y : Pn) : Pn := ((x.1 + y.1) % n, (x.2 + y.2) % n)
def subP (n : Nat) (x y : Pn) : Pn := ((x.1 + n - y.1) % n, (x.2 + n - y.2) % n)
def mulP (n : Nat) (x y : Pn) : Pn := ((x.1 * y.1 % n + n - x.2 * y.2 % n) % n, (x.1 * y.2 % n + x.2 * y.1 % n) % n)
def normP (n : Nat) (x : Pn) : Nat := (x.1 * x.1 % n + x.2 * x.2 % n) % n
def negP (n : Nat) (x : Pn) : Pn := subP n (0, 0) x
def otherP (n : Nat) (x : Pn) : Pn := (x.1, (0 + n - x.2) % n)
def powP (n : Nat) (x : Pn) (k : Nat) : Pn := prP n (gpow (toZ x) k)
/-- Both are rests. -/
def InP2 (n : Nat) (x : Pn) : Prop := x.1 < n ∧ x.2 < n
theorem addP_pr (n : Nat) (x y : Pn) : addP n x y = prP n (ga (toZ x) (toZ y)) := by
  unfold addP prP ga toZ
  simp only
  rw [← prN_nat, ← prN_nat]
  push_cast
  rfl
theorem mulP_pr {n : Nat} (h : 0 < n) (x y : Pn) : mulP n x y = prP n (gm (toZ x) (toZ y)) := by
  unfold mulP prP gm toZ
  simp only
  have e : ∀ a b : Nat, (n : Int) ∣ ((a * b % n : Nat) : Int) - (a : Int) * (b : Int) := fun a b => by
    have := prN_dvd h ((a * b : Nat) : Int)
    rw [prN_nat] at this
    simpa using this
  obtain ⟨c1, k1⟩ := e x.1 y.1
  obtain ⟨c2, k2⟩ := e x.2 y.2
  obtain ⟨c3, k3⟩ := e x.1 y.2
  obtain ⟨c4, k4⟩ := e x.2 y.1
  have hl : x.2 * y.2 % n ≤ n := Nat.le_of_lt (Nat.mod_lt _ h)
  obtain ⟨A, hA⟩ : ∃ A, x.1 * y.1 % n = A := ⟨_, rfl⟩
  obtain ⟨B, hB⟩ : ∃ B, x.2 * y.2 % n = B := ⟨_, rfl⟩
  obtain ⟨C, hC⟩ : ∃ C, x.1 * y.2 % n = C := ⟨_, rfl⟩
  obtain ⟨D, hD⟩ : ∃ D, x.2 * y.1 % n = D := ⟨_, rfl⟩
  rw [hA] at k1 ⊢
  rw [hB] at k2 hl ⊢
  rw [hC] at k3 ⊢
  rw [hD] at k4 ⊢
  rw [← prN_sub hl, ← prN_nat n (C + D)]
  rw [prN_eq (s := (A : Int) - (B : Int)) (t := (x.1 : Int) * y.1 - x.2 * y.2) ⟨c1 - c2, by grind⟩]
  rw [prN_eq (s := ((C + D : Nat) : Int)) (t := (x.1 : Int) * y.2 + x.2 * y.1) ⟨c3 + c4, by push_cast; grind⟩]
theorem subP_pr {n : Nat} {x y : Pn} (hy : InP2 n y) : subP n x y = prP n ((x.1 : Int) - (y.1 : Int), (x.2 : Int) - (y.2 : Int)) := by
  unfold subP prP
  rw [← prN_sub (Nat.le_of_lt hy.1), ← prN_sub (Nat.le_of_lt hy.2)]
theorem normP_pr {n : Nat} (h : 0 < n) (x : Pn) : normP n x = prN n (gn (toZ x)) := by
  unfold normP gn toZ
  simp only
  have e : ∀ a b : Nat, (n : Int) ∣ ((a * b % n : Nat) : Int) - (a : Int) * (b : Int) := fun a b => by
    have := prN_dvd h ((a * b : Nat) : Int)
    rw [prN_nat] at this
    simpa using this
  obtain ⟨c1, k1⟩ := e x.1 x.1
  obtain ⟨c2, k2⟩ := e x.2 x.2
  obtain ⟨A, hA⟩ : ∃ A, x.1 * x.1 % n = A := ⟨_, rfl⟩
  obtain ⟨B, hB⟩ : ∃ B, x.2 * x.2 % n = B := ⟨_, rfl⟩
  rw [hA] at k1 ⊢
  rw [hB] at k2 ⊢
  rw [← prN_nat n (A + B)]
  rw [prN_eq (s := ((A + B : Nat) : Int)) (t := (x.1 : Int) * x.1 + x.2 * x.2) ⟨c1 + c2, by push_cast; grind⟩]
theorem addP_in {n : Nat} (h : 0 < n) (x y : Pn) : InP2 n (addP n x y) := ⟨Nat.mod_lt _ h, Nat.mod_lt _ h⟩
theorem mulP_in {n : Nat} (h : 0 < n) (x y : Pn) : InP2 n (mulP n x y) := ⟨Nat.mod_lt _ h, Nat.mod_lt _ h⟩
theorem subP_in {n : Nat} (h : 0 < n) (x y : Pn) : InP2 n (subP n x y) := ⟨Nat.mod_lt _ h, Nat.mod_lt _ h⟩
theorem powP_in {n : Nat} (h : 0 < n) (x : Pn) (k : Nat) : InP2 n (powP n x k) := ⟨prN_lt h _, prN_lt h _⟩
/-- What stands for whole pairs may be multiplied and added. -/
theorem mulP_of {n : Nat} (h : 0 < n) (z y : Gz) : mulP n (prP n z) (prP n y) = prP n (gm z y) := by
  rw [mulP_pr h]; exact prP_eq ((prP_gc h z).mul (prP_gc h y))
theorem mulP_left {n : Nat} (h : 0 < n) (x : Pn) (y : Gz) : mulP n x (prP n y) = prP n (gm (toZ x) y) := by
  rw [mulP_pr h]; exact prP_eq ((GC.refl _ _).mul (prP_gc h y))
theorem addP_of {n : Nat} (h : 0 < n) (z y : Gz) : addP n (prP n z) (prP n y) = prP n (ga z y) := by
  rw [addP_pr]; exact prP_eq ((prP_gc h z).add (prP_gc h y))
theorem mulP_comm {n : Nat} (h : 0 < n) (x y : Pn) : mulP n x y = mulP n y x := by rw [mulP_pr h, mulP_pr h, gm_comm]
theorem mulP_assoc {n : Nat} (h : 0 < n) {x y z : Pn} (hx : InP2 n x) (hz : InP2 n z) : mulP n (mulP n x y) z = mulP n x (mulP n y z) := by
  rw [mulP_pr h x y, mulP_pr h y z]
  conv => lhs; rw [← prP_of hz.1 hz.2]
  conv => rhs; rw [← prP_of hx.1 hx.2]
  rw [mulP_of h, mulP_of h, gm_assoc]
theorem mulP_addP {n : Nat} (h : 0 < n) {x y z : Pn} (hx : InP2 n x) : mulP n x (addP n y z) = addP n (mulP n x y) (mulP n x z) := by
  rw [mulP_pr h x y, mulP_pr h x z, addP_of h, addP_pr]
  conv => lhs; rw [← prP_of hx.1 hx.2]
  rw [mulP_of h, gm_ga]
theorem sub_addP {n : Nat} (h : 0 < n) {x y : Pn} (hx : InP2 n x) (hy : InP2 n y) : subP n (addP n x y) y = x := by
  unfold subP addP
  have e : ∀ a b : Nat, a < n → b < n → ((a + b) % n + n - b) % n = a := fun a b ha hb => by
    rcases Nat.lt_or_ge (a + b) n with h1 | h1
    · rw [Nat.mod_eq_of_lt h1, show a + b + n - b = a + n from by omega, Nat.add_mod_right, Nat.mod_eq_of_lt ha]
    · rw [Nat.mod_eq_sub_mod h1, Nat.mod_eq_of_lt (by omega : a + b - n < n), show a + b - n + n - b = a from by omega, Nat.mod_eq_of_lt ha]
  have := h
  rw [e _ _ hx.1 hy.1, e _ _ hx.2 hy.2]
theorem add_negP {n : Nat} (h : 0 < n) {x : Pn} (hx : InP2 n x) : addP n x (negP n x) = (0, 0) := by
  unfold addP negP subP
  have e : ∀ a : Nat, a < n → (a + (0 + n - a) % n) % n = 0 := fun a ha => by
    rw [Nat.add_mod_mod, show a + (0 + n - a) = n from by omega, Nat.mod_self]
  have := h
  simp only [e _ hx.1, e _ hx.2]
theorem normP_mul {n : Nat} (h : 0 < n) (x y : Pn) : normP n (mulP n x y) = normP n x * normP n y % n := by
  rw [normP_pr h, normP_pr h, normP_pr h, ← prN_nat, mulP_pr h]
  obtain ⟨c, hc⟩ := prN_dvd h (gn (toZ x))
  obtain ⟨d, hd⟩ := prN_dvd h (gn (toZ y))
  obtain ⟨⟨e, he⟩, ⟨f, hf⟩⟩ := prP_gc h (gm (toZ x) (toZ y))
  have hg := gn_gm (toZ x) (toZ y)
  push_cast
  generalize toZ (prP n (gm (toZ x) (toZ y))) = q at *
  generalize gm (toZ x) (toZ y) = r at *
  generalize gn (toZ x) = X at *
  generalize gn (toZ y) = Y at *
  generalize ((prN n X : Nat) : Int) = X' at *
  generalize ((prN n Y : Nat) : Int) = Y' at *
  unfold gn at *
  refine prN_eq ⟨e * (q.1 + r.1) + f * (q.2 + r.2) - c * Y' - X * d, ?_⟩
  grind
theorem mul_otherP {n : Nat} (h : 0 < n) {x : Pn} (hx : InP2 n x) : mulP n x (otherP n x) = (normP n x, 0) := by
  have e : otherP n x = prP n (gcj (toZ x)) := by
    unfold otherP prP gcj toZ
    have e1 : prN n (x.1 : Int) = x.1 := by rw [prN_nat, Nat.mod_eq_of_lt hx.1]
    have e2 : prN n (-(x.2 : Int)) = (0 + n - x.2) % n := by
      rw [← prN_sub (Nat.le_of_lt hx.2)]; congr 1; omega
    rw [e1, e2]
  rw [e, mulP_left h, normP_pr h, gm_gcj]
  show (prN n (gn (toZ x)), prN n 0) = _
  rw [show (0 : Int) = ((0 : Nat) : Int) from rfl, prN_nat, Nat.zero_mod]
/-! Powers. -/
theorem powP_zero {n : Nat} (h : 1 < n) (x : Pn) : powP n x 0 = (1, 0) := by
  show (prN n 1, prN n 0) = _
  rw [show (1 : Int) = ((1 : Nat) : Int) from rfl, show (0 : Int) = ((0 : Nat) : Int) from rfl, prN_nat, prN_nat, Nat.mod_eq_of_lt h, Nat.zero_mod]
theorem powP_add {n : Nat} (h : 0 < n) (x : Pn) (j k : Nat) : mulP n (powP n x j) (powP n x k) = powP n x (j + k) := by
  unfold powP; rw [mulP_of h, gpow_add]
theorem powP_one {n : Nat} {x : Pn} (hx : InP2 n x) : powP n x 1 = x := by
  show prP n (gm (1, 0) (toZ x)) = x
  rw [one_gm, prP_of hx.1 hx.2]
theorem powP_succ {n : Nat} (h : 0 < n) {x : Pn} (hx : InP2 n x) (k : Nat) : mulP n (powP n x k) x = powP n x (k + 1) := by
  rw [← powP_add h, powP_one hx]
/-- One round of squaring. -/
theorem powP_step {n : Nat} (h : 0 < n) {x a : Pn} (hx : InP2 n x) {b : Nat} (i N : Nat) (ha : a = powP n x (N / 2 ^ (i + 1))) (hb : b = N / 2 ^ i % 2) :
    (b = 1 → mulP n (mulP n a a) x = powP n x (N / 2 ^ i)) ∧ (b = 0 → mulP n a a = powP n x (N / 2 ^ i)) := by
  have e : N / 2 ^ i = 2 * (N / 2 ^ (i + 1)) + b := by
    rw [hb, Nat.pow_succ, ← Nat.div_div_eq_div_mul]; omega
  have e2 : mulP n a a = powP n x (2 * (N / 2 ^ (i + 1))) := by rw [ha, powP_add h]; congr 1; omega
  constructor
  · intro h1
    rw [e, h1, e2, powP_succ h hx]
  · intro h1
    rw [e, h1, Nat.add_zero, e2]
/-! Inverses. -/
def invP (n : Nat) (x : Pn) (m : Nat) : Pn := (x.1 * m % n, (0 + n - x.2) % n * m % n)
theorem mul_invP {n : Nat} (h : 1 < n) {x : Pn} (hx : InP2 n x) {m : Nat} (hm : m * normP n x % n = 1) : mulP n x (invP n x m) = (1, 0) := by
  have h0 : 0 < n := by omega
  have e : invP n x m = prP n (gk (m : Int) (gcj (toZ x))) := by
    unfold invP prP gk gcj toZ
    have e1 : prN n ((m : Int) * (x.1 : Int)) = x.1 * m % n := by rw [← prN_nat]; congr 1; push_cast; grind
    have e2 : prN n ((m : Int) * -(x.2 : Int)) = (0 + n - x.2) % n * m % n := by
      rw [← prN_nat]
      have k := prN_dvd h0 ((0 : Nat) - (x.2 : Int))
      rw [prN_sub (Nat.le_of_lt hx.2)] at k
      obtain ⟨c, hc⟩ := k
      refine prN_eq ⟨-(c * (m : Int)), ?_⟩
      push_cast
      push_cast at hc
      grind
    rw [e1, e2]
  rw [e, mulP_left h0]
  have e3 : gm (toZ x) (gk (m : Int) (gcj (toZ x))) = ((m : Int) * gn (toZ x), 0) := gz_ext (by simp only [gm, gk, gcj, gn]; grind) (by simp only [gm, gk, gcj]; grind)
  rw [e3]
  have hN := prN_dvd h0 (gn (toZ x))
  rw [← normP_pr h0] at hN
  obtain ⟨c, hc⟩ := hN
  have e4 : prN n ((m : Int) * gn (toZ x)) = 1 := by
    rw [← hm, ← prN_nat]
    refine prN_eq ⟨-(c * (m : Int)), ?_⟩
    push_cast
    grind
  show (prN n ((m : Int) * gn (toZ x)), prN n 0) = _
  rw [e4, show (0 : Int) = ((0 : Nat) : Int) from rfl, prN_nat, Nat.zero_mod]
/-! The prime as power. -/
theorem turnedP {p : Nat} (h : Prm p) (h4 : p % 4 = 3) {x : Pn} (hx : InP2 p x) : powP p x p = otherP p x := by
  have hp := h.1
  have t := prP_eq (h.turned h4 x.1 x.2)
  unfold powP otherP
  refine t.trans ?_
  unfold prP
  have e1 : prN p (x.1 : Int) = x.1 := by rw [prN_nat, Nat.mod_eq_of_lt hx.1]
  have e2 : prN p (-(x.2 : Int)) = (0 + p - x.2) % p := by
    rw [← prN_sub (Nat.le_of_lt hx.2)]; congr 1; omega
  rw [e1, e2]
theorem fullP {p : Nat} (h : Prm p) (h4 : p % 4 = 3) {x : Pn} (hx : InP2 p x) (hne : x ≠ (0, 0)) : powP p x (p * p - 1) = (1, 0) := by
  have hp := h.1
  have hd : ¬ (p ∣ x.1 ∧ p ∣ x.2) := fun ⟨d1, d2⟩ => by
    apply hne
    have z1 : x.1 = 0 := Nat.eq_zero_of_dvd_of_lt d1 hx.1
    have z2 : x.2 = 0 := Nat.eq_zero_of_dvd_of_lt d2 hx.2
    cases x; simp_all
  have t := prP_eq (h.full h4 hd)
  refine Eq.trans t ?_
  show (prN p 1, prN p 0) = _
  rw [show (1 : Int) = ((1 : Nat) : Int) from rfl, show (0 : Int) = ((0 : Nat) : Int) from rfl, prN_nat, prN_nat, Nat.mod_eq_of_lt hp, Nat.zero_mod]
end Go.Proofs.Ytkmmlfocidfghaa
/-
  What chapter 7 answers, as plain functions of the texts, and what its laws ask of them.
-/
namespace Go.Proofs.Ytkmmlfocidfghaa
abbrev Pt := ByteArray × ByteArray
def noP : Pt := (⟨#[]⟩, ⟨#[]⟩)
def valP (x : Pt) : Pn := (gV x.1, gV x.2)
def txtP (x : Pn) : Pt := (gS x.1, gS x.2)
def pairB (x : Pt) (p : ByteArray) : Bool := modB p && (restB x.1 p && restB x.2 p)
def twoPB (x y : Pt) (p : ByteArray) : Bool := pairB x p && pairB y p
def addPG (x y : Pt) (p : ByteArray) : Pt := if twoPB x y p then txtP (addP (gV p) (valP x) (valP y)) else noP
def subPG (x y : Pt) (p : ByteArray) : Pt := if twoPB x y p then txtP (subP (gV p) (valP x) (valP y)) else noP
def mulPG (x y : Pt) (p : ByteArray) : Pt := if twoPB x y p then txtP (mulP (gV p) (valP x) (valP y)) else noP
def normG (x : Pt) (p : ByteArray) : ByteArray := if pairB x p then gS (normP (gV p) (valP x)) else ⟨#[]⟩
def negPG (x : Pt) (p : ByteArray) : Pt := subPG noP x p
def otherPG (x : Pt) (p : ByteArray) : Pt := if pairB x p then (x.1, negR x.2 p) else noP
def powPG (x : Pt) (n p : ByteArray) : Pt := if pairB x p && okG n then txtP (powP (gV p) (valP x) (gV n)) else noP
def invPB (x : Pt) (p : ByteArray) : Bool := pairB x p && decide (Nat.gcd (gV p) (normP (gV p) (valP x)) = 1)
def invPG (x : Pt) (p : ByteArray) : Pt := if invPB x p then txtP (invP (gV p) (valP x) (invN (normP (gV p) (valP x)) (gV p))) else noP
theorem pairB_parts {x : Pt} {p : ByteArray} (h : pairB x p = true) : modB p = true ∧ restB x.1 p = true ∧ restB x.2 p = true := by simpa [pairB] using h
theorem pair_num {x : Pt} {p : ByteArray} (h : pairB x p = true) : InP2 (gV p) (valP x) ∧ x = txtP (valP x) := by
  obtain ⟨_, h1, h2⟩ := pairB_parts h
  obtain ⟨e1, l1⟩ := rest_num h1
  obtain ⟨e2, l2⟩ := rest_num h2
  exact ⟨⟨l1, l2⟩, Prod.ext e1 e2⟩
theorem val_txt (x : Pn) : valP (txtP x) = x := by unfold valP txtP; rw [gV_gS, gV_gS]
theorem pair_txt {x : Pn} {p : ByteArray} (hm : modB p = true) (hx : InP2 (gV p) x) : pairB (txtP x) p = true := by
  unfold pairB txtP
  rw [hm, rest_gS hm hx.1, rest_gS hm hx.2]; rfl
theorem mod_pos {p : ByteArray} (hm : modB p = true) : 0 < gV p := by have := (modB_parts hm).2; omega
theorem add_txt {x y : Pn} {p : ByteArray} (hm : modB p = true) (hx : InP2 (gV p) x) (hy : InP2 (gV p) y) : addPG (txtP x) (txtP y) p = txtP (addP (gV p) x y) := by
  unfold addPG twoPB; rw [pair_txt hm hx, pair_txt hm hy, val_txt, val_txt]; rfl
theorem sub_txt {x y : Pn} {p : ByteArray} (hm : modB p = true) (hx : InP2 (gV p) x) (hy : InP2 (gV p) y) : subPG (txtP x) (txtP y) p = txtP (subP (gV p) x y) := by
  unfold subPG twoPB; rw [pair_txt hm hx, pair_txt hm hy, val_txt, val_txt]; rfl
theorem mul_txt {x y : Pn} {p : ByteArray} (hm : modB p = true) (hx : InP2 (gV p) x) (hy : InP2 (gV p) y) : mulPG (txtP x) (txtP y) p = txtP (mulP (gV p) x y) := by
  unfold mulPG twoPB; rw [pair_txt hm hx, pair_txt hm hy, val_txt, val_txt]; rfl
theorem norm_txt {x : Pn} {p : ByteArray} (hm : modB p = true) (hx : InP2 (gV p) x) : normG (txtP x) p = gS (normP (gV p) x) := by
  unfold normG; rw [pair_txt hm hx, val_txt]; rfl
theorem pow_txt {x : Pn} {m : Nat} {p : ByteArray} (hm : modB p = true) (hx : InP2 (gV p) x) (hn : m < GB) : powPG (txtP x) (gS m) p = txtP (powP (gV p) x m) := by
  unfold powPG; rw [pair_txt hm hx, okS hn, val_txt, gV_gS]; rfl
theorem zero_in {n : Nat} (h : 0 < n) : InP2 n (0, 0) := ⟨h, h⟩
theorem noP_txt : noP = txtP (0, 0) := by unfold noP txtP; rw [gS_zero]
theorem neg_txt {x : Pn} {p : ByteArray} (hm : modB p = true) (hx : InP2 (gV p) x) : negPG (txtP x) p = txtP (negP (gV p) x) := by
  unfold negPG; rw [noP_txt, sub_txt hm (zero_in (mod_pos hm)) hx]; rfl
theorem negR_gS {x : Nat} {p : ByteArray} (hm : modB p = true) (hx : x < gV p) : negR (gS x) p = gS ((0 + gV p - x) % gV p) := by
  obtain ⟨ok, h1⟩ := modB_parts hm
  unfold negR subR twoB
  rw [hm, rest_gS hm hx, show restB ⟨#[]⟩ p = true from by unfold restB; rw [ok, show okG ⟨#[]⟩ = true from rfl, show gV ⟨#[]⟩ = 0 from rfl, decide_eq_true (by omega)]; rfl]
  rw [Bool.and_self, Bool.and_self, if_pos rfl, gV_gS, show gV ⟨#[]⟩ = 0 from rfl]
theorem other_txt {x : Pn} {p : ByteArray} (hm : modB p = true) (hx : InP2 (gV p) x) : otherPG (txtP x) p = txtP (otherP (gV p) x) := by
  unfold otherPG
  rw [pair_txt hm hx, if_pos rfl]
  unfold txtP otherP
  simp only
  rw [negR_gS hm hx.2]
theorem mulR_gS {x y : Nat} {p : ByteArray} (hm : modB p = true) (hx : x < gV p) (hy : y < gV p) : mulR (gS x) (gS y) p = gS (x * y % gV p) := mul_gS hm hx hy
theorem normP_lt {n : Nat} (h : 0 < n) (x : Pn) : normP n x < n := Nat.mod_lt _ h
theorem negP_in {n : Nat} (h : 0 < n) (x : Pn) : InP2 n (negP n x) := subP_in h _ _
theorem otherP_in {n : Nat} {x : Pn} (h : 0 < n) (hx : InP2 n x) : InP2 n (otherP n x) := ⟨hx.1, Nat.mod_lt _ h⟩
theorem invP_in {n : Nat} (h : 0 < n) (x : Pn) (m : Nat) : InP2 n (invP n x m) := ⟨Nat.mod_lt _ h, Nat.mod_lt _ h⟩
theorem mul_left_txt {x : Pt} {y : Pn} {p : ByteArray} (hx : pairB x p = true) (hy : InP2 (gV p) y) : mulPG x (txtP y) p = txtP (mulP (gV p) (valP x) y) := by
  unfold mulPG twoPB; rw [hx, pair_txt (pairB_parts hx).1 hy, val_txt]; rfl
/-- What FnPairs asks where both are pairs. -/
structure PairLaws (x y : Pt) (p : ByteArray) : Prop where
  comm : mulPG y x p = mulPG x y p
  left : mulPG x (addPG x y p) p = addPG (mulPG x x p) (mulPG x y p) p
  sub : subPG (addPG x y p) y p = x
  norm : normG (mulPG x y p) p = mulR (normG x p) (normG y p) p
  neg : addPG x (negPG x p) p = noP
  other : mulPG x (otherPG x p) p = (normG x p, ⟨#[]⟩)
theorem pair_laws {x y : Pt} {p : ByteArray} (hx : pairB x p = true) (hy : pairB y p = true) : PairLaws x y p := by
  have hm := (pairB_parts hx).1
  have hp := mod_pos hm
  obtain ⟨ix, ex⟩ := pair_num hx
  obtain ⟨iy, ey⟩ := pair_num hy
  generalize valP x = X at *
  generalize valP y = Y at *
  subst ex ey
  refine ⟨?_, ?_, ?_, ?_, ?_, ?_⟩
  · rw [mul_txt hm iy ix, mul_txt hm ix iy, mulP_comm hp]
  · rw [add_txt hm ix iy, mul_txt hm ix (addP_in hp _ _), mul_txt hm ix ix, mul_txt hm ix iy, add_txt hm (mulP_in hp _ _) (mulP_in hp _ _), mulP_addP hp ix]
  · rw [add_txt hm ix iy, sub_txt hm (addP_in hp _ _) iy, sub_addP hp ix iy]
  · rw [mul_txt hm ix iy, norm_txt hm (mulP_in hp _ _), norm_txt hm ix, norm_txt hm iy, mulR_gS hm (normP_lt hp _) (normP_lt hp _), normP_mul hp]
  · rw [neg_txt hm ix, add_txt hm ix (negP_in hp _), add_negP hp ix, noP_txt]
  · rw [other_txt hm ix, mul_txt hm ix (otherP_in hp ix), mul_otherP hp ix, norm_txt hm ix]
    unfold txtP
    rw [gS_zero]
theorem pair_no {x y : Pt} {p : ByteArray} (h : twoPB x y p = false) : addPG x y p = noP ∧ mulPG x y p = noP := by unfold addPG mulPG; rw [h]; exact ⟨rfl, rfl⟩
/-- An inverse comes to 1. -/
theorem pair_inv {x : Pt} {p : ByteArray} (h : invPB x p = true) : mulPG x (invPG x p) p = (⟨#[1]⟩, ⟨#[]⟩) := by
  have h0 := h
  simp only [invPB, Bool.and_eq_true, decide_eq_true_eq] at h0
  obtain ⟨hx, hg⟩ := h0
  have hm := (pairB_parts hx).1
  have h1 := (modB_parts hm).2
  obtain ⟨ix, _⟩ := pair_num hx
  have E : invPG x p = txtP (invP (gV p) (valP x) (invN (normP (gV p) (valP x)) (gV p))) := by unfold invPG; rw [h, if_pos rfl]
  obtain ⟨_, i2⟩ := inv_of (normP_lt (mod_pos hm) (valP x)) h1 hg
  rw [E, mul_left_txt hx (invP_in (mod_pos hm) _ _), mul_invP h1 ix i2]
  unfold txtP
  rw [gS_zero, gS_one]
/-- One more power. -/
theorem pair_pow_more {x : Pt} {m p : ByteArray} (hx : pairB x p = true) (hm : okG m = true) (hs : m.size ≤ 100) : powPG x (addG m ⟨#[1]⟩) p = mulPG (powPG x m p) x p := by
  have hmod := (pairB_parts hx).1
  have hp := mod_pos hmod
  obtain ⟨ix, ex⟩ := pair_num hx
  have hN : gV m + 1 < GB := by
    have := gV_size m
    have e : 256 ^ m.size ≤ 256 ^ 100 := Nat.pow_le_pow_right (by omega) hs
    have e2 : 256 ^ 100 + 1 ≤ GB := by
      have : 256 ^ 100 * 2 ≤ 256 ^ 100 * 256 ^ 60 := Nat.mul_le_mul_left _ (by decide)
      unfold GB
      rw [show 160 = 100 + 60 from rfl, Nat.pow_add]
      have : 0 < 256 ^ 100 := Nat.pow_pos (by omega)
      omega
    omega
  have E : addG m ⟨#[1]⟩ = gS (gV m + 1) := by
    unfold addG okT
    rw [hm, show okG ⟨#[1]⟩ = true from rfl, Bool.and_true, if_pos rfl, show gV ⟨#[1]⟩ = 1 from rfl, boundG_gS, if_pos hN]
  have E2 : powPG x m p = txtP (powP (gV p) (valP x) (gV m)) := by unfold powPG; rw [hx, hm]; rfl
  rw [E, E2]
  generalize valP x = X at *
  subst ex
  rw [pow_txt hmod ix hN, mul_txt hmod (powP_in hp _ _) ix, powP_succ hp ix]
end Go.Proofs.Ytkmmlfocidfghaa
/-
  The contracts of spec's functions of chapter 7.
-/
namespace Go.Proofs.Ytkmmlfocidfghaa
open Go.RowKit
/-- A pair of texts, as a value. -/
def aggT (x : Pt) : Array Value := #[.string x.1, .string x.2]
theorem agg_cells {w : World} {g : Nat} {x : Pt} {t : TypeId} (h : w.heap[g]? = some (.cells (aggT x) t (0, 0))) : w.cell? ⟨g, 0, none⟩ = some (.string x.1) ∧ w.cell? ⟨g, 1, none⟩ = some (.string x.2) :=
  ⟨(cell_of_row w g 0 _ _ _ h).trans rfl, (cell_of_row w g 1 _ _ _ h).trans rfl⟩
theorem agg_new (w : World) (x : Pt) (t : TypeId) : (w.alloc (.cells (aggT x) t)).heap[w.heap.size]? = some (.cells (aggT x) t (0, 0)) ∧ Below w.heap.size w (w.alloc (.cells (aggT x) t)) := ⟨heap_alloc_new w _, (Below.refl _ _).alloc (Nat.le_refl _) _⟩
end Go.Proofs.Ytkmmlfocidfghaa
/-
  The contracts of spec's l07In and l07Out.
-/
namespace Go.Proofs.Ytkmmlfocidfghaa
open Go.RowKit
def PairX (w : World) (v : Value) (x : Pn) : Prop := ∃ a b, v = .agg #[a, b] ∧ RowX w a x.1 ∧ RowX w b x.2
theorem PairX.below {w w' : World} {v : Value} {x : Pn} (h : PairX w v x) (b : Below w.heap.size w w') : PairX w' v x := by
  obtain ⟨a, c, rfl, h1, h2⟩ := h
  exact ⟨a, c, rfl, h1.below b, h2.below b⟩
def PairTo (x : Pn) (w : World) (e : Ending) (w' : World) : Prop := ∃ v, e = .returned v ∧ PairX w' v x ∧ Below w.heap.size w w'
theorem yields_if {P : Program} {ops : Array Oper} {S : World → Prop} {o : Oper} {v : Value} {a : Act} (hgd : o.guard = none) (h : ∀ w, S w → (execOp a.eval o).run P w = .ok (.value v) w) : YieldsIf P ops S o v a :=
  .inl ⟨by simp only [Region.wanted, hgd], h⟩
theorem RowX.setRow {w : World} {v : Value} {x g : Nat} {C C' : Array Value} {t : TypeId} (h : RowX w v x) (hg : w.heap[g]? = some (.cells C t (0, 0))) (ht : t ≠ 3) : RowX (w.setRow g C') v x := by
  obtain ⟨b, A, cap, l, rfl, r, p⟩ := h
  refine ⟨b, A, cap, l, rfl, ⟨r.1, ?_⟩, p⟩
  rcases r.2 with h | ⟨g', cp, cur, hv, hb, hh, h3⟩
  · exact .inl h
  · refine .inr ⟨g', cp, cur, hv, hb, ?_, h3⟩
    have hne : g' ≠ g := fun e => by
      subst e
      rw [hg] at hh
      injection hh with hh
      injection hh with _ h2 _
      exact ht h2
    rw [setRow_other w g g' C' hne]; exact hh
/-- A struct stored whole, as an operation that comes up. -/
theorem store_gen {ops : Array Oper} {i : Nat} {o : Oper} {a : Act} {w : World} {K : Act → World → Prop} {Q : Exit → Act → World → Prop} (hi : ops[i]? = some o) (hgd : o.guard = none) (t : TypeId) (x y : Operand) (ho : o.op = .store t x y) (g : Nat) (C C' : Array Value)
    (hx : a.eval x = .pointer (some ⟨g, 0, none⟩)) (hy : a.eval y = .agg C') (h : w.heap[g]? = some (.cells C t (0, 0))) (hs : (Try.prog.info? t).map (·.size) = some C'.size) (hc : C'.size = C.size) (h1 : C'.all (·.oneCell') = true) (k : K (a.put o.dst undef) (w.setRow g C')) : wpOp Try.prog ops Q i K a w := by
  unfold wpOp
  simp only [hi, Region.wanted, hgd, if_true]
  exact .inl (wp_store_row _ x y ho g _ hx hy _ _ h hs hc.symm h1 k)
theorem Try.info7 : (Try.prog.info? 46).map (·.size) = some 2 := by kernel_rfl
theorem Try.infoP : (Try.prog.info? 37).map (·.size) = some 2 := by kernel_rfl
end Go.Proofs.Ytkmmlfocidfghaa

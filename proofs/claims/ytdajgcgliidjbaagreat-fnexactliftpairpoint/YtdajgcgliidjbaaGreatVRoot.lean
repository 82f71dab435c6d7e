import Derived.Test.YtdajgcgliidjbaaGreatUBase
import Derived.Test.YtdajgcgliidjbaaGreatQMath
namespace Go.Proofs.YtdajgcgliidjbaaGreat
theorem int_two {p : Nat} (h : Prm p) (h4 : p % 4 = 3) {z : Gz} (hd : (p : Int) ∣ gn z) : (p : Int) ∣ z.1 ∧ (p : Int) ∣ z.2 := by
 have e : gn z = ((z.1.natAbs * z.1.natAbs + z.2.natAbs * z.2.natAbs : Nat) : Int) := by
  unfold gn
  push_cast
  rw [Int.natAbs_mul_self', Int.natAbs_mul_self']
 rw [e] at hd
 have h2 := h.two_squares h4 (Int.ofNat_dvd.1 hd)
 exact ⟨Int.ofNat_dvd_left.2 h2.1, Int.ofNat_dvd_left.2 h2.2⟩
theorem Prm.gm_zero {p : Nat} (h : Prm p) (h4 : p % 4 = 3) {u v : Gz} (hz : GC (p : Int) (gm u v) (0, 0)) : GC (p : Int) u (0, 0) ∨ GC (p : Int) v (0, 0) := by
 have hn : (p : Int) ∣ gn (gm u v) := by
  obtain ⟨⟨c, hc⟩, ⟨d, hd⟩⟩ := hz
  simp only [Int.sub_zero] at hc hd
  refine ⟨c * (gm u v).1 + d * (gm u v).2, ?_⟩
  unfold gn
  rw [hc, hd]; grind
 rw [gn_gm] at hn
 have h1 : p ∣ (gn u * gn v).natAbs := Int.ofNat_dvd_left.1 hn
 rw [Int.natAbs_mul] at h1
 rcases h.split h1 with h2 | h2
 ·left
  have := int_two h h4 (Int.ofNat_dvd_left.2 h2)
  exact ⟨by simpa using this.1, by simpa using this.2⟩
 ·right
  have := int_two h h4 (Int.ofNat_dvd_left.2 h2)
  exact ⟨by simpa using this.1, by simpa using this.2⟩
theorem pair_two_roots {p : Nat} (h : Prm p) (h4 : p % 4 = 3) {y z : Pn} (hy : InP2 p y) (hz : InP2 p z) (he : mulP p y y = mulP p z z) : y = z ∨ y = negP p z := by
 have hp : 0 < p := by have := h.1; omega
 rw [mulP_pr hp, mulP_pr hp] at he
 have g : GC (p : Int) (gm (toZ y) (toZ y)) (gm (toZ z) (toZ z)) := (prP_gc hp _).symm.trans (he ▸ prP_gc hp _)
 have g2 : GC (p : Int) (gm ((y.1 : Int) - z.1, (y.2 : Int) - z.2) ((y.1 : Int) + z.1, (y.2 : Int) + z.2)) (0, 0) := by
  obtain ⟨⟨c, hc⟩, ⟨d, hd⟩⟩ := g
  simp only [gm, toZ] at hc hd
  exact ⟨⟨c, by simp only [gm]; grind⟩, ⟨d, by simp only [gm]; grind⟩⟩
 rcases h.gm_zero h4 g2 with ⟨a, b⟩ | ⟨a, b⟩
 ·left
  have e1 := prN_eq (n := p) (s := (y.1 : Int)) (t := (z.1 : Int)) (by simpa using a)
  have e2 := prN_eq (n := p) (s := (y.2 : Int)) (t := (z.2 : Int)) (by simpa using b)
  rw [prN_nat, prN_nat, Nat.mod_eq_of_lt hy.1, Nat.mod_eq_of_lt hz.1] at e1
  rw [prN_nat, prN_nat, Nat.mod_eq_of_lt hy.2, Nat.mod_eq_of_lt hz.2] at e2
  cases y; cases z; simp_all
 ·right
  have e1 := prN_eq (n := p) (s := (y.1 : Int)) (t := ((0 : Nat) : Int) - (z.1 : Int)) (by obtain ⟨c, hc⟩ := a; exact ⟨c, by simp only [Int.sub_zero] at hc; rw [← hc]; simp⟩)
  have e2 := prN_eq (n := p) (s := (y.2 : Int)) (t := ((0 : Nat) : Int) - (z.2 : Int)) (by obtain ⟨c, hc⟩ := b; exact ⟨c, by simp only [Int.sub_zero] at hc; rw [← hc]; simp⟩)
  rw [prN_nat, prN_sub (Nat.le_of_lt hz.1), Nat.mod_eq_of_lt hy.1] at e1
  rw [prN_nat, prN_sub (Nat.le_of_lt hz.2), Nat.mod_eq_of_lt hy.2] at e2
  exact Prod.ext e1 e2
theorem root_id (a b r d s i : Int) : s * s - (b * i) * (b * i) - a =
  i * i * (4 * (s * s - d) * (s * s + d) - b * b * (i * (2 * s) - 1) * (2 * s * i + 1) - 4 * a * (s * s - d) + (2 * d - (a + r)) * (2 * d - a + r) + (r * r - (a * a + b * b)))
   - (s * s - (b * i) * (b * i) - a) * (i * (2 * s) - 1) * (2 * s * i + 1) := by grind
theorem root_ok {p a b r d s i : Int} (h1 : p ∣ r * r - (a * a + b * b)) (h2 : p ∣ 2 * d - (a + r)) (h3 : p ∣ s * s - d) (h4 : p ∣ i * (2 * s) - 1) :
  p ∣ s * s - (b * i) * (b * i) - a ∧ p ∣ s * (b * i) + (b * i) * s - b := by
 constructor
 ·rw [root_id a b r d s i]
  obtain ⟨u1, k1⟩ := h1
  obtain ⟨u2, k2⟩ := h2
  obtain ⟨u3, k3⟩ := h3
  obtain ⟨u4, k4⟩ := h4
  rw [k1, k2, k3, k4]
  generalize s * s - (b * i) * (b * i) - a = X
  exact ⟨i * i * (4 * u3 * (s * s + d) - b * b * u4 * (2 * s * i + 1) - 4 * a * u3 + u2 * (2 * d - a + r) + u1) - X * u4 * (2 * s * i + 1), by grind⟩
 ·obtain ⟨u4, k4⟩ := h4
  exact ⟨b * u4, by grind⟩
theorem sym_neg {p : Nat} (pp : PrimeP p) (h4 : p % 4 = 3) (a : Nat) (ha : a < p) : symN ((0 + p - a) % p) p = -symN a p := by
 have h3 := pp.ge
 have hm1 : symN (p - 1) p = -1 := by
  have hnd : ¬ p ∣ p - 1 := fun hd => by have := Nat.le_of_dvd (by omega) hd; omega
  rcases symN_cases pp.prm h3 hnd with h | h
  ·exfalso
   obtain ⟨m, hm⟩ : ∃ m, (p - 1) / 2 = 2 * m + 1 := ⟨p / 4, by omega⟩
   have e : ∀ k, (p - 1) ^ (2 * k + 1) % p = p - 1 := by
    intro k
    induction k with
    | zero => rw [Nat.mul_zero, Nat.zero_add, Nat.pow_one, Nat.mod_eq_of_lt (by omega)]
    | succ k ih => rw [show 2 * (k + 1) + 1 = 2 * k + 1 + 2 from by omega, Nat.pow_add, Nat.mul_mod, ih, Nat.pow_two, neg_sq (by omega), Nat.mul_one, Nat.mod_eq_of_lt (by omega)]
   have h5 := h.2
   rw [hm, e] at h5
   omega
  ·exact h.1
 have e2 : symN ((0 + p - a) % p) p = symN ((p - 1) * a) p := by
  rw [symN_mod, ← symN_mod p ((p - 1) * a), ← symN_mod p (0 + p - a)]
  congr 1
  have e3 : (p - 1) * a + a = p * a := by
   have : (p - 1) * a + 1 * a = (p - 1 + 1) * a := (Nat.add_mul _ _ _).symm
   rw [show p - 1 + 1 = p from by omega, Nat.one_mul] at this
   exact this
  have e4 : (0 + p - a) + a = p := by omega
  have e5 : ((p - 1) * a + a) % p = ((0 + p - a) + a) % p := by rw [e3, e4, Nat.mul_mod_right, Nat.mod_self]
  have := prN_eq (n := p) (s := (((p - 1) * a : Nat) : Int)) (t := ((0 + p - a : Nat) : Int)) (by
   have h6 : (((p - 1) * a + a : Nat) : Int) = ((p * a : Nat) : Int) := by rw [e3]
   have h7 : ((0 + p - a + a : Nat) : Int) = ((p : Nat) : Int) := by rw [e4]
   push_cast at h6 h7
   refine ⟨(a : Int) - 1, ?_⟩
   push_cast
   have := e5
   grind)
  rw [prN_nat, prN_nat] at this
  exact this.symm
 rw [e2, symN_mul pp.prm h3, hm1]; omega
theorem mod_dvd {p x y : Nat} (h : x % p = y % p) : (p : Int) ∣ (x : Int) - (y : Int) :=
 Int.dvd_of_emod_eq_zero (Int.emod_eq_emod_iff_emod_sub_eq_zero.1 (by exact_mod_cast h))
theorem pair_is {p : Nat} {z : Gz} {x : Pn} (hx : InP2 p x) (h : GC (p : Int) z (toZ x)) : prP p z = x := (prP_eq h).trans (prP_of hx.1 hx.2)
theorem root_a {p a s : Nat} (hp : 0 < p) (h : s * s % p = a) (ha : a < p) : mulP p (s, 0) (s, 0) = (a, 0) := by
 rw [mulP_pr hp]
 refine pair_is ⟨ha, hp⟩ ?_
 have h1 := mod_dvd (p := p) (x := s * s) (y := a) (by rw [h, Nat.mod_eq_of_lt ha])
 obtain ⟨c, hc⟩ := h1
 push_cast at hc
 exact ⟨⟨c, by simp only [gm, toZ]; push_cast; grind⟩, ⟨0, by simp only [gm, toZ]; push_cast; grind⟩⟩
theorem root_b {p a s : Nat} (hp : 0 < p) (ha : a < p) (h : s * s % p = (0 + p - a) % p) : mulP p (0, s) (0, s) = (a, 0) := by
 rw [mulP_pr hp]
 refine pair_is ⟨ha, hp⟩ ?_
 obtain ⟨c, hc⟩ := mod_dvd (p := p) (x := s * s) (y := 0 + p - a) h
 rw [Int.natCast_sub (by omega)] at hc
 push_cast at hc
 exact ⟨⟨-c - 1, by simp only [gm, toZ]; push_cast; grind⟩, ⟨0, by simp only [gm, toZ]; push_cast; grind⟩⟩
theorem root_ab {p : Nat} (hp : 0 < p) {a b s i : Nat} {r d : Int} (ha : a < p) (hb : b < p) (h1 : (p : Int) ∣ r * r - ((a : Int) * a + (b : Int) * b)) (h2 : (p : Int) ∣ 2 * d - ((a : Int) + r)) (h3 : (p : Int) ∣ (s : Int) * s - d) (h4 : i * ((s + s) % p) % p = 1 % p) :
  mulP p (s, b * i % p) (s, b * i % p) = (a, b) := by
 have h5 : (p : Int) ∣ (i : Int) * (2 * (s : Int)) - 1 := by
  have := mod_dvd (p := p) (x := i * (s + s)) (y := 1) (by rw [← h4, Nat.mul_mod_mod])
  obtain ⟨c, hc⟩ := this
  push_cast at hc
  exact ⟨c, by grind⟩
 obtain ⟨⟨c, hc⟩, ⟨e, he⟩⟩ := root_ok h1 h2 h3 h5
 rw [mulP_pr hp]
 refine pair_is ⟨ha, hb⟩ ?_
 have hq : GC (p : Int) (toZ (s, b * i % p)) ((s : Int), (b : Int) * i) := by
  obtain ⟨f, hf⟩ := mod_dvd (p := p) (x := b * i % p) (y := b * i) (Nat.mod_mod _ _)
  refine ⟨⟨0, by simp only [toZ]; grind⟩, ⟨f, ?_⟩⟩
  simp only [toZ]
  push_cast at hf
  push_cast
  exact hf
 refine (hq.mul hq).trans ⟨⟨c, ?_⟩, ⟨e, ?_⟩⟩
 ·simp only [gm, toZ]; exact hc
 ·simp only [gm, toZ]; exact he
theorem normP_dvd {p : Nat} (hp : 0 < p) (x : Pn) : (p : Int) ∣ ((normP p x : Nat) : Int) - ((x.1 : Int) * x.1 + (x.2 : Int) * x.2) := by
 rw [normP_pr hp]; exact prN_dvd hp _
theorem half_choice {p : Nat} (pp : PrimeP p) (h4 : p % 4 = 3) {a b r d1 d2 : Nat} (hb0 : 0 < b) (hb : b < p) (hr : r < p) (h1 : r * r % p = normP p (a, b)) (e1 : (d1 + d1) % p = (a + r) % p) (e2 : (d2 + d2) % p = (a + p - r) % p) :
  symN d1 p * symN d2 p = -1 := by
 have h3 := pp.ge
 have hp : 0 < p := by omega
 have t2 : symN 2 p * symN 2 p = 1 := by
  have hnd : ¬ p ∣ 2 := fun hd => by have := Nat.le_of_dvd (by omega) hd; omega
  rcases symN_cases pp.prm h3 hnd with h | h <;> rw [h.1] <;> rfl
 have f1 : symN (d1 + d1) p = symN 2 p * symN d1 p := by rw [← symN_mul pp.prm h3]; congr 1; omega
 have f2 : symN (d2 + d2) p = symN 2 p * symN d2 p := by rw [← symN_mul pp.prm h3]; congr 1; omega
 have g1 : symN (d1 + d1) p = symN (a + r) p := by rw [← symN_mod, e1, symN_mod]
 have g2 : symN (d2 + d2) p = symN (a + p - r) p := by rw [← symN_mod, e2, symN_mod]
 have key : symN ((a + r) * (a + p - r)) p = -1 := by
  have hbb : b * b % p < p := Nat.mod_lt _ hp
  have e : ((a + r) * (a + p - r)) % p = (0 + p - b * b % p) % p := by
   obtain ⟨c, hc⟩ := normP_dvd hp (a, b)
   rw [← h1] at hc
   obtain ⟨u, hu⟩ := mod_dvd (p := p) (x := r * r % p) (y := r * r) (Nat.mod_mod _ _)
   obtain ⟨v, hv⟩ := mod_dvd (p := p) (x := b * b % p) (y := b * b) (Nat.mod_mod _ _)
   have hle := Nat.le_of_lt hbb
   generalize r * r % p = R at *
   generalize b * b % p = Bb at *
   have := prN_eq (n := p) (s := (((a + r) * (a + p - r) : Nat) : Int)) (t := ((0 + p - Bb : Nat) : Int)) (by
    rw [Int.natCast_mul, Int.natCast_sub (show r ≤ a + p by omega), Int.natCast_sub (show Bb ≤ 0 + p by omega)]
    push_cast at hu hv hc
    push_cast
    refine ⟨(a : Int) + r - 1 + u - c + v, ?_⟩
    grind)
   rw [prN_nat, prN_nat] at this
   exact this
  rw [← symN_mod, e, sym_neg pp h4 _ hbb, symN_mod, symN_sq pp.prm h3 (fun hd => by have := Nat.le_of_dvd hb0 hd; omega)]
 rw [symN_mul pp.prm h3, ← g1, ← g2, f1, f2] at key
 generalize symN 2 p = t at *
 generalize symN d1 p = x at *
 generalize symN d2 p = y at *
 have : x * y = (t * t) * (x * y) := by rw [t2, Int.one_mul]
 grind
end Go.Proofs.YtdajgcgliidjbaaGreat
namespace Go.Proofs.YtdajgcgliidjbaaGreat
def pprimeB (p : ByteArray) : Bool := primeB p && decide (gV p % 4 = 3)
def gtP (n : Nat) (y : Pn) : Bool := if y.2 = 0 then decide ((0 + n - y.1) % n < y.1) else decide ((0 + n - y.2) % n < y.2)
def pgtB (x : Pt) (p : ByteArray) : Bool := pairB x p && gtP (gV p) (valP x)
def sqN (n : Nat) (x : Pn) : Bool := decide (0 ≤ symN (normP n x) n)
def psqB (x : Pt) (p : ByteArray) : Bool := pprimeB p && (pairB x p && sqN (gV p) (valP x))
def goodB (n : Nat) (x y : Pn) : Bool := (decide (y.1 < n) && decide (y.2 < n)) && (decide (mulP n y y = x) && !gtP n y)
def rootP (n : Nat) (x : Pn) : Pn := (((List.range (n * n)).find? (fun k => goodB n x (k / n, k % n))).map (fun k => (k / n, k % n))).getD (0, 0)
def prootG (x : Pt) (p : ByteArray) : Pt := if psqB x p then txtP (rootP (gV p) (valP x)) else noP
structure Good (n : Nat) (x y : Pn) : Prop where
 i : InP2 n y
 m : mulP n y y = x
 g : gtP n y = false
theorem good_iff {n : Nat} {x y : Pn} : goodB n x y = true ↔ Good n x y := by
 unfold goodB
 constructor
 ·intro h
  simp only [Bool.and_eq_true, decide_eq_true_eq, Bool.not_eq_true'] at h
  exact ⟨⟨h.1.1, h.1.2⟩, h.2.1, h.2.2⟩
 ·rintro ⟨⟨a, b⟩, c, d⟩
  rw [decide_eq_true a, decide_eq_true b, decide_eq_true c, d]; rfl
theorem neg_mulP {n : Nat} (h : 0 < n) {y : Pn} (hy : InP2 n y) : mulP n (negP n y) (negP n y) = mulP n y y := by
 have e : negP n y = prP n (-(y.1 : Int), -(y.2 : Int)) := by
  unfold negP
  rw [subP_pr hy]
  congr 1
  simp
 rw [e, mulP_of h, mulP_pr h]
 congr 1
 simp only [gm, toZ, Prod.mk.injEq]
 constructor <;> grind
theorem gtP_zero (n : Nat) : gtP n (0, 0) = false := by
 unfold gtP
 rw [if_pos rfl]
 exact decide_eq_false (Nat.not_lt_zero _)
theorem against {n a : Nat} (h0 : 0 < a) (ha : a < n) (ho : n % 2 = 1) : (0 + n - a) % n = n - a ∧ decide ((0 + n - (n - a)) % n < n - a) = !decide (n - a < a) := by
 have e1 : (0 + n - a) % n = n - a := by rw [Nat.zero_add, Nat.mod_eq_of_lt (by omega)]
 have e2 : (0 + n - (n - a)) % n = a := by
  rw [Nat.zero_add, show n - (n - a) = a from by omega, Nat.mod_eq_of_lt ha]
 refine ⟨e1, ?_⟩
 rw [e2]
 by_cases h : n - a < a
 ·rw [decide_eq_true h, decide_eq_false (by omega)]; rfl
 ·rw [decide_eq_false h, decide_eq_true (by omega)]; rfl
theorem against_0 (n : Nat) : (0 + n - 0) % n = 0 := by simp
theorem gtP_neg {n : Nat} (ho : n % 2 = 1) {y : Pn} (hy : InP2 n y) (hne : y ≠ (0, 0)) : gtP n (negP n y) = !gtP n y := by
 obtain ⟨a, b⟩ := y
 have ha : a < n := hy.1
 have hb : b < n := hy.2
 show (if (0 + n - b) % n = 0 then decide ((0 + n - (0 + n - a) % n) % n < (0 + n - a) % n) else decide ((0 + n - (0 + n - b) % n) % n < (0 + n - b) % n)) = !(if b = 0 then decide ((0 + n - a) % n < a) else decide ((0 + n - b) % n < b))
 by_cases h0 : b = 0
 ·subst h0
  have a0 : 0 < a := by
   rcases Nat.eq_zero_or_pos a with h | h
   ·subst h; exact absurd rfl hne
   ·exact h
  obtain ⟨e1, e2⟩ := against a0 ha ho
  rw [if_pos (against_0 n), if_pos rfl, e1, e2]
 ·obtain ⟨e1, e2⟩ := against (by omega : 0 < b) hb ho
  rw [e1, if_neg (by omega), if_neg h0, e2]
theorem good_one {n : Nat} (pp : PrimeP n) (h4 : n % 4 = 3) {x y z : Pn} (hy : Good n x y) (hz : Good n x z) : y = z := by
 rcases pair_two_roots pp.prm h4 hy.i hz.i (hy.m.trans hz.m.symm) with e | e
 ·exact e
 ·by_cases h0 : z = (0, 0)
  ·subst h0
   rw [e]
   show ((0 + n - 0) % n, (0 + n - 0) % n) = ((0, 0) : Pn)
   rw [against_0]
  ·have := gtP_neg (by omega) hz.i h0
   rw [← e, hy.g, hz.g] at this
   cases this
theorem good_of {n : Nat} (pp : PrimeP n) (h4 : n % 4 = 3) {x y : Pn} (hy : InP2 n y) (hm : mulP n y y = x) : Good n x (if gtP n y then negP n y else y) := by
 have hp : 0 < n := by have := pp.ge; omega
 by_cases h : gtP n y = true
 ·have hne : y ≠ (0, 0) := fun e => by rw [e, gtP_zero] at h; cases h
  rw [if_pos h]
  refine ⟨negP_in hp y, (neg_mulP hp hy).trans hm, ?_⟩
  rw [gtP_neg (by omega) hy hne, h]; rfl
 ·rw [if_neg h]
  exact ⟨hy, hm, by simpa using h⟩
theorem rootP_eq {n : Nat} (pp : PrimeP n) (h4 : n % 4 = 3) {x y : Pn} (hy : Good n x y) : rootP n x = y := by
 have hp : 0 < n := by have := pp.ge; omega
 have e1 : (y.2 + y.1 * n) / n = y.1 := by rw [Nat.add_mul_div_right _ _ hp, Nat.div_eq_of_lt hy.i.2, Nat.zero_add]
 have e2 : (y.2 + y.1 * n) % n = y.2 := by rw [Nat.add_mul_mod_self_right, Nat.mod_eq_of_lt hy.i.2]
 have hlt : y.2 + y.1 * n < n * n := by
  have h1 : (y.1 + 1) * n ≤ n * n := Nat.mul_le_mul_right n hy.i.1
  rw [Nat.succ_mul] at h1
  have := hy.i.2
  omega
 unfold rootP
 cases hf : (List.range (n * n)).find? (fun k => goodB n x (k / n, k % n)) with
 | none =>
  exfalso
  have := List.find?_eq_none.1 hf (y.2 + y.1 * n) (List.mem_range.2 hlt)
  rw [e1, e2] at this
  exact this (good_iff.2 hy)
 | some k =>
  have := good_iff.1 (List.find?_some (p := fun k => goodB n x (k / n, k % n)) hf)
  exact good_one pp h4 this hy
theorem rootP_of {n : Nat} (pp : PrimeP n) (h4 : n % 4 = 3) {x y : Pn} (hy : InP2 n y) (hm : mulP n y y = x) : rootP n x = (if gtP n y then negP n y else y) := rootP_eq pp h4 (good_of pp h4 hy hm)
theorem halfN_lt {x n : Nat} (h : x < n) : halfN x n < n := by unfold halfN; split <;> omega
theorem halfN_two {x n : Nat} (ho : n % 2 = 1) (h : x < n) : (halfN x n + halfN x n) % n = x := by
 unfold halfN
 split
 ·rw [show (x + n) / 2 + (x + n) / 2 = x + n from by omega, Nat.add_mod_right, Nat.mod_eq_of_lt h]
 ·rw [show x / 2 + x / 2 = x from by omega, Nat.mod_eq_of_lt h]
theorem halfN_same {a n : Nat} (ho : n % 2 = 1) (h : a < n) : halfN ((a + a) % n) n = a := by
 by_cases h2 : a + a < n
 ·rw [Nat.mod_eq_of_lt h2]; unfold halfN; rw [if_neg (by omega)]; omega
 ·rw [Nat.mod_eq_sub_mod (by omega), Nat.mod_eq_of_lt (by omega)]; unfold halfN; rw [if_pos (by omega)]; omega
theorem twice_dvd {n d x : Nat} {t : Int} (e : (d + d) % n = x % n) (ht : (n : Int) ∣ (x : Int) - t) : (n : Int) ∣ 2 * (d : Int) - t := by
 obtain ⟨c, hc⟩ := mod_dvd e
 obtain ⟨k, hk⟩ := ht
 push_cast at hc
 exact ⟨c + k, by grind⟩
theorem root_half {n : Nat} (hp : 0 < n) (ho : n % 2 = 1) {a b r s i d : Nat} (ha : a < n) (hb : b < n) (hr : r < n) (h1 : r * r % n = normP n (a, b)) (hd : d = halfN ((a + r) % n) n ∨ d = halfN ((a + n - r) % n) n) (hs : s * s % n = d) (hi : i * ((s + s) % n) % n = 1 % n) :
  mulP n (s, b * i % n) (s, b * i % n) = (a, b) := by
 have hn : (n : Int) ∣ (r : Int) * r - ((a : Int) * a + (b : Int) * b) := by
  obtain ⟨c, hc⟩ := normP_dvd hp (a, b)
  obtain ⟨k, hk⟩ := mod_dvd (p := n) (x := r * r) (y := normP n (a, b)) (by rw [h1, Nat.mod_eq_of_lt (normP_lt hp _)])
  push_cast at hk
  exact ⟨c + k, by grind⟩
 have h3 : (n : Int) ∣ (s : Int) * s - (d : Int) := by
  have hdl : d < n := by rcases hd with e | e <;> rw [e] <;> exact halfN_lt (Nat.mod_lt _ hp)
  have := mod_dvd (p := n) (x := s * s) (y := d) (by rw [hs, Nat.mod_eq_of_lt hdl])
  push_cast at this
  exact this
 rcases hd with rfl | rfl
 ·refine root_ab hp ha hb (r := (r : Int)) hn ?_ h3 hi
  exact twice_dvd (x := a + r) (halfN_two ho (Nat.mod_lt _ hp)) ⟨0, by push_cast; grind⟩
 ·refine root_ab hp ha hb (r := -(r : Int)) (by rw [Int.neg_mul_neg]; exact hn) ?_ h3 hi
  refine twice_dvd (x := a + n - r) (halfN_two ho (Nat.mod_lt _ hp)) ?_
  rw [Int.natCast_sub (by omega)]
  exact ⟨1, by push_cast; grind⟩
theorem no_half {n : Nat} (pp : PrimeP n) (h4 : n % 4 = 3) {a b r : Nat} (ha : a < n) (hb : b < n) (hr : r < n) (h1 : r * r % n = normP n (a, b)) (hx : symN (halfN ((a + r) % n) n) n ≠ 1) (hy : symN (halfN ((a + n - r) % n) n) n ≠ 1) : b = 0 ∧ symN a n ≠ 1 := by
 have h3 := pp.ge
 have hp : 0 < n := by omega
 have ho : n % 2 = 1 := by omega
 have hb0 : b = 0 := by
  rcases Nat.eq_zero_or_pos b with e | e
  ·exact e
  ·exfalso
   have hc := half_choice pp h4 e hb hr h1 (d1 := halfN ((a + r) % n) n) (d2 := halfN ((a + n - r) % n) n) (halfN_two ho (Nat.mod_lt _ hp)) (halfN_two ho (Nat.mod_lt _ hp))
   rcases symN_three pp.prm h3 (halfN ((a + r) % n) n) with e1 | e1 | e1 <;> rcases symN_three pp.prm h3 (halfN ((a + n - r) % n) n) with e2 | e2 | e2 <;> first | exact hx e1 | exact hy e2 | (rw [e1, e2] at hc; exact absurd hc (by decide))
 subst hb0
 refine ⟨rfl, ?_⟩
 have e : normP n (a, 0) = a * a % n := by
  show (a * a % n + 0 * 0 % n) % n = a * a % n
  rw [Nat.zero_mul, Nat.zero_mod, Nat.add_zero, Nat.mod_mod]
 rw [e] at h1
 rcases pp.prm.two_roots hr ha h1 with e1 | e1 | e1
 ·rw [e1, halfN_same ho ha] at hx; exact hx
 ·rw [show a + n - r = a + a from by omega, halfN_same ho ha] at hy; exact hy
 ·rw [e1.1, e1.2, Nat.add_zero, Nat.zero_mod, show halfN 0 n = 0 from by unfold halfN; rw [if_neg (by omega)]] at hx
  rw [e1.2]; exact hx
theorem other_half {n : Nat} (pp : PrimeP n) (h4 : n % 4 = 3) {a b r : Nat} (ha : a < n) (hb0 : b ≠ 0) (hb : b < n) (hr : r < n) (h1 : r * r % n = normP n (a, b)) (hx : symN (halfN ((a + r) % n) n) n ≠ 1) : symN (halfN ((a + n - r) % n) n) n = 1 := by
 rcases Decidable.em (symN (halfN ((a + n - r) % n) n) n = 1) with h | h
 ·exact h
 ·exact absurd (no_half pp h4 ha hb hr h1 hx h).1 hb0
theorem sq_pos {n s d : Nat} (pp : PrimeP n) (hd : symN d n = 1) (hs : s * s % n = d) : ¬ n ∣ s := fun h => by
 obtain ⟨c, hc⟩ := h
 have e : d = 0 := by rw [← hs, hc, Nat.mul_assoc, Nat.mul_mod_right]
 rw [e, (symN_zero (a := 0) pp.prm pp.ge).2 (Nat.dvd_zero _)] at hd
 cases hd
theorem twice_inv {n s : Nat} (pp : PrimeP n) (h0 : ¬ n ∣ s) : Nat.gcd n ((s + s) % n) = 1 ∧ (invN ((s + s) % n) n < n ∧ invN ((s + s) % n) n * ((s + s) % n) % n = 1 % n) := by
 have h3 := pp.ge
 have ho := pp.prm.odd h3
 have hlt : (s + s) % n < n := Nat.mod_lt _ (by omega)
 have hg : Nat.gcd n ((s + s) % n) = 1 := by
  refine pp.prm.cop fun hd => ?_
  have h2 : n ∣ 2 * s := by
   have : (s + s) % n = 0 := by rw [← Nat.mod_mod]; exact Nat.mod_eq_zero_of_dvd hd
   have := Nat.dvd_of_mod_eq_zero this
   rw [Nat.two_mul]; exact this
  rcases pp.prm.split h2 with h | h
  ·have := Nat.le_of_dvd (by omega) h; omega
  ·exact h0 h
 obtain ⟨i1, i2⟩ := inv_of hlt (by omega) hg
 exact ⟨hg, i1, by rw [i2, Nat.mod_eq_of_lt (by omega)]⟩
theorem norm_pos {n : Nat} (pp : PrimeP n) (h4 : n % 4 = 3) {a b : Nat} (hb0 : b ≠ 0) (hb : b < n) (h : 0 ≤ symN (normP n (a, b)) n) : symN (normP n (a, b)) n = 1 := by
 have h3 := pp.ge
 rcases symN_three pp.prm h3 (normP n (a, b)) with e | e | e
 ·rw [e] at h; exact absurd h (by decide)
 ·exfalso
  have hd := (symN_zero pp.prm h3).1 e
  have h0 : normP n (a, b) = 0 := Nat.eq_zero_of_dvd_of_lt hd (normP_lt (by omega) _)
  have h5 : n ∣ a * a + b * b := by
   have e2 : normP n (a, b) = (a * a + b * b) % n := by
    show (a * a % n + b * b % n) % n = _
    rw [← Nat.add_mod]
   rw [e2] at h0
   exact Nat.dvd_of_mod_eq_zero h0
  have := Nat.le_of_dvd (by omega) (pp.prm.two_squares h4 h5).2
  omega
 ·exact e
theorem neg_root_of {n : Nat} (pp : PrimeP n) (h4 : n % 4 = 3) {a : Nat} (ha : a < n) (h : symN a n ≠ 1) : symN ((0 + n - a) % n) n = 0 ∧ a = 0 ∨ symN ((0 + n - a) % n) n = 1 := by
 have h3 := pp.ge
 rw [sym_neg pp h4 a ha]
 rcases symN_three pp.prm h3 a with e | e | e
 ·right; rw [e]; rfl
 ·left
  exact ⟨by rw [e]; rfl, Nat.eq_zero_of_dvd_of_lt ((symN_zero pp.prm h3).1 e) ha⟩
 ·exact absurd e h
theorem pprime_parts {p : ByteArray} (h : pprimeB p = true) : primeB p = true ∧ PrimeP (gV p) ∧ gV p % 4 = 3 := by
 unfold pprimeB at h
 simp only [Bool.and_eq_true, decide_eq_true_eq] at h
 exact ⟨h.1, (primeB_p h.1).2, h.2⟩
theorem sym_norm {x : Pt} {p : ByteArray} (hp : primeB p = true) (hx : pairB x p = true) : symG (normG x p) p = symN (normP (gV p) (valP x)) (gV p) ∧ restB (normG x p) p = true := by
 have hm := (pairB_parts hx).1
 unfold symG normG
 rw [if_pos hx]
 have hr := rest_gS hm (normP_lt (mod_pos hm) (valP x))
 rw [hp, hr, gV_gS]
 exact ⟨rfl, rfl⟩
theorem greater_rest {a p : ByteArray} (hm : modB p = true) (h : restB a p = true) : greaterB a p = decide ((0 + gV p - gV a) % gV p < gV a) := by unfold greaterB oneB; rw [hm, h]; rfl
theorem pgt_parts {x : Pt} {p : ByteArray} (h : pairB x p = true) : pgtB x p = (greaterB x.2 p || (x.2.toList.isEmpty && greaterB x.1 p)) ∧ pgtB x p = (if x.2.toList.isEmpty then greaterB x.1 p else greaterB x.2 p) := by
 obtain ⟨hm, h1, h2⟩ := pairB_parts h
 unfold pgtB
 rw [h, greater_rest hm h1, greater_rest hm h2, zero_of (restB_parts h2).1, Bool.true_and]
 unfold gtP valP
 by_cases h0 : gV x.2 = 0
 ·rw [if_pos h0, decide_eq_true h0, if_pos rfl]
  rw [decide_eq_false (show ¬ (0 + gV p - gV x.2) % gV p < gV x.2 from by rw [h0]; exact Nat.not_lt_zero _), Bool.false_or, Bool.true_and]
  exact ⟨rfl, rfl⟩
 ·rw [if_neg h0, decide_eq_false h0, Bool.false_and, Bool.or_false]
  exact ⟨rfl, rfl⟩
theorem pgt_no {x : Pt} {p : ByteArray} (h : pairB x p = false) : pgtB x p = false := by unfold pgtB; rw [h]; rfl
theorem pgt_txt {y : Pn} {p : ByteArray} (hm : modB p = true) (hy : InP2 (gV p) y) : pgtB (txtP y) p = gtP (gV p) y := by unfold pgtB; rw [pair_txt hm hy, val_txt]; rfl
theorem proot_of {x : Pt} {y : Pn} {p : ByteArray} (h : psqB x p = true) (hy : InP2 (gV p) y) (hm : mulP (gV p) y y = valP x) : prootG x p = (if gtP (gV p) y then negPG (txtP y) p else txtP y) := by
 have h0 := h
 unfold psqB at h0
 simp only [Bool.and_eq_true] at h0
 obtain ⟨hp, hx, _⟩ := h0
 obtain ⟨_, pp, h4⟩ := pprime_parts hp
 unfold prootG
 rw [if_pos h, rootP_of pp h4 hy hm]
 by_cases hg : gtP (gV p) y = true
 ·rw [if_pos hg, if_pos hg, neg_txt (pairB_parts hx).1 hy]
 ·rw [if_neg hg, if_neg hg]
end Go.Proofs.YtdajgcgliidjbaaGreat

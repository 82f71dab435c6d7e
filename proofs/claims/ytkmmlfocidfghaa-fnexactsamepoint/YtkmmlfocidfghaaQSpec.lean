import Derived.Test.YtkmmlfocidfghaaQMath
import Derived.Deep.LoopGhost
/-
  The contracts of spec's functions of chapter 6, first part: primes, symbols, twos, what is no square.
-/
namespace Go.Proofs.Ytkmmlfocidfghaa
open Go.RowKit
/-! l06Less, l06Symbol -/
theorem below_one (w : World) (k : Int) : Below w.heap.size w (w.alloc (.cells #[.int .i64 k] 3)) := (Below.refl _ _).alloc (Nat.le_refl _) _
def SymPost (s : Int) (w : World) (e : Ending) (w' : World) : Prop := e = .returned (.int .i64 s) ∧ Below w.heap.size w w'
theorem half_lt {n : Nat} (h : n < GB) : (n - 1) / 2 < GB := by omega
end Go.Proofs.Ytkmmlfocidfghaa
/-
  The contracts of spec's functions of chapter 6, second part: PrimeOk, SymbolOf, TwosIn, NoSquare, Greater.
-/
namespace Go.Proofs.Ytkmmlfocidfghaa
open Go.RowKit
def cvPk (k : Nat) : ByteArray := if k = 1 then cvP1 else if k = 2 then cvP2 else if k = 3 then cvP3 else cvP4
def cvRk (k : Nat) : ByteArray := if k = 1 then cvR1 else if k = 2 then cvR2 else if k = 3 then cvR3 else cvR4
theorem cvC_at {k : Nat} (h1 : 1 ≤ k) (h4 : k ≤ 4) : (cvC (k : Int))[1]? = some (.string (cvPk k)) ∧ (cvC (k : Int))[2]? = some (.string (cvRk k)) := by
  rcases (by omega : k = 1 ∨ k = 2 ∨ k = 3 ∨ k = 4) with rfl | rfl | rfl | rfl <;> exact ⟨rfl, rfl⟩
def curveAt (p : ByteArray) (k : Nat) : Bool := sameT p (cvPk k) || sameT p (cvRk k)
theorem curvePB_at (p : ByteArray) : curvePB p = ((curveAt p 1 || curveAt p 2) || (curveAt p 3 || curveAt p 4)) := rfl
theorem curvePB_yes {p : ByteArray} {k : Nat} (h1 : 1 ≤ k) (h4 : k ≤ 4) (h : curveAt p k = true) : curvePB p = true := by
  rw [curvePB_at]
  rcases (by omega : k = 1 ∨ k = 2 ∨ k = 3 ∨ k = 4) with rfl | rfl | rfl | rfl <;> rw [h] <;> simp
theorem curvePB_no {p : ByteArray} (h : ∀ k, 1 ≤ k → k < 5 → curveAt p k = false) : curvePB p = false := by
  rw [curvePB_at, h 1 (by omega) (by omega), h 2 (by omega) (by omega), h 3 (by omega) (by omega), h 4 (by omega) (by omega)]; rfl
/-! TwosIn -/
theorem twos_1280 {n : Nat} (h : n < GB) (h1 : 1 < n) : twosN (n - 1) < 1280 := by
  obtain ⟨K, hK⟩ : ∃ K, K = 8 * 160 := ⟨_, rfl⟩
  have e2 : (2 : Nat) ^ K = (2 ^ 8) ^ 160 := (congrArg (fun k => (2 : Nat) ^ k) hK).trans (Nat.pow_mul 2 8 160)
  have h2 : n < 2 ^ K := by rw [e2]; exact h
  have := twosN_lt (n := n - 1) (k := K) (by omega) (by omega)
  omega
def TwosPost (p : ByteArray) (w : World) (e : Ending) (w' : World) : Prop := e = .returned (.tuple #[.int .i64 (twosG p : Int), .string (oddG p)]) ∧ Below w.heap.size w w'
end Go.Proofs.Ytkmmlfocidfghaa
/-
  The contracts of spec's l06Root, l06Lesser, RootOf and Greater.
-/
namespace Go.Proofs.Ytkmmlfocidfghaa
open Go.RowKit
theorem modB_gS {n : Nat} (h : n < GB) (h1 : 1 < n) : modB (gS n) = true := by unfold modB; rw [okS h, gV_gS, decide_eq_true h1]; rfl
def RootTo (a n : Nat) (w : World) (e : Ending) (w' : World) : Prop := ∃ v x, e = .returned v ∧ RowX w' v x ∧ x < n ∧ x * x % n = a ∧ Below w.heap.size w w'
/-- What is needed of the numbers at the beginning. -/
theorem root_start {a n : Nat} (pp : PrimeP n) (hs : symN a n = 1) :
    1 ≤ twosN (n - 1) ∧ twosN (n - 1) < n ∧ oddN (n - 1) < n ∧ TS n a (a ^ ((oddN (n - 1) + 1) / 2) % n) (a ^ oddN (n - 1) % n) (nosqN n ^ oddN (n - 1) % n) (twosN (n - 1)) := by
  have h3 := pp.ge
  have hodd := pp.prm.odd h3
  obtain ⟨e1, e2⟩ := twos_all (n - 1) (by omega)
  have h1 : 1 ≤ twosN (n - 1) := by rw [twosN_even (by omega) (by omega)]; omega
  have h0 : ¬ n ∣ a := fun h => by have := (symN_zero (a := a) pp.prm h3).2 h; rw [this] at hs; cases hs
  have ha1 : a ^ ((n - 1) / 2) % n = 1 := by
    rcases symN_cases pp.prm h3 h0 with h | h
    · exact h.2
    · rw [h.1] at hs; cases hs
  obtain ⟨_, _, m3, _⟩ := nosqN_spec pp
  have hm0 : ¬ n ∣ nosqN n := fun h => by have := (symN_zero (a := nosqN n) pp.prm h3).2 h; rw [this] at m3; cases m3
  have hm1 : nosqN n ^ ((n - 1) / 2) % n = n - 1 := by
    rcases symN_cases pp.prm h3 hm0 with h | h
    · rw [h.1] at m3; cases m3
    · exact h.2
  have hlt : twosN (n - 1) < 2 ^ twosN (n - 1) := Nat.lt_two_pow_self
  have hpos : 0 < oddN (n - 1) := by omega
  have hle : 2 ^ twosN (n - 1) ≤ n - 1 := by
    have : 2 ^ twosN (n - 1) * 1 ≤ 2 ^ twosN (n - 1) * oddN (n - 1) := Nat.mul_le_mul_left _ hpos
    omega
  have hle2 : oddN (n - 1) ≤ n - 1 := by
    have : 1 * oddN (n - 1) ≤ 2 ^ twosN (n - 1) * oddN (n - 1) := Nat.mul_le_mul_right _ (Nat.pow_pos (by omega))
    omega
  exact ⟨h1, by omega, by omega, (TS.start h1 e1 e2 ha1 hm1).mod⟩
/-- The inner search: m squarings were no 1. -/
structure SqRel (n b m v : Nat) : Prop where
  val : v = b ^ (2 ^ m) % n
  no : ∀ j, j < m → b ^ (2 ^ j) % n ≠ 1
theorem SqRel.start {n b : Nat} (h : b < n) : SqRel n b 0 b := ⟨by rw [Nat.pow_zero, Nat.pow_one, Nat.mod_eq_of_lt h], fun j hj => by omega⟩
theorem SqRel.next {n b m v : Nat} (h : SqRel n b m v) (hv : v ≠ 1) : SqRel n b (m + 1) (v * v % n) := by
  refine ⟨?_, fun j hj => ?_⟩
  · have e := pow_two_up b (m + 1) (by omega)
    rw [Nat.add_sub_cancel] at e
    rw [h.val, ← Nat.mul_mod, e]
  · rcases Nat.lt_or_ge j m with h1 | h1
    · exact h.no j h1
    · obtain rfl : j = m := by omega
      rw [← h.val]; exact hv
theorem SqRel.lt {n a x b g t m v : Nat} (h : SqRel n b m v) (s : TS n a x b g t) : m < t := by
  rcases Nat.lt_or_ge m t with h1 | h1
  · exact h1
  · exact absurd s.one (h.no (t - 1) (by have := s.pos; omega))
theorem row_is_one {w : World} {v : Value} {x : Nat} (h : RowX w v x) : ∃ A n cap, v = .slice A n cap ∧ ((x = 1 ∧ n = 1 ∧ ∃ g, A = some ⟨g, 0, none⟩ ∧ w.cell? ⟨g, 0, none⟩ = some (.int .i64 1)) ∨ (x ≠ 1 ∧ n ≠ 1) ∨ (x ≠ 1 ∧ n = 1 ∧ ∃ g c, A = some ⟨g, 0, none⟩ ∧ w.cell? ⟨g, 0, none⟩ = some (.int .i64 ((c : Nat) : Int)) ∧ c ≠ 1)) := by
  obtain ⟨A, n, cap, rfl, z0, z1, z2, _⟩ := h.form
  refine ⟨A, n, cap, rfl, ?_⟩
  by_cases hn : n = 1
  · subst hn
    obtain ⟨g, c, rfl, hc, hcv⟩ := z1 (by omega)
    have hlt := (z2.1 rfl).2
    rw [Nat.mod_eq_of_lt hlt] at hcv
    subst hcv
    by_cases h1 : c = 1
    · subst h1; exact .inl ⟨rfl, rfl, g, rfl, hc⟩
    · exact .inr (.inr ⟨h1, rfl, g, c, rfl, hc, h1⟩)
  · exact .inr (.inl ⟨fun e => hn (z2.2 (by omega)), hn⟩)
theorem ts_step {n a x b g t m : Nat} (hp : Prm n) (h : TS n a x b g t) (h1 : 1 ≤ m) (hm : m < t) (sq : SqRel n b m 1) {G : Nat} (hG : G = g ^ (2 ^ (t - m - 1)) % n) :
    TS n a (x * G % n) (b * (G * G % n) % n) (G * G % n) m := by
  have e1 : b ^ (2 ^ m) % n = 1 := sq.val.symm
  have e2 := sq.no (m - 1) (by omega)
  have k := (TS.next hp h h1 hm e1 e2).mod
  obtain ⟨y, hy⟩ : ∃ y, g ^ (2 ^ (t - m - 1)) = y := ⟨_, rfl⟩
  rw [hy] at k hG
  have E1 : x * G % n = x * y % n := by rw [hG, Nat.mul_mod_mod]
  have E2 : G * G % n = y * y % n := by rw [hG, ← Nat.mul_mod]
  have E3 : b * (G * G % n) % n = b * (y * y) % n := by rw [E2, Nat.mul_mod_mod]
  rw [E1, E3, E2]
  exact k
theorem sq_up {n g G i : Nat} (h : G = g ^ (2 ^ i) % n) : G * G % n = g ^ (2 ^ (i + 1)) % n := by
  have e := pow_two_up g (i + 1) (by omega)
  rw [Nat.add_sub_cancel] at e
  rw [h, ← Nat.mul_mod, e]
def RootPost (a p : ByteArray) (w : World) (e : Ending) (w' : World) : Prop := e = .returned (.tuple #[.string (rootG a p), .bool (rootB a p)]) ∧ Below w.heap.size w w'
end Go.Proofs.Ytkmmlfocidfghaa

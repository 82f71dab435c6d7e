import Derived.Test.YtejmogdognenmaaUBase
import Derived.Test.YtejmogdognenmaaQMath
/-
  Chapter 8 as mathematics: which pairs are squares, of what, and that there are but two roots.
-/
namespace Go.Proofs.Ytejmogdognenmaa
end Go.Proofs.Ytejmogdognenmaa
/-
  Chapter 8: what it answers, as plain functions of the texts; there is but one root that is not greater.
-/
namespace Go.Proofs.Ytejmogdognenmaa
def pprimeB (p : ByteArray) : Bool := primeB p && decide (gV p % 4 = 3)
def gtP (n : Nat) (y : Pn) : Bool := if y.2 = 0 then decide ((0 + n - y.1) % n < y.1) else decide ((0 + n - y.2) % n < y.2)
def pgtB (x : Pt) (p : ByteArray) : Bool := pairB x p && gtP (gV p) (valP x)
def sqN (n : Nat) (x : Pn) : Bool := decide (0 ≤ symN (normP n x) n)
def psqB (x : Pt) (p : ByteArray) : Bool := pprimeB p && (pairB x p && sqN (gV p) (valP x))
/-! As texts. -/
theorem pprime_parts {p : ByteArray} (h : pprimeB p = true) : primeB p = true ∧ PrimeP (gV p) ∧ gV p % 4 = 3 := by
  unfold pprimeB at h
  simp only [Bool.and_eq_true, decide_eq_true_eq] at h
  exact ⟨h.1, (primeB_p h.1).2, h.2⟩
theorem sym_norm {x : Pt} {p : ByteArray} (hp : primeB p = true) (hx : pairB x p = true) : symG (normG x p) p = symN (normP (gV p) (valP x)) (gV p) ∧ restB (normG x p) p = true := by
  have hm := (pairB_parts hx).1
  unfold symG normG
  rw [if_pos hx]
  have hr := rest_gS hm (normP_lt (mod_pos hm) (valP x))
  rw [hp, hr, gV_gS]
  exact ⟨rfl, rfl⟩
theorem greater_rest {a p : ByteArray} (hm : modB p = true) (h : restB a p = true) : greaterB a p = decide ((0 + gV p - gV a) % gV p < gV a) := by unfold greaterB oneB; rw [hm, h]; rfl
/-- Either order of asking. -/
theorem pgt_parts {x : Pt} {p : ByteArray} (h : pairB x p = true) : pgtB x p = (greaterB x.2 p || (x.2.toList.isEmpty && greaterB x.1 p)) ∧ pgtB x p = (if x.2.toList.isEmpty then greaterB x.1 p else greaterB x.2 p) := by
  obtain ⟨hm, h1, h2⟩ := pairB_parts h
  unfold pgtB
  rw [h, greater_rest hm h1, greater_rest hm h2, zero_of (restB_parts h2).1, Bool.true_and]
  unfold gtP valP
  by_cases h0 : gV x.2 = 0
  · rw [if_pos h0, decide_eq_true h0, if_pos rfl]
    rw [decide_eq_false (show ¬ (0 + gV p - gV x.2) % gV p < gV x.2 from by rw [h0]; exact Nat.not_lt_zero _), Bool.false_or, Bool.true_and]
    exact ⟨rfl, rfl⟩
  · rw [if_neg h0, decide_eq_false h0, Bool.false_and, Bool.or_false]
    exact ⟨rfl, rfl⟩
theorem pgt_no {x : Pt} {p : ByteArray} (h : pairB x p = false) : pgtB x p = false := by unfold pgtB; rw [h]; rfl
end Go.Proofs.Ytejmogdognenmaa

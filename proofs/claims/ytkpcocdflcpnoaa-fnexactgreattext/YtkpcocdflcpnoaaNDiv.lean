/-
  The contracts of spec.l02Div at every two rows, and of spec.DivGreat.
-/
import Derived.Test.YtkpcocdflcpnoaaNDivD
namespace Go.Proofs.Ytkpcocdflcpnoaa
open Go.RowKit

theorem div_any (b1 b2 ca cb : Nat) (A B : Option Addr) (la lb : List Nat) (w : World) (ha : RowN w b1 A ca la) (hb : RowN w b2 B cb lb) (La : Limbs la) (Lb : Limbs lb) (ta : Trimmed la) (tb : Trimmed lb) (hla : la.length ≤ 400000) (h0 : 0 < lV lb) :
    Calls Try.prog 49 #[.slice A la.length ca, .slice B lb.length cb] w (DivPost (lV la) (lV lb) w) := by
  by_cases hlt : lV la < lV lb
  · exact div_less b1 b2 ca cb A B la lb w ha hb La Lb ta tb hla hlt
  by_cases h1 : lb.length = 1
  · obtain ⟨d, rfl⟩ : ∃ d, lb = [d] := by
      cases lb with
      | nil => cases h1
      | cons d r =>
        have : r = [] := List.eq_nil_of_length_eq_zero (by simpa using h1)
        exact ⟨d, by rw [this]⟩
    have hv : lV [d] = d := by simp [lV]
    rw [hv] at h0 hlt ⊢
    exact div_one b1 b2 ca cb d A B la w ha hb La Lb ta tb hla (by omega) h0
  · have h2 : 2 ≤ lb.length := by
      rcases Nat.lt_or_ge lb.length 2 with h | h
      · exfalso
        have : lb = [] := List.eq_nil_of_length_eq_zero (by omega)
        rw [this] at h0
        exact absurd h0 (by simp [lV])
      · exact h
    exact div_many b1 b2 ca cb A B la lb w ha hb La Lb ta tb hla (by omega) h2

def divB (a b : ByteArray) : Bool := okT a b && decide (0 < gV b)
def divQ (a b : ByteArray) : ByteArray := if divB a b then gS (gV a / gV b) else ⟨#[]⟩
def divR (a b : ByteArray) : ByteArray := if divB a b then gS (gV a % gV b) else ⟨#[]⟩
theorem gV_empty {s : ByteArray} (h : s.size = 0) : gV s = 0 := by
  have : s.data.toList = [] := List.eq_nil_of_length_eq_zero (by simpa using h)
  unfold gV; rw [this]; rfl
theorem gV_pos {s : ByteArray} (ok : okG s = true) (h : 0 < s.size) : 0 < gV s := Nat.lt_of_lt_of_le (Nat.pow_pos (by omega)) (gV_ge ok h)
def DivGPost (a b : ByteArray) (w : World) (e : Ending) (w' : World) : Prop := e = .returned (.tuple #[.string (divQ a b), .string (divR a b), .bool (divB a b)]) ∧ Below w.heap.size w w'
theorem divG_no {a b : ByteArray} (h : divB a b = false) {w w' : World} (hb : Below w.heap.size w w') : DivGPost a b w (.returned (.tuple #[.string ⟨#[]⟩, .string ⟨#[]⟩, .bool false])) w' := ⟨by unfold divQ divR; rw [h]; rfl, hb⟩
theorem divG_yes {a b : ByteArray} (h : divB a b = true) {w w' : World} (hb : Below w.heap.size w w') : DivGPost a b w (.returned (.tuple #[.string (gS (gV a / gV b)), .string (gS (gV a % gV b)), .bool true])) w' := ⟨by unfold divQ divR; rw [h]; rfl, hb⟩
end Go.Proofs.Ytkpcocdflcpnoaa

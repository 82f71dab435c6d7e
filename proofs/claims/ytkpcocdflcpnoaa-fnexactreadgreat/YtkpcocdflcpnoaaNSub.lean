/-
  The contracts of spec.l02Add at every two rows, and of spec.l02Sub.
-/
import Derived.Test.YtkpcocdflcpnoaaNAddB
namespace Go.Proofs.Ytkpcocdflcpnoaa
open Go.RowKit

theorem add_any (b1 b2 ca cb : Nat) (A B : Option Addr) (la lb : List Nat) (w : World) (ha : RowN w b1 A ca la) (hb : RowN w b2 B cb lb) (La : Limbs la) (Lb : Limbs lb) (hla : la.length ≤ 1000000) (hlb : lb.length ≤ 1000000) :
    Calls Try.prog 45 #[.slice A la.length ca, .slice B lb.length cb] w (RowPost (SumP (lV la + lV lb)) w) := by
  by_cases h : lb.length ≤ la.length
  · exact add_core b1 b2 ca cb A B la lb w ha hb La Lb hla h
  · have H := Lib.hid (add_core b2 b1 cb ca B A lb la w hb ha Lb La hlb (by omega))
    have h1 : (la.length : Int) < (lb.length : Int) := by omega
    generalize la.length = na at *
    generalize lb.length = nb at *
    clear ha hb La Lb
    go_enter Try.func45, Try.ntmps45
    go_wp2_with fail
    refine H.out.mono ?_
    rintro e w1 ⟨R, cap, l, rfl, hp, hr, hb⟩
    have Z : RowPost (SumP (lV la + lV lb)) w (.returned (.slice R l.length cap)) w1 := ⟨R, cap, l, rfl, by rw [Nat.add_comm]; exact hp, hr, hb⟩
    have HZ := Lib.hid Z
    clear Z hp hr hb
    go_wp2
    go_ret
    exact HZ.out

/-- What the loop of l02Sub holds behind i limbs: c is what was borrowed. -/
def SubRel (la lb : List Nat) (i c : Nat) (o : List Nat) : Prop := Limbs o ∧ o.length = i ∧ lV (la.take i) + 16777216 ^ i * c = lV (lb.take i) + lV o
theorem SubRel.next {la lb o : List Nat} {i c y z : Nat} (h : SubRel la lb i c o) (hy : y < 16777216) (hn : la.getD i 0 + 16777216 * z = lb.getD i 0 + c + y) : SubRel la lb (i + 1) z (o ++ [y]) := by
  obtain ⟨h1, h2, h3⟩ := h
  refine ⟨h1.snoc hy, by simp [h2], ?_⟩
  rw [lV_snoc, h2, lV_take_succ, lV_take_succ, Nat.pow_succ, Nat.mul_assoc]
  have e : 16777216 ^ i * (la.getD i 0 + 16777216 * z) = 16777216 ^ i * (lb.getD i 0 + c + y) := by rw [hn]
  rw [Nat.mul_add, Nat.mul_add, Nat.mul_add] at e
  omega
theorem SubRel.done {la lb o : List Nat} {c : Nat} (h : SubRel la lb la.length c o) (hl : lb.length ≤ la.length) (hla : la.length ≤ 1000000) (hle : lV lb ≤ lV la) : SumP (lV la - lV lb) o := by
  obtain ⟨h1, h2, h3⟩ := h
  rw [List.take_of_length_le (Nat.le_refl _), List.take_of_length_le hl] at h3
  have hlt := lV_lt h1
  rw [h2] at hlt
  have hc : c = 0 := by
    rcases Nat.eq_zero_or_pos c with h | h
    · exact h
    · have : 16777216 ^ la.length * 1 ≤ 16777216 ^ la.length * c := Nat.mul_le_mul_left _ h
      omega
  subst hc
  exact ⟨h1, by simp at h3; omega, by omega⟩

end Go.Proofs.Ytkpcocdflcpnoaa

import Derived.Test.YtdajgcgliidjbaaGreatRDraw
import Derived.Test.YtdajgcgliidjbaaGreatMAll
import Derived.Maps.AppendAt
import Derived.Laws.AppendOwnNone
namespace Go.Proofs.YtdajgcgliidjbaaGreat
open Go.RowKit
theorem okS {x : Nat} (h : x < GB) : okG (gS x) = true := by rw [okG_gS]; simpa using h
theorem rest_gS {x : Nat} {p : ByteArray} (hp : modB p = true) (hx : x < gV p) : restB (gS x) p = true := by
 obtain ⟨okp, _⟩ := modB_parts hp
 have := gV_lt okp
 unfold restB
 rw [okS (by omega), okp, gV_gS, decide_eq_true hx]; rfl
theorem rest_num {a p : ByteArray} (h : restB a p = true) : a = gS (gV a) ∧ gV a < gV p := by
 obtain ⟨oka, _, hl⟩ := restB_parts h
 exact ⟨(gS_gV oka).symm, hl⟩
theorem inv_ex {a n : Nat} : ∀ (s r x y : Nat), 1 < n → InvRel a n r s x y → ∃ z, z < n ∧ z * a % n = Nat.gcd n a % n := by
 intro s
 induction s using Nat.strongRecOn with
 | _ s ih =>
  intro r x y hn h
  rcases Nat.eq_zero_or_pos s with e | e
  ·subst e
   exact ⟨x, h.xn, by rw [h.xa, ← h.g, Nat.gcd_zero_right]⟩
  ·exact ih (r % s) (Nat.mod_lt _ e) _ _ _ hn (h.next hn e)
theorem inv_of {a n : Nat} (ha : a < n) (hn : 1 < n) (hg : Nat.gcd n a = 1) : invN a n < n ∧ invN a n * a % n = 1 := by
 obtain ⟨z, hz, e⟩ := inv_ex a n 0 1 hn (InvRel.start ha hn)
 rw [hg, Nat.mod_eq_of_lt hn] at e
 rw [invN_eq hz e]
 exact ⟨hz, e⟩
end Go.Proofs.YtdajgcgliidjbaaGreat

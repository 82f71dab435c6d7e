import Derived.Test.YtdajgcgliidjbaaGreatRDraw
import Derived.Test.YtdajgcgliidjbaaGreatMAll
import Derived.Maps.AppendAt
import Derived.Laws.AppendOwnNone
namespace Go.Proofs.YtdajgcgliidjbaaGreat
open Go.RowKit
theorem okS {x : Nat} (h : x < GB) : okG (gS x) = true := by rw [okG_gS]; simpa using h
theorem rest_gS {x : Nat} {p : ByteArray} (hp : modB p = true) (hx : x < gV p) : restB (gS x) p = true := by
 obtain ⟨okp, _⟩ := modB_parts hp
 have := gV_lt okp
 unfold restB
 rw [okS (by omega), okp, gV_gS, decide_eq_true hx]; rfl
theorem two_gS {x y : Nat} {p : ByteArray} (hp : modB p = true) (hx : x < gV p) (hy : y < gV p) : twoB (gS x) (gS y) p = true := by
 unfold twoB
 rw [hp, rest_gS hp hx, rest_gS hp hy]; rfl
theorem add_gS {x y : Nat} {p : ByteArray} (hp : modB p = true) (hx : x < gV p) (hy : y < gV p) : addR (gS x) (gS y) p = gS ((x + y) % gV p) := by
 unfold addR
 rw [two_gS hp hx hy, if_pos rfl, gV_gS, gV_gS]
theorem sub_gS {x y : Nat} {p : ByteArray} (hp : modB p = true) (hx : x < gV p) (hy : y < gV p) : subR (gS x) (gS y) p = gS ((x + gV p - y) % gV p) := by
 unfold subR
 rw [two_gS hp hx hy, if_pos rfl, gV_gS, gV_gS]
theorem mul_gS {x y : Nat} {p : ByteArray} (hp : modB p = true) (hx : x < gV p) (hy : y < gV p) : mulR (gS x) (gS y) p = gS (x * y % gV p) := by
 unfold mulR
 rw [two_gS hp hx hy, if_pos rfl, gV_gS, gV_gS]
theorem neg_gS {x : Nat} {p : ByteArray} (hp : modB p = true) (hx : x < gV p) : negR (gS x) p = gS ((gV p - x) % gV p) := by
 have h0 := (modB_parts hp).2
 unfold negR
 rw [← gS_zero, sub_gS hp (by omega) hx, Nat.zero_add]
theorem pow_gS {x m : Nat} {p : ByteArray} (hp : modB p = true) (hx : x < gV p) (hm : m < GB) : powR (gS x) (gS m) p = gS (x ^ m % gV p) := by
 unfold powR oneB
 rw [hp, rest_gS hp hx, okS hm, Bool.and_true, Bool.and_true, if_pos rfl, gV_gS, gV_gS]
theorem rest_num {a p : ByteArray} (h : restB a p = true) : a = gS (gV a) ∧ gV a < gV p := by
 obtain ⟨oka, _, hl⟩ := restB_parts h
 exact ⟨(gS_gV oka).symm, hl⟩
theorem gS_one : gS 1 = ⟨#[1]⟩ := by unfold gS; rw [gT_pos (by omega), show 1 / 256 = 0 from rfl, gT_zero]; rfl
theorem inv_ex {a n : Nat} : ∀ (s r x y : Nat), 1 < n → InvRel a n r s x y → ∃ z, z < n ∧ z * a % n = Nat.gcd n a % n := by
 intro s
 induction s using Nat.strongRecOn with
 | _ s ih =>
  intro r x y hn h
  rcases Nat.eq_zero_or_pos s with e | e
  ·subst e
   exact ⟨x, h.xn, by rw [h.xa, ← h.g, Nat.gcd_zero_right]⟩
  ·exact ih (r % s) (Nat.mod_lt _ e) _ _ _ hn (h.next hn e)
theorem inv_of {a n : Nat} (ha : a < n) (hn : 1 < n) (hg : Nat.gcd n a = 1) : invN a n < n ∧ invN a n * a % n = 1 := by
 obtain ⟨z, hz, e⟩ := inv_ex a n 0 1 hn (InvRel.start ha hn)
 rw [hg, Nat.mod_eq_of_lt hn] at e
 rw [invN_eq hz e]
 exact ⟨hz, e⟩
end Go.Proofs.YtdajgcgliidjbaaGreat

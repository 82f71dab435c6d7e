import Derived.Test.YtdajgcgliidjbaaZPLaw
import Derived.Test.YtdajgcgliidjbaaVRoot
import Derived.Test.YtdajgcgliidjbaaUInvs
/-
  The sum of two right points over pairs, reckoned as impl does: the same point.
-/
namespace Go.Proofs.Ytdajgcgliidjbaa
open Go.RowKit
theorem subm_none {n x y : Nat} (hx : x < n) (hy : y < n) : (x + n - y) % n = 0 ↔ x = y := by
  constructor
  · intro h1
    rcases Nat.lt_or_ge x y with k | k
    · rw [Nat.mod_eq_of_lt (by omega)] at h1; omega
    · rw [show x + n - y = x - y + n by omega, Nat.add_mod_right, Nat.mod_eq_of_lt (by omega)] at h1; omega
  · rintro rfl
    rw [show x + n - x = n by omega, Nat.mod_self]
theorem subP_none {n : Nat} {x y : Pn} (hx : InP2 n x) (hy : InP2 n y) : subP n x y = (0, 0) ↔ x = y := by
  constructor
  · intro h
    exact Prod.ext ((subm_none hx.1 hy.1).1 (congrArg Prod.fst h)) ((subm_none hx.2 hy.2).1 (congrArg Prod.snd h))
  · rintro rfl
    exact Prod.ext ((subm_none hx.1 hx.1).2 rfl) ((subm_none hx.2 hx.2).2 rfl)
theorem txtP_inj {X Y : Pn} (h : txtP X = txtP Y) : X = Y := by
  have e := congrArg valP h
  rwa [val_txt, val_txt] at e
end Go.Proofs.Ytdajgcgliidjbaa

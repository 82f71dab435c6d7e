import Derived.Test.YtdajgcgliidjbaaGreatJRow
import Derived.Test.YtdajgcgliidjbaaGreatRLaw
import Derived.Test.YtdajgcgliidjbaaGreatIDivR
import Derived.Test.YtdajgcgliidjbaaGreatNDivs
import Derived.Test.YtdajgcgliidjbaaGreatICmp
namespace Go.Proofs.YtdajgcgliidjbaaGreat
open Go.RowKit
theorem cmp_rest (a p : ByteArray) : decide (cmpG a p < 0) = restB a p := by
 unfold cmpG restB okT
 cases ha : okG a <;> cases hp : okG p <;> simp [cmp_lt]
theorem cmp_mod (p : ByteArray) : decide (0 < cmpG p ⟨#[1]⟩) = modB p := by
 unfold cmpG modB okT
 rw [show okG ⟨#[1]⟩ = true from rfl, show gV ⟨#[1]⟩ = 1 from rfl]
 cases hp : okG p
 ·rfl
 ·simp only [Bool.true_and, Bool.and_self, if_true, cmpI]
  rcases Nat.lt_trichotomy (gV p) 1 with h | h | h
  ·rw [if_pos h, decide_eq_false (by omega : ¬ 1 < gV p)]; rfl
  ·rw [if_neg (by omega), if_pos h, decide_eq_false (by omega : ¬ 1 < gV p)]; rfl
  ·rw [if_neg (by omega), if_neg (by omega), decide_eq_true h]; rfl
theorem restOk_s (a p : ByteArray) (w : World) : Calls Tryz.prog 68 #[.string a, .string p] w fun e w' => e = .returned (.bool (restB a p)) ∧ w = w' := by
 rw [← cmp_rest]
 have H := Lib.hid (compareGreat_i a p)
 generalize cmpG a p = v at *
 go_enter Tryz.func68, Tryz.ntmps68
 go_wp2_with fail
 refine (H.out _).mono ?_
 rintro e w1 ⟨rfl, rfl⟩
 go_wp2
 go_ret
 exact ⟨rfl, rfl⟩
theorem restOk_i (a p : ByteArray) (w : World) : Calls Tryz.prog 68 #[.string a, .string p] w fun e w' => e = .returned (.bool (restB a p)) ∧ Below w.heap.size w w' :=
 (restOk_s a p w).mono fun _ _ ⟨h1, h2⟩ => ⟨h1, h2 ▸ Below.refl _ _⟩
theorem leaves_s (p : ByteArray) (w : World) : Calls Tryz.prog 67 #[.string p] w fun e w' => e = .returned (.bool (modB p)) ∧ w = w' := by
 rw [← cmp_mod]
 have H := Lib.hid (compareGreat_i p ⟨#[1]⟩)
 generalize cmpG p ⟨#[1]⟩ = v at *
 go_enter Tryz.func67, Tryz.ntmps67
 go_wp2_with fail
 refine (H.out _).mono ?_
 rintro e w1 ⟨rfl, rfl⟩
 go_wp2
 go_ret
 exact ⟨rfl, rfl⟩
theorem great_gS {V : Nat} (h : V < GB) : boundG (gS V) = gS V := by rw [boundG_gS, if_pos h]
end Go.Proofs.YtdajgcgliidjbaaGreat

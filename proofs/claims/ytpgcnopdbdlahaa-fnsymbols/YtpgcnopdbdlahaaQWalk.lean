/-
  The walks of laws.FnSymbols and FnRoots.
-/
import Derived.Test.YtpgcnopdbdlahaaJRoots
import Derived.Test.YtpgcnopdbdlahaaQLaw
import Derived.Test.YtpgcnopdbdlahaaQDraw
namespace Go.Proofs.Ytpgcnopdbdlahaa
open Go.RowKit

set_option maxRecDepth 8000 in
set_option maxHeartbeats 8000000 in
theorem symbols_walk (a0 : Option Addr) (len0 cap0 : Nat) (z0 : List Int) (w : World) (w0 : IsRow .u8 w a0 len0 cap0 z0) :
    Calls Try.prog 3 #[.slice a0 len0 cap0] w (Yes w) := by
  have hlen : len0 ≤ maxLen := by rcases w0 with ⟨_, rfl, _⟩ | ⟨_, _, h1, h2, _⟩ <;> unfold maxLen at * <;> omega
  have HBig := Lib.hid (big_g a0 len0 cap0 w hlen)
  by_cases h1 : 1048576 < len0
  · have hd : decide ((1048576 : Int) < (len0 : Int)) = true := by simp; omega
    clear w0 hlen
    go_enter Try.func3, Try.ntmps3
    go_wp2_with fail
    refine HBig.out.mono ?_
    rintro e w' ⟨rfl, rfl⟩
    go_wp2
    go_ret
    exact ⟨rfl, Below.refl _ _⟩
  have hd : decide ((1048576 : Int) < (len0 : Int)) = false := by simp; omega
  have HDI := Lib.hid (w0.draw (by omega))
  have HD := Lib.hid (drawSymbolOf_c a0 len0 cap0 w HDI.out)
  clear w0 hlen h1
  go_enter Try.func3, Try.ntmps3
  go_wp2_with fail
  refine HBig.out.mono ?_
  rintro e w' ⟨rfl, rfl⟩
  go_wp2_with fail
  refine HD.out.mono ?_
  rintro e w1 ⟨a, p, rfl, b1⟩
  have HD2 := Lib.hid (HDI.out.on b1)
  have HB1 := Lib.hid b1
  clear HBig HD hd HDI b1
  have S1 := Lib.hid (symbolOf_i a p)
  have S2 := Lib.hid (symbolOf_any a p)
  have P1 := Lib.hid (primeOk_i p)
  have P2 := Lib.hid (primeOk_any p)
  unfold SymPost at S1 S2
  have HL : Hid ((primeB p && restB a p) = false ∧ symG a p = 2 ∨ SymLaws a p) := by
    cases hc : (primeB p && restB a p) with
    | false => exact .inl ⟨rfl, sym_no hc⟩
    | true =>
      obtain ⟨hp, ha⟩ := (by simpa using hc : primeB p = true ∧ restB a p = true)
      exact .inr (sym_laws hp ha)
  have hpq : (primeB p != primeB p) = false := by simp
  generalize primeB p = pb at *
  go_wp2_with fail
  refine (S1.out _).mono ?_
  rintro e w2 ⟨rfl, b2⟩
  go_wp2_with fail
  refine (S2.out _).mono ?_
  rintro e w3 ⟨rfl, b3⟩
  have hsq : (symG a p != symG a p) = false := by simp
  obtain ⟨sv, hsv⟩ : ∃ sv, symG a p = sv := ⟨_, rfl⟩
  rw [hsv] at hsq HL ⊢
  have HSV := Lib.hid hsv
  have HD3 := Lib.hid ((HD2.out.on b2).on b3)
  have HB3 := Lib.hid (bt (bt HB1.out b2) b3)
  clear hsv b2 b3 S1 S2 HD2 HB1
  go_wp2_with fail
  refine (P1.out _).mono ?_
  rintro e w4 ⟨rfl, b4⟩
  go_wp2_with fail
  refine (P2.out _).mono ?_
  rintro e w5 ⟨rfl, b5⟩
  have HB5 := Lib.hid (bt (bt HB3.out b4) b5)
  have DT := Lib.hid (drawTwosIn_c a0 len0 cap0 w5 ((HD3.out.on b4).on b5))
  clear b4 b5 P1 P2 HB3 HD3
  go_wp2_with fail
  refine DT.out.mono ?_
  rintro e w6 ⟨q, rfl, b6⟩
  have T1 := Lib.hid (twosIn_i q)
  have T2 := Lib.hid (twosIn_any q)
  unfold TwosPost at T1 T2
  generalize (twosG q : Int) = tv at *
  generalize oddG q = ov at *
  have htq : (tv != tv) = false := by simp
  go_wp2_with fail
  refine (T1.out _).mono ?_
  rintro e w7 ⟨rfl, b7⟩
  go_wp2_with fail
  refine (T2.out _).mono ?_
  rintro e w8 ⟨rfl, b8⟩
  have HB8 := Lib.hid (bt (bt (bt HB5.out b6) b7) b8)
  clear b6 b7 b8 T1 T2 DT HB5
  rcases HL.out with ⟨_, rfl⟩ | L
  · have S3 := Lib.hid (symbolOf_i ⟨#[2]⟩ ⟨#[7]⟩)
    unfold SymPost at S3
    rw [sym_27] at S3
    clear HL HSV
    go_wp2_with fail
    refine (S3.out _).mono ?_
    rintro e w9 ⟨rfl, b9⟩
    have bb := bt HB8.out b9
    clear HB8 b9 S3
    go_wp2
    go_ret
    exact ⟨rfl, bb⟩
  · have N1 := Lib.hid (noSquare_i p)
    have S4 := Lib.hid (symbolOf_i (nosqG p) p)
    have M1 := Lib.hid (mulRest_any a (nosqG p) p)
    have S5 := Lib.hid (symbolOf_i (mulR a (nosqG p) p) p)
    have M2 := Lib.hid (mulRest_any a a p)
    have S6 := Lib.hid (symbolOf_i (mulR a a p) p)
    unfold SymPost at S4 S5 S6
    have l1 := L.three
    rw [L.no] at S4
    rw [L.mul, HSV.out] at S5
    rw [L.sq, HSV.out] at S6
    rw [HSV.out] at l1
    generalize mulR a (nosqG p) p = m1 at *
    generalize mulR a a p = m2 at *
    generalize nosqG p = ns at *
    clear HL HSV L hsq
    rcases l1 with rfl | rfl | rfl
    all_goals (
      go_wp2_with fail
      refine (N1.out _).mono ?_
      rintro e w9 ⟨rfl, b9⟩
      go_wp2_with fail
      refine (S4.out _).mono ?_
      rintro e w10 ⟨rfl, b10⟩
      go_wp2_with fail
      refine (M1.out _).mono ?_
      rintro e w11 ⟨rfl, b11⟩
      go_wp2_with fail
      refine (S5.out _).mono ?_
      rintro e w12 ⟨rfl, b12⟩
      go_wp2_with fail
      refine (M2.out _).mono ?_
      rintro e w13 ⟨rfl, b13⟩
      go_wp2_with fail
      refine (S6.out _).mono ?_
      rintro e w14 ⟨rfl, b14⟩
      have bb := bt (bt (bt (bt (bt (bt HB8.out b9) b10) b11) b12) b13) b14
      clear HB8 b9 b10 b11 b12 b13 b14 N1 S4 M1 S5 M2 S6
      go_wp2
      go_ret
      exact ⟨rfl, bb⟩)
end Go.Proofs.Ytpgcnopdbdlahaa

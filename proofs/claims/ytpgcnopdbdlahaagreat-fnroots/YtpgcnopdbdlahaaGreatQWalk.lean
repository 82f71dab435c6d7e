/-
  The walks of laws.FnSymbols and FnRoots.
-/
import Derived.Test.YtpgcnopdbdlahaaGreatJRoots
import Derived.Test.YtpgcnopdbdlahaaGreatQLaw
import Derived.Test.YtpgcnopdbdlahaaGreatQDraw
namespace Go.Proofs.YtpgcnopdbdlahaaGreat
open Go.RowKit

set_option maxRecDepth 8000 in
set_option maxHeartbeats 8000000 in
theorem roots_walk (a0 : Option Addr) (len0 cap0 : Nat) (z0 : List Int) (w : World) (w0 : IsRow .u8 w a0 len0 cap0 z0) :
    Calls Tryz.prog 3 #[.slice a0 len0 cap0] w (Yes w) := by
  have hlen : len0 ≤ maxLen := by rcases w0 with ⟨_, rfl, _⟩ | ⟨_, _, h1, h2, _⟩ <;> unfold maxLen at * <;> omega
  have HBig := Lib.hid (big_g a0 len0 cap0 w hlen)
  by_cases h1 : 1048576 < len0
  · have hd : decide ((1048576 : Int) < (len0 : Int)) = true := by simp; omega
    clear w0 hlen
    go_enter Tryz.func3, Tryz.ntmps3
    go_wp2_with fail
    refine HBig.out.mono ?_
    rintro e w' ⟨rfl, rfl⟩
    go_wp2
    go_ret
    exact ⟨rfl, Below.refl _ _⟩
  have hd : decide ((1048576 : Int) < (len0 : Int)) = false := by simp; omega
  have HDI := Lib.hid (w0.draw (by omega))
  have HD := Lib.hid (drawRootOf_c a0 len0 cap0 w HDI.out)
  clear w0 hlen h1
  go_enter Tryz.func3, Tryz.ntmps3
  go_wp2_with fail
  refine HBig.out.mono ?_
  rintro e w' ⟨rfl, rfl⟩
  go_wp2_with fail
  refine HD.out.mono ?_
  rintro e w1 ⟨a, p, rfl, b1⟩
  have HB1 := Lib.hid b1
  clear HBig HD hd HDI b1
  have R1 := Lib.hid (rootOf_i a p)
  have R2 := Lib.hid (rootOf_any a p)
  unfold RootPost at R1 R2
  cases hb : rootB a p with
  | false =>
    have hx := root_no hb
    rw [hb, hx] at R1 R2
    have G1 := Lib.hid (greater_i ⟨#[5]⟩ ⟨#[7]⟩)
    rw [greater_57] at G1
    clear hb hx
    go_wp2_with fail
    refine (R1.out _).mono ?_
    rintro e w2 ⟨rfl, b2⟩
    go_wp2_with fail
    refine (R2.out _).mono ?_
    rintro e w3 ⟨rfl, b3⟩
    have HB3 := Lib.hid (bt (bt HB1.out b2) b3)
    clear b2 b3 R1 R2 HB1
    go_wp2_with fail
    refine (G1.out _).mono ?_
    rintro e w4 ⟨rfl, b4⟩
    have bb := bt HB3.out b4
    clear b4 HB3 G1
    go_wp2
    go_ret
    exact ⟨rfl, bb⟩
  | true =>
    obtain ⟨l1, l2, l3⟩ := root_laws hb
    rw [hb] at R1 R2
    have M1 := Lib.hid (mulRest_i (rootG a p) (rootG a p) p)
    rw [l1] at M1
    have G1 := Lib.hid (greater_i (rootG a p) p)
    rw [l2] at G1
    have N1 := Lib.hid (negRest_i (rootG a p) p)
    have G2 := Lib.hid (greater_i (negR (rootG a p) p) p)
    clear hb l1 l2
    by_cases hx : rootG a p = ⟨#[]⟩
    · rw [hx] at R1 R2 M1 G1
      clear l3 hx N1 G2
      go_wp2_with fail
      refine (R1.out _).mono ?_
      rintro e w2 ⟨rfl, b2⟩
      go_wp2_with fail
      refine (R2.out _).mono ?_
      rintro e w3 ⟨rfl, b3⟩
      have HB3 := Lib.hid (bt (bt HB1.out b2) b3)
      clear b2 b3 R1 R2 HB1
      go_wp2_with fail
      refine (M1.out _).mono ?_
      rintro e w4 ⟨rfl, b4⟩
      go_wp2_with fail
      refine (G1.out _).mono ?_
      rintro e w5 ⟨rfl, b5⟩
      have bb := bt (bt HB3.out b4) b5
      clear b4 b5 HB3 G1 M1
      go_wp2
      go_ret
      exact ⟨rfl, bb⟩
    · have l4 := l3.resolve_left hx
      rw [l4] at G2
      have he : (rootG a p).toList.isEmpty = false := by
        cases h : (rootG a p).toList.isEmpty with
        | false => rfl
        | true =>
          exfalso
          apply hx
          have h2 : (rootG a p).toList = [] := by simpa using h
          rw [ByteArray.toList_eq] at h2
          cases hr : rootG a p with
          | mk d =>
            rw [hr] at h2
            exact congrArg ByteArray.mk (Array.toList_inj.1 (by simpa using h2))
      generalize negR (rootG a p) p = ng at *
      generalize rootG a p = rg at *
      clear l3 l4 hx
      go_wp2_with fail
      refine (R1.out _).mono ?_
      rintro e w2 ⟨rfl, b2⟩
      go_wp2_with fail
      refine (R2.out _).mono ?_
      rintro e w3 ⟨rfl, b3⟩
      have HB3 := Lib.hid (bt (bt HB1.out b2) b3)
      clear b2 b3 R1 R2 HB1
      go_wp2_with fail
      refine (M1.out _).mono ?_
      rintro e w4 ⟨rfl, b4⟩
      go_wp2_with fail
      refine (G1.out _).mono ?_
      rintro e w5 ⟨rfl, b5⟩
      go_wp2_with fail
      refine (N1.out _).mono ?_
      rintro e w6 ⟨rfl, b6⟩
      go_wp2_with fail
      refine (G2.out _).mono ?_
      rintro e w7 ⟨rfl, b7⟩
      have bb := bt (bt (bt (bt HB3.out b4) b5) b6) b7
      clear b4 b5 b6 b7 HB3 G1 M1 N1 G2
      go_wp2
      go_ret
      exact ⟨rfl, bb⟩
end Go.Proofs.YtpgcnopdbdlahaaGreat

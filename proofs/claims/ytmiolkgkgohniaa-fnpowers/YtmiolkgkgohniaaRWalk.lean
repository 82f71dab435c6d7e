/-
  The walks of laws.FnRests, FnInverses and FnPowers.
-/
import Derived.Test.YtmiolkgkgohniaaJRests
import Derived.Deep.RegionHeld3
namespace Go.Proofs.Ytmiolkgkgohniaa
open Go.RowKit

set_option maxRecDepth 8000 in
set_option maxHeartbeats 8000000 in
theorem rests_walk (a0 : Option Addr) (len0 cap0 : Nat) (z0 : List Int) (w : World) (w0 : IsRow .u8 w a0 len0 cap0 z0) :
    Calls Try.prog 3 #[.slice a0 len0 cap0] w (Yes w) := by
  have hlen : len0 ≤ maxLen := by rcases w0 with ⟨_, rfl, _⟩ | ⟨_, _, h1, h2, _⟩ <;> unfold maxLen at * <;> omega
  have hnil : a0 = none → len0 = 0 ∧ cap0 = 0 := by
    rcases w0 with ⟨_, h1, h2, _⟩ | ⟨_, h1, _⟩
    · exact fun _ => ⟨h1, h2⟩
    · exact fun e => by rw [h1] at e; cases e
  have HBig := Lib.hid (big_g a0 len0 cap0 w hlen)
  by_cases h1 : 1048576 < len0
  · have hd : decide ((1048576 : Int) < (len0 : Int)) = true := by simp; omega
    clear w0 hlen hnil
    go_enter Try.func3, Try.ntmps3
    go_wp2_with fail
    refine HBig.out.mono ?_
    rintro e w' ⟨rfl, rfl⟩
    go_wp2
    go_ret
    exact ⟨rfl, Below.refl _ _⟩
  have hd : decide ((1048576 : Int) < (len0 : Int)) = false := by simp; omega
  have hlen2 : len0 ≤ 1048576 := by omega
  have HDI := Lib.hid (w0.draw (by omega))
  have HNil := Lib.hid hnil
  have HD := Lib.hid (drawMul_c a0 len0 cap0 w HDI.out)
  clear w0 hlen h1 hnil
  go_enter Try.func3, Try.ntmps3
  go_wp2_with fail
  refine HBig.out.mono ?_
  rintro e w' ⟨rfl, rfl⟩
  go_wp2_with fail
  refine HD.out.mono ?_
  rintro e w1 ⟨a, b, p, rfl, b1⟩
  have HD1 := Lib.hid (HDI.out.on b1)
  have HB1 := Lib.hid b1
  clear HBig HD hd HDI b1
  go_wp2_with (at_builtin; refine append_code rfl (.tmp 21) (.tmp 22) rfl rfl rfl HNil.out HD1.out (by omega) (by omega) hlen2 ?_; rintro v g cp w2 rfl hd2 b2)
  have HB2 := Lib.hid (bt HB1.out b2)
  have HD2 := Lib.hid (drawMul_c (some ⟨g, 0, none⟩) (1 + len0) cp w2 hd2)
  clear HD1 hd2 b2 HB1
  go_wp2_with fail
  refine HD2.out.mono ?_
  rintro e w3 ⟨c0, b0, p0, rfl, b3⟩
  have HB3 := Lib.hid (bt HB2.out b3)
  clear HD2 b3 HB2
  have R0 := Lib.hid (restOf_any c0 p)
  have R1 := restOk_any a p
  have R2 := restOk_any b p
  have R3 := greatOk_any p
  have R4 := restOf_any ⟨#[1]⟩ p
  rw [one_rest] at R4
  have X1 := Lib.hid (addRest_i a b p)
  have X2 := Lib.hid (mulRest_i a b p)
  have X3 := Lib.hid (addRest_i ⟨#[2]⟩ ⟨#[2]⟩ ⟨#[3]⟩)
  rw [add223] at X3
  go_wp2_with fail
  refine (R0.out _).mono ?_
  rintro e w4 ⟨rfl, b4⟩
  have HB4 := Lib.hid (bt HB3.out b4)
  clear b4 HB3 R0
  cases hT : twoB a b p with
  | false =>
    obtain ⟨n1, n2⟩ := two_no hT
    rw [n1] at X1
    rw [n2] at X2
    clear n1 n2
    generalize restG c0 p = c at *
    cases hra : restB a p with
    | false =>
      rw [hra] at R1
      go_wp2_with fail
      refine (R1 _).mono ?_
      rintro e w5 ⟨rfl, b5⟩
      go_wp2_with fail
      refine (X1.out _).mono ?_
      rintro e qb6 ⟨rfl, b6⟩
      go_wp2_with fail
      refine (X2.out _).mono ?_
      rintro e qb7 ⟨rfl, b7⟩
      go_wp2_with fail
      refine (X3.out _).mono ?_
      rintro e qb8 ⟨rfl, b8⟩
      have bb := bt (bt (bt (bt HB4.out b5) b6) b7) b8
      clear b5 b6 b7 b8 HB4 X1 X2 X3 R1 R2 R3 R4
      go_wp2
      go_ret
      exact ⟨rfl, bb⟩
    | true =>
      rw [hra] at R1
      cases hrb : restB b p with
      | false =>
        rw [hrb] at R2
        go_wp2_with fail
        refine (R1 _).mono ?_
        rintro e w5a ⟨rfl, b5a⟩
        go_wp2_with fail
        refine (R2 _).mono ?_
        rintro e w5 ⟨rfl, b5b⟩
        have b5 := bt b5a b5b
        go_wp2_with fail
        refine (X1.out _).mono ?_
        rintro e qb6 ⟨rfl, b6⟩
        go_wp2_with fail
        refine (X2.out _).mono ?_
        rintro e qb7 ⟨rfl, b7⟩
        go_wp2_with fail
        refine (X3.out _).mono ?_
        rintro e qb8 ⟨rfl, b8⟩
        have bb := bt (bt (bt (bt HB4.out b5) b6) b7) b8
        clear b5 b6 b7 b8 HB4 X1 X2 X3 R1 R2 R3 R4
        go_wp2
        go_ret
        exact ⟨rfl, bb⟩
      | true =>
        rw [hrb] at R2
        have okp := (restB_parts hra).2.1
        rw [okp] at R3
        have hm : modB p = false := by
          unfold twoB at hT
          rw [hra, hrb] at hT
          simpa using hT
        rw [hm, if_neg (by decide)] at R4
        go_wp2_with fail
        refine (R1 _).mono ?_
        rintro e w5a ⟨rfl, b5a⟩
        go_wp2_with fail
        refine (R2 _).mono ?_
        rintro e w5b ⟨rfl, b5b⟩
        go_wp2_with fail
        refine (R3 _).mono ?_
        rintro e w5c ⟨rfl, rfl⟩
        go_wp2_with fail
        refine (R4 _).mono ?_
        rintro e w5 ⟨rfl, b5d⟩
        have b5 := bt (bt b5a b5b) b5d
        go_wp2_with fail
        refine (X1.out _).mono ?_
        rintro e qb6 ⟨rfl, b6⟩
        go_wp2_with fail
        refine (X2.out _).mono ?_
        rintro e qb7 ⟨rfl, b7⟩
        go_wp2_with fail
        refine (X3.out _).mono ?_
        rintro e qb8 ⟨rfl, b8⟩
        have bb := bt (bt (bt (bt HB4.out b5) b6) b7) b8
        clear b5 b6 b7 b8 HB4 X1 X2 X3 R1 R2 R3 R4
        go_wp2
        go_ret
        exact ⟨rfl, bb⟩
  | true =>
    obtain ⟨hm, hra, hrb⟩ := twoB_parts hT
    have okp := (modB_parts hm).1
    rw [hra] at R1
    rw [hrb] at R2
    rw [okp] at R3
    rw [hm, if_pos rfl] at R4
    have Y0 := Lib.hid (restOk_i a p)
    rw [hra] at Y0
    obtain ⟨sum, ab, ac, bc, left, RL⟩ := rest_laws c0 hm hra hrb
    obtain ⟨abc, t1, t2⟩ := RL.abc
    obtain ⟨ng, t3, t4⟩ := RL.neg
    generalize restG c0 p = c at *
    have Y1 := Lib.hid (addRest_i b c p)
    rw [RL.hsum] at Y1
    have Y2 := Lib.hid (mulRest_i a sum p)
    rw [RL.hleft] at Y2
    rw [RL.hab] at X2
    have Y3 := Lib.hid (mulRest_i a c p)
    rw [RL.hac] at Y3
    have Y4 := Lib.hid (addRest_i ab ac p)
    rw [RL.right] at Y4
    have Y5 := Lib.hid (mulRest_i b a p)
    rw [RL.ba] at Y5
    have Y6 := Lib.hid (mulRest_i ab c p)
    rw [t1] at Y6
    have Y7 := Lib.hid (mulRest_i b c p)
    rw [RL.hbc] at Y7
    have Y8 := Lib.hid (mulRest_i a bc p)
    rw [t2] at Y8
    have Y9 := Lib.hid (subRest_i sum c p)
    rw [RL.back] at Y9
    have Z1 := Lib.hid (negRest_i a p)
    rw [t3] at Z1
    have Z2 := Lib.hid (addRest_i a ng p)
    rw [t4] at Z2
    clear RL t1 t2 t3 t4 hm hra hrb hT okp X1
    go_wp2_with fail
    refine (R1 _).mono ?_
    rintro e v1 ⟨rfl, b5⟩
    have Hb5 := Lib.hid (bt HB4.out b5)
    clear b5 HB4
    go_wp2_with fail
    refine (R2 _).mono ?_
    rintro e v2 ⟨rfl, b6⟩
    have Hb6 := Lib.hid (bt Hb5.out b6)
    clear b6 Hb5
    go_wp2_with fail
    refine (R3 _).mono ?_
    rintro e v3 ⟨rfl, rfl⟩
    go_wp2_with fail
    refine (R4 _).mono ?_
    rintro e v4 ⟨rfl, b7⟩
    have Hb7 := Lib.hid (bt Hb6.out b7)
    clear b7 Hb6
    go_wp2_with fail
    refine (Y1.out _).mono ?_
    rintro e v5 ⟨rfl, b8⟩
    have Hb8 := Lib.hid (bt Hb7.out b8)
    clear b8 Hb7
    go_wp2_with fail
    refine (Y2.out _).mono ?_
    rintro e v6 ⟨rfl, b9⟩
    have Hb9 := Lib.hid (bt Hb8.out b9)
    clear b9 Hb8
    go_wp2_with fail
    refine (X2.out _).mono ?_
    rintro e v7 ⟨rfl, b10⟩
    have Hb10 := Lib.hid (bt Hb9.out b10)
    clear b10 Hb9
    go_wp2_with fail
    refine (Y3.out _).mono ?_
    rintro e v8 ⟨rfl, b11⟩
    have Hb11 := Lib.hid (bt Hb10.out b11)
    clear b11 Hb10
    go_wp2_with fail
    refine (Y4.out _).mono ?_
    rintro e v9 ⟨rfl, b12⟩
    have Hb12 := Lib.hid (bt Hb11.out b12)
    clear b12 Hb11
    go_wp2_with fail
    refine (Y0.out _).mono ?_
    rintro e v10 ⟨rfl, b13⟩
    have Hb13 := Lib.hid (bt Hb12.out b13)
    clear b13 Hb12
    go_wp2_with fail
    refine (X2.out _).mono ?_
    rintro e v11 ⟨rfl, b14⟩
    have Hb14 := Lib.hid (bt Hb13.out b14)
    clear b14 Hb13
    go_wp2_with fail
    refine (Y5.out _).mono ?_
    rintro e v12 ⟨rfl, b15⟩
    have Hb15 := Lib.hid (bt Hb14.out b15)
    clear b15 Hb14
    go_wp2_with fail
    refine (X2.out _).mono ?_
    rintro e v13 ⟨rfl, b16⟩
    have Hb16 := Lib.hid (bt Hb15.out b16)
    clear b16 Hb15
    go_wp2_with fail
    refine (Y6.out _).mono ?_
    rintro e v14 ⟨rfl, b17⟩
    have Hb17 := Lib.hid (bt Hb16.out b17)
    clear b17 Hb16
    go_wp2_with fail
    refine (Y7.out _).mono ?_
    rintro e v15 ⟨rfl, b18⟩
    have Hb18 := Lib.hid (bt Hb17.out b18)
    clear b18 Hb17
    go_wp2_with fail
    refine (Y8.out _).mono ?_
    rintro e v16 ⟨rfl, b19⟩
    have Hb19 := Lib.hid (bt Hb18.out b19)
    clear b19 Hb18
    go_wp2_with fail
    refine (Y9.out _).mono ?_
    rintro e v17 ⟨rfl, b20⟩
    have Hb20 := Lib.hid (bt Hb19.out b20)
    clear b20 Hb19
    go_wp2_with fail
    refine (Z1.out _).mono ?_
    rintro e v18 ⟨rfl, b21⟩
    have Hb21 := Lib.hid (bt Hb20.out b21)
    clear b21 Hb20
    go_wp2_with fail
    refine (Z2.out _).mono ?_
    rintro e v19 ⟨rfl, b22⟩
    have Hb22 := Lib.hid (bt Hb21.out b22)
    clear b22 Hb21
    go_wp2_with fail
    refine (X3.out _).mono ?_
    rintro e v20 ⟨rfl, b23⟩
    have Hb23 := Lib.hid (bt Hb22.out b23)
    clear b23 Hb22
    clear R1 R2 R3 R4 X2 X3 Y0 Y1 Y2 Y3 Y4 Y5 Y6 Y7 Y8 Y9 Z1 Z2
    go_wp2
    go_ret
    exact ⟨rfl, Hb23.out⟩
set_option maxRecDepth 8000 in
set_option maxHeartbeats 8000000 in
theorem inverses_walk (a0 : Option Addr) (len0 cap0 : Nat) (z0 : List Int) (w : World) (w0 : IsRow .u8 w a0 len0 cap0 z0) :
    Calls Try.prog 4 #[.slice a0 len0 cap0] w (Yes w) := by
  have hlen : len0 ≤ maxLen := by rcases w0 with ⟨_, rfl, _⟩ | ⟨_, _, h1, h2, _⟩ <;> unfold maxLen at * <;> omega
  have HBig := Lib.hid (big_g a0 len0 cap0 w hlen)
  by_cases h1 : 1048576 < len0
  · have hd : decide ((1048576 : Int) < (len0 : Int)) = true := by simp; omega
    clear w0 hlen
    go_enter Try.func4, Try.ntmps4
    go_wp2_with fail
    refine HBig.out.mono ?_
    rintro e w' ⟨rfl, rfl⟩
    go_wp2
    go_ret
    exact ⟨rfl, Below.refl _ _⟩
  have hd : decide ((1048576 : Int) < (len0 : Int)) = false := by simp; omega
  have hlen2 : len0 ≤ 1048576 := by omega
  have HD := Lib.hid (drawInv_c a0 len0 cap0 w (w0.draw (by omega)))
  clear w0 hlen h1
  go_enter Try.func4, Try.ntmps4
  go_wp2_with fail
  refine HBig.out.mono ?_
  rintro e w' ⟨rfl, rfl⟩
  go_wp2_with fail
  refine HD.out.mono ?_
  rintro e w1 ⟨a, p, rfl, b1⟩
  have E0 := Lib.hid b1
  clear HBig HD hd b1
  have I1 := Lib.hid (inverseRest_i a p)
  have I2 := Lib.hid (inverseRest_any a p)
  have H1 := Lib.hid (halfRest_i a p)
  have H2 := Lib.hid (halfRest_any a p)
  have M0 := Lib.hid (mulRest_i ⟨#[3]⟩ ⟨#[5]⟩ ⟨#[7]⟩)
  rw [mul357] at M0
  have O1 := Lib.hid one_fn
  have A1 : Hid ((halfR a p).toList.isEmpty = false → ∀ w, Calls Try.prog 20 #[.string (halfR a p), .string (halfR a p), .string p] w fun e w' => e = .returned (.string a) ∧ Below w.heap.size w w') := fun h w => by
    have hb : halfB a p = true := by
      cases hh : halfB a p with
      | true => rfl
      | false => exact absurd h (by unfold halfR; rw [hh, if_neg (by decide), isEmpty_size]; decide)
    have := addRest_i (halfR a p) (halfR a p) p w
    rw [half_laws hb] at this; exact this
  unfold InvG at I1 I2
  cases hi : invB a p with
  | false =>
    have hx : invR a p = ⟨#[]⟩ := by unfold invR; rw [hi]; rfl
    rw [hi, hx] at I1 I2
    clear hi hx
    generalize halfR a p = h at *
    cases he : h.toList.isEmpty with
    | true =>
      have he2 : h.toList = [] := by simpa using he
      clear he A1
      go_wp2_with fail
      refine (I1.out _).mono ?_
      rintro e v1 ⟨rfl, d1⟩
      have E1 := Lib.hid (bt E0.out d1)
      clear d1 E0
      go_wp2_with fail
      refine (I2.out _).mono ?_
      rintro e v2 ⟨rfl, d2⟩
      have E2 := Lib.hid (bt E1.out d2)
      clear d2 E1
      go_wp2_with fail
      refine (H1.out _).mono ?_
      rintro e v3 ⟨rfl, d3⟩
      have E3 := Lib.hid (bt E2.out d3)
      clear d3 E2
      go_wp2_with fail
      refine (H2.out _).mono ?_
      rintro e v4 ⟨rfl, d4⟩
      have E4 := Lib.hid (bt E3.out d4)
      clear d4 E3
      go_wp2_with fail
      refine (M0.out _).mono ?_
      rintro e v5 ⟨rfl, d5⟩
      have E5 := Lib.hid (bt E4.out d5)
      clear d5 E4
      clear I1 I2 H1 H2 M0 O1
      go_wp2
      go_ret
      exact ⟨rfl, E5.out⟩
    | false =>
      have A2 := Lib.hid (A1.out he)
      clear A1
      go_wp2_with fail
      refine (I1.out _).mono ?_
      rintro e v1 ⟨rfl, d1⟩
      have E1 := Lib.hid (bt E0.out d1)
      clear d1 E0
      go_wp2_with fail
      refine (I2.out _).mono ?_
      rintro e v2 ⟨rfl, d2⟩
      have E2 := Lib.hid (bt E1.out d2)
      clear d2 E1
      go_wp2_with fail
      refine (H1.out _).mono ?_
      rintro e v3 ⟨rfl, d3⟩
      have E3 := Lib.hid (bt E2.out d3)
      clear d3 E2
      go_wp2_with fail
      refine (H2.out _).mono ?_
      rintro e v4 ⟨rfl, d4⟩
      have E4 := Lib.hid (bt E3.out d4)
      clear d4 E3
      go_wp2_with fail
      refine (A2.out _).mono ?_
      rintro e v5 ⟨rfl, d5⟩
      have E5 := Lib.hid (bt E4.out d5)
      clear d5 E4
      go_wp2_with fail
      refine (M0.out _).mono ?_
      rintro e v6 ⟨rfl, d6⟩
      have E6 := Lib.hid (bt E5.out d6)
      clear d6 E5
      clear I1 I2 H1 H2 M0 O1 A2
      go_wp2
      go_ret
      exact ⟨rfl, E6.out⟩
  | true =>
    obtain ⟨l1, l2, l3⟩ := inv_laws hi
    rw [hi] at I1 I2
    have I3 := Lib.hid (inverseRest_i (invR a p) p)
    unfold InvG at I3
    rw [l2, l3] at I3
    have M1 := Lib.hid (mulRest_i a (invR a p) p)
    rw [l1] at M1
    clear hi l1 l2 l3
    generalize invR a p = x at *
    generalize halfR a p = h at *
    cases he : h.toList.isEmpty with
    | true =>
      have he2 : h.toList = [] := by simpa using he
      clear he A1
      go_wp2_with fail
      refine (I1.out _).mono ?_
      rintro e v1 ⟨rfl, d1⟩
      have E1 := Lib.hid (bt E0.out d1)
      clear d1 E0
      go_wp2_with fail
      refine (I2.out _).mono ?_
      rintro e v2 ⟨rfl, d2⟩
      have E2 := Lib.hid (bt E1.out d2)
      clear d2 E1
      go_wp2_with fail
      refine (H1.out _).mono ?_
      rintro e v3 ⟨rfl, d3⟩
      have E3 := Lib.hid (bt E2.out d3)
      clear d3 E2
      go_wp2_with fail
      refine (H2.out _).mono ?_
      rintro e v4 ⟨rfl, d4⟩
      have E4 := Lib.hid (bt E3.out d4)
      clear d4 E3
      go_wp2_with fail
      refine (I3.out _).mono ?_
      rintro e v5 ⟨rfl, d5⟩
      have E5 := Lib.hid (bt E4.out d5)
      clear d5 E4
      go_wp2_with fail
      refine (M1.out _).mono ?_
      rintro e v6 ⟨rfl, d6⟩
      have E6 := Lib.hid (bt E5.out d6)
      clear d6 E5
      go_wp2_with fail
      refine (O1.out _).mono ?_
      rintro e v7 ⟨rfl, rfl⟩
      go_wp2_with fail
      refine (H2.out _).mono ?_
      rintro e v8 ⟨rfl, d8⟩
      have E8 := Lib.hid (bt E6.out d8)
      clear d8 E6
      clear I1 I2 I3 H1 H2 M0 M1 O1
      go_wp2
      go_ret
      exact ⟨rfl, E8.out⟩
    | false =>
      have A2 := Lib.hid (A1.out he)
      clear A1
      go_wp2_with fail
      refine (I1.out _).mono ?_
      rintro e v1 ⟨rfl, d1⟩
      have E1 := Lib.hid (bt E0.out d1)
      clear d1 E0
      go_wp2_with fail
      refine (I2.out _).mono ?_
      rintro e v2 ⟨rfl, d2⟩
      have E2 := Lib.hid (bt E1.out d2)
      clear d2 E1
      go_wp2_with fail
      refine (H1.out _).mono ?_
      rintro e v3 ⟨rfl, d3⟩
      have E3 := Lib.hid (bt E2.out d3)
      clear d3 E2
      go_wp2_with fail
      refine (H2.out _).mono ?_
      rintro e v4 ⟨rfl, d4⟩
      have E4 := Lib.hid (bt E3.out d4)
      clear d4 E3
      go_wp2_with fail
      refine (A2.out _).mono ?_
      rintro e v5 ⟨rfl, d5⟩
      have E5 := Lib.hid (bt E4.out d5)
      clear d5 E4
      go_wp2_with fail
      refine (I3.out _).mono ?_
      rintro e v6 ⟨rfl, d6⟩
      have E6 := Lib.hid (bt E5.out d6)
      clear d6 E5
      go_wp2_with fail
      refine (M1.out _).mono ?_
      rintro e v7 ⟨rfl, d7⟩
      have E7 := Lib.hid (bt E6.out d7)
      clear d7 E6
      go_wp2_with fail
      refine (O1.out _).mono ?_
      rintro e v8 ⟨rfl, rfl⟩
      go_wp2_with fail
      refine (H2.out _).mono ?_
      rintro e v9 ⟨rfl, d9⟩
      have E9 := Lib.hid (bt E7.out d9)
      clear d9 E7
      clear I1 I2 I3 H1 H2 M0 M1 O1 A2
      go_wp2
      go_ret
      exact ⟨rfl, E9.out⟩
theorem less_at1 : subG cvP1 ⟨#[1]⟩ = gS (1706311 - 1) ∧ subB cvP1 ⟨#[1]⟩ = true := by
  have h : subB cvP1 ⟨#[1]⟩ = true := by unfold subB okT; rw [cvP1_num]; rfl
  refine ⟨?_, h⟩
  unfold subG; rw [h, if_pos rfl, cvP1_num]; rfl
theorem less_at2 : subG cvP2 ⟨#[1]⟩ = gS (10647363907 - 1) ∧ subB cvP2 ⟨#[1]⟩ = true := by
  have h : subB cvP2 ⟨#[1]⟩ = true := by unfold subB okT; rw [cvP2_num]; rfl
  refine ⟨?_, h⟩
  unfold subG; rw [h, if_pos rfl, cvP2_num]; rfl
set_option maxRecDepth 8000 in
set_option maxHeartbeats 8000000 in
theorem powers_walk (a0 : Option Addr) (len0 cap0 : Nat) (z0 : List Int) (w : World) (w0 : IsRow .u8 w a0 len0 cap0 z0) :
    Calls Try.prog 5 #[.slice a0 len0 cap0] w (Yes w) := by
  have hlen : len0 ≤ maxLen := by rcases w0 with ⟨_, rfl, _⟩ | ⟨_, _, h1, h2, _⟩ <;> unfold maxLen at * <;> omega
  have HBig := Lib.hid (big_g a0 len0 cap0 w hlen)
  by_cases h1 : 1048576 < len0
  · have hd : decide ((1048576 : Int) < (len0 : Int)) = true := by simp; omega
    clear w0 hlen
    go_enter Try.func5, Try.ntmps5
    go_wp2_with fail
    refine HBig.out.mono ?_
    rintro e w' ⟨rfl, rfl⟩
    go_wp2
    go_ret
    exact ⟨rfl, Below.refl _ _⟩
  have hd : decide ((1048576 : Int) < (len0 : Int)) = false := by simp; omega
  have hlen2 : len0 ≤ 1048576 := by omega
  have HD := Lib.hid (drawPow_c a0 len0 cap0 w (w0.draw (by omega)))
  clear w0 hlen h1
  go_enter Try.func5, Try.ntmps5
  go_wp2_with fail
  refine HBig.out.mono ?_
  rintro e w' ⟨rfl, rfl⟩
  go_wp2_with fail
  refine HD.out.mono ?_
  rintro e w1 ⟨a, m, p, rfl, b1⟩
  have E0 := Lib.hid b1
  clear HBig HD hd b1
  have P1 := Lib.hid (powRest_i a m p)
  have P2 := Lib.hid (powRest_any a m p)
  have R1 := restOk_any a p
  have R2 := restOf_any ⟨#[1]⟩ p
  have R3 := greatOk_any m
  have O1 := Lib.hid one_fn
  have P7 := Lib.hid (powRest_i ⟨#[2]⟩ ⟨#[3]⟩ ⟨#[7]⟩)
  rw [pow237] at P7
  rw [one_rest] at R2
  cases hr : restB a p with
  | false =>
    rw [hr] at R1
    generalize powR a m p = x at *
    go_wp2_with fail
    refine (P1.out _).mono ?_
    rintro e v1 ⟨rfl, d1⟩
    have E1 := Lib.hid (bt E0.out d1)
    clear d1 E0
    go_wp2_with fail
    refine (P2.out _).mono ?_
    rintro e v2 ⟨rfl, d2⟩
    have E2 := Lib.hid (bt E1.out d2)
    clear d2 E1
    go_wp2_with fail
    refine (R1 _).mono ?_
    rintro e v3 ⟨rfl, d3⟩
    have E3 := Lib.hid (bt E2.out d3)
    clear d3 E2
    go_wp2_with fail
    refine (P7.out _).mono ?_
    rintro e v4 ⟨rfl, d4⟩
    have E4 := Lib.hid (bt E3.out d4)
    clear d4 E3
    go_wp2_with fail
    refine (O1.out _).mono ?_
    rintro e v5 ⟨rfl, rfl⟩
    clear P1 P2 R1 R2 R3 O1 P7
    go_wp2
    go_ret
    exact ⟨rfl, E4.out⟩
  | true =>
    rw [hr] at R1
    cases hm : modB p with
    | false =>
      rw [hm, if_neg (by decide)] at R2
      generalize powR a m p = x at *
      go_wp2_with fail
      refine (P1.out _).mono ?_
      rintro e v1 ⟨rfl, d1⟩
      have E1 := Lib.hid (bt E0.out d1)
      clear d1 E0
      go_wp2_with fail
      refine (P2.out _).mono ?_
      rintro e v2 ⟨rfl, d2⟩
      have E2 := Lib.hid (bt E1.out d2)
      clear d2 E1
      go_wp2_with fail
      refine (R1 _).mono ?_
      rintro e v3 ⟨rfl, d3⟩
      have E3 := Lib.hid (bt E2.out d3)
      clear d3 E2
      go_wp2_with fail
      refine (O1.out _).mono ?_
      rintro e v4 ⟨rfl, rfl⟩
      go_wp2_with fail
      refine (R2 _).mono ?_
      rintro e v5 ⟨rfl, d5⟩
      have E5 := Lib.hid (bt E3.out d5)
      clear d5 E3
      go_wp2_with fail
      refine (P7.out _).mono ?_
      rintro e v6 ⟨rfl, d6⟩
      have E6 := Lib.hid (bt E5.out d6)
      clear d6 E5
      go_wp2_with fail
      refine (O1.out _).mono ?_
      rintro e v7 ⟨rfl, rfl⟩
      clear P1 P2 R1 R2 R3 O1 P7
      go_wp2
      go_ret
      exact ⟨rfl, E6.out⟩
    | true =>
      rw [hm, if_pos rfl] at R2
      cases hk : okG m with
      | false =>
        rw [hk] at R3
        generalize powR a m p = x at *
        go_wp2_with fail
        refine (P1.out _).mono ?_
        rintro e v1 ⟨rfl, d1⟩
        have E1 := Lib.hid (bt E0.out d1)
        clear d1 E0
        go_wp2_with fail
        refine (P2.out _).mono ?_
        rintro e v2 ⟨rfl, d2⟩
        have E2 := Lib.hid (bt E1.out d2)
        clear d2 E1
        go_wp2_with fail
        refine (R1 _).mono ?_
        rintro e v3 ⟨rfl, d3⟩
        have E3 := Lib.hid (bt E2.out d3)
        clear d3 E2
        go_wp2_with fail
        refine (O1.out _).mono ?_
        rintro e v4 ⟨rfl, rfl⟩
        go_wp2_with fail
        refine (R2 _).mono ?_
        rintro e v5 ⟨rfl, d5⟩
        have E5 := Lib.hid (bt E3.out d5)
        clear d5 E3
        go_wp2_with fail
        refine (R3 _).mono ?_
        rintro e v6 ⟨rfl, rfl⟩
        go_wp2_with fail
        refine (P7.out _).mono ?_
        rintro e v7 ⟨rfl, d7⟩
        have E7 := Lib.hid (bt E5.out d7)
        clear d7 E5
        go_wp2_with fail
        refine (O1.out _).mono ?_
        rintro e v8 ⟨rfl, rfl⟩
        clear P1 P2 R1 R2 R3 O1 P7
        go_wp2
        go_ret
        exact ⟨rfl, E7.out⟩
      | true =>
        rw [hk] at R3
        by_cases hs : 100 < m.size
        · have hs' : (100 : Int) < (m.size : Int) := by omega
          generalize powR a m p = x at *
          go_wp2_with fail
          refine (P1.out _).mono ?_
          rintro e v1 ⟨rfl, d1⟩
          have E1 := Lib.hid (bt E0.out d1)
          clear d1 E0
          go_wp2_with fail
          refine (P2.out _).mono ?_
          rintro e v2 ⟨rfl, d2⟩
          have E2 := Lib.hid (bt E1.out d2)
          clear d2 E1
          go_wp2_with fail
          refine (R1 _).mono ?_
          rintro e v3 ⟨rfl, d3⟩
          have E3 := Lib.hid (bt E2.out d3)
          clear d3 E2
          go_wp2_with fail
          refine (O1.out _).mono ?_
          rintro e v4 ⟨rfl, rfl⟩
          go_wp2_with fail
          refine (R2 _).mono ?_
          rintro e v5 ⟨rfl, d5⟩
          have E5 := Lib.hid (bt E3.out d5)
          clear d5 E3
          go_wp2_with fail
          refine (R3 _).mono ?_
          rintro e v6 ⟨rfl, rfl⟩
          go_wp2_with fail
          refine (P7.out _).mono ?_
          rintro e v7 ⟨rfl, d7⟩
          have E7 := Lib.hid (bt E5.out d7)
          clear d7 E5
          go_wp2_with fail
          refine (O1.out _).mono ?_
          rintro e v8 ⟨rfl, rfl⟩
          clear P1 P2 R1 R2 R3 O1 P7
          go_wp2
          go_ret
          exact ⟨rfl, E7.out⟩
        · have hs' : ¬ (100 : Int) < (m.size : Int) := by omega
          have hms : m.size ≤ 160 := by omega
          have A1 := Lib.hid (addGreat_any m ⟨#[1]⟩)
          have P3 := Lib.hid (powRest_i a (addG m ⟨#[1]⟩) p)
          rw [pow_more hm hr hk (by omega)] at P3
          have M1 := Lib.hid (mulRest_i (powR a m p) a p)
          have oka := (restB_parts hr).1
          have HOKA := Lib.hid oka
          generalize mulR (powR a m p) a p = xa at *
          generalize powR a m p = x at *
          generalize addG m ⟨#[1]⟩ = more at *
          clear hr hm hk hs oka
          rcases (show len0 % 2 = 0 ∨ len0 % 2 = 1 by omega) with hl | hl
          · have hl' : (len0 : Int) % 2 = 0 := by omega
            have K1 := Lib.hid (curve_at1)
            have Q1 := restOf_any a cvP1
            have S1 := subGreat_any cvP1 ⟨#[1]⟩
            rw [less_at1.1, less_at1.2] at S1
            have HQ := Lib.hid Q1
            have HS := Lib.hid S1
            have HF : Hid ((restG a cvP1).toList.isEmpty = false → ∀ w, Calls Try.prog 32 #[.string (restG a cvP1), .string (gS (1706311 - 1)), .string cvP1] w fun e w' => e = .returned (.string ⟨#[1]⟩) ∧ Below w.heap.size w w') := fun h w => by
              have := powRest_i (restG a cvP1) (gS (1706311 - 1)) cvP1 w
              rw [fermat_law cvP1_num (mod_cv cvP1_num rfl (by omega)) prm_1706311 HOKA.out (fun e => by rw [e, isEmpty_size] at h; exact absurd h (by decide))] at this
              exact this
            generalize restG a cvP1 = b at *
            generalize gS (1706311 - 1) = less at *
            clear Q1 S1 hl
            go_wp2_with fail
            refine (P1.out _).mono ?_
            rintro e v1 ⟨rfl, d1⟩
            have E1 := Lib.hid (bt E0.out d1)
            clear d1 E0
            go_wp2_with fail
            refine (P2.out _).mono ?_
            rintro e v2 ⟨rfl, d2⟩
            have E2 := Lib.hid (bt E1.out d2)
            clear d2 E1
            go_wp2_with fail
            refine (R1 _).mono ?_
            rintro e v3 ⟨rfl, d3⟩
            have E3 := Lib.hid (bt E2.out d3)
            clear d3 E2
            go_wp2_with fail
            refine (O1.out _).mono ?_
            rintro e v4 ⟨rfl, rfl⟩
            go_wp2_with fail
            refine (R2 _).mono ?_
            rintro e v5 ⟨rfl, d5⟩
            have E5 := Lib.hid (bt E3.out d5)
            clear d5 E3
            go_wp2_with fail
            refine (R3 _).mono ?_
            rintro e v6 ⟨rfl, rfl⟩
            go_wp2_with fail
            refine (O1.out _).mono ?_
            rintro e v7 ⟨rfl, rfl⟩
            go_wp2_with fail
            refine (A1.out _).mono ?_
            rintro e v8 ⟨rfl, d8⟩
            have E8 := Lib.hid (bt E5.out d8)
            clear d8 E5
            go_wp2_with fail
            refine (K1.out _).mono ?_
            rintro e u1 ⟨rfl, d⟩
            have F0 := Lib.hid (bt E8.out d)
            have V := Lib.hid (cv_var u1 cv1 rfl)
            have F1 := Lib.hid (bt F0.out V.out.2.2.1)
            obtain ⟨c1, _⟩ := cv_cells1 V.out.2.1
            have C1 := Lib.hid c1
            clear d F0 K1 E8
            go_wp2_with (first | refine cv_store rfl (.tmp 8) (.tmp 63) rfl u1.heap.size cv0 cv1 rfl rfl V.out.1 rfl rfl (by kernel_rfl) ?_)
            clear c1
            have hs4 := V.out.2.2.2
            clear V
            generalize (World.setRow (World.alloc _ _) _ _) = u2 at *
            refine (HQ.out _).mono ?_
            rintro e u3 ⟨rfl, d⟩
            have F2 := Lib.hid (bt F1.out d)
            have C2 := Lib.hid ((d.cell (p := ⟨u1.heap.size, 1, none⟩) (by simp; omega)).trans C1.out)
            have hs5 : u1.heap.size < u3.heap.size := by have := d.size; omega
            clear d F1 C1 HQ hs4
            go_wp2_with fail
            go_region_held3 (fun w' => w'.cell? ⟨u1.heap.size, 1, none⟩ = some (.string cvP1)) (first | exact C2.out | go_keep | exact (d.cell (p := ⟨u1.heap.size, 1, none⟩) hs5).trans C2.out) (first | (go_at_call 30; refine (O1.out _).mono ?_; rintro e w' ⟨rfl, rfl⟩) | (go_at_call 36; refine (HS.out _).mono ?_; rintro e w' ⟨rfl, d⟩))
            have F3 := Lib.hid (bt (show Below w.heap.size w u3.drew from bd F2.out 1) d)
            have C3 := Lib.hid ((d.cell (p := ⟨u1.heap.size, 1, none⟩) hs5).trans C2.out)
            have hs6 : u1.heap.size < w'.heap.size := Nat.lt_of_lt_of_le hs5 d.size
            clear d F2 C2 HS hs5
            go_wp2_with fail
            refine (P3.out _).mono ?_
            rintro e u5 ⟨rfl, d⟩
            have F4 := Lib.hid (bt F3.out d)
            have C4 := Lib.hid ((d.cell (p := ⟨u1.heap.size, 1, none⟩) hs6).trans C3.out)
            have hs7 : u1.heap.size < u5.heap.size := Nat.lt_of_lt_of_le hs6 d.size
            clear d F3 C3 hs6 P3
            go_wp2_with fail
            refine (M1.out _).mono ?_
            rintro e u6 ⟨rfl, d⟩
            have F5 := Lib.hid (bt F4.out d)
            have c5 := (d.cell (p := ⟨u1.heap.size, 1, none⟩) hs7).trans C4.out
            clear d F4 C4 hs7 M1
            cases he : b.toList.isEmpty with
            | true =>
              have he2 : b.toList = [] := by simpa using he
              clear he HF
              go_wp2_with fail
              refine (P7.out _).mono ?_
              rintro e u7 ⟨rfl, d⟩
              have F6 := Lib.hid (bt F5.out d)
              clear d F5
              go_wp2_with fail
              refine (O1.out _).mono ?_
              rintro e u8 ⟨rfl, rfl⟩
              clear R1 R2 R3 O1 P7 P1 P2
              go_wp2
              go_ret
              exact ⟨rfl, F6.out⟩
            | false =>
              have HF2 := Lib.hid (HF.out he)
              clear HF
              go_wp2_with fail
              refine (HF2.out _).mono ?_
              rintro e u7 ⟨rfl, d⟩
              have F6 := Lib.hid (bt F5.out d)
              clear d F5 c5
              go_wp2_with fail
              refine (O1.out _).mono ?_
              rintro e u8 ⟨rfl, rfl⟩
              go_wp2_with fail
              refine (P7.out _).mono ?_
              rintro e u9 ⟨rfl, d⟩
              have F7 := Lib.hid (bt F6.out d)
              clear d F6
              go_wp2_with fail
              refine (O1.out _).mono ?_
              rintro e u10 ⟨rfl, rfl⟩
              clear R1 R2 R3 O1 P7 P1 P2 HF2
              go_wp2
              go_ret
              exact ⟨rfl, F7.out⟩
          · have hl' : (len0 : Int) % 2 = 1 := by omega
            have K1 := Lib.hid (curve_at2)
            have Q1 := restOf_any a cvP2
            have S1 := subGreat_any cvP2 ⟨#[1]⟩
            rw [less_at2.1, less_at2.2] at S1
            have HQ := Lib.hid Q1
            have HS := Lib.hid S1
            have HF : Hid ((restG a cvP2).toList.isEmpty = false → ∀ w, Calls Try.prog 32 #[.string (restG a cvP2), .string (gS (10647363907 - 1)), .string cvP2] w fun e w' => e = .returned (.string ⟨#[1]⟩) ∧ Below w.heap.size w w') := fun h w => by
              have := powRest_i (restG a cvP2) (gS (10647363907 - 1)) cvP2 w
              rw [fermat_law cvP2_num (mod_cv cvP2_num rfl (by omega)) prm_10647363907 HOKA.out (fun e => by rw [e, isEmpty_size] at h; exact absurd h (by decide))] at this
              exact this
            generalize restG a cvP2 = b at *
            generalize gS (10647363907 - 1) = less at *
            clear Q1 S1 hl
            go_wp2_with fail
            refine (P1.out _).mono ?_
            rintro e v1 ⟨rfl, d1⟩
            have E1 := Lib.hid (bt E0.out d1)
            clear d1 E0
            go_wp2_with fail
            refine (P2.out _).mono ?_
            rintro e v2 ⟨rfl, d2⟩
            have E2 := Lib.hid (bt E1.out d2)
            clear d2 E1
            go_wp2_with fail
            refine (R1 _).mono ?_
            rintro e v3 ⟨rfl, d3⟩
            have E3 := Lib.hid (bt E2.out d3)
            clear d3 E2
            go_wp2_with fail
            refine (O1.out _).mono ?_
            rintro e v4 ⟨rfl, rfl⟩
            go_wp2_with fail
            refine (R2 _).mono ?_
            rintro e v5 ⟨rfl, d5⟩
            have E5 := Lib.hid (bt E3.out d5)
            clear d5 E3
            go_wp2_with fail
            refine (R3 _).mono ?_
            rintro e v6 ⟨rfl, rfl⟩
            go_wp2_with fail
            refine (O1.out _).mono ?_
            rintro e v7 ⟨rfl, rfl⟩
            go_wp2_with fail
            refine (A1.out _).mono ?_
            rintro e v8 ⟨rfl, d8⟩
            have E8 := Lib.hid (bt E5.out d8)
            clear d8 E5
            go_wp2_with fail
            refine (K1.out _).mono ?_
            rintro e u1 ⟨rfl, d⟩
            have F0 := Lib.hid (bt E8.out d)
            have V := Lib.hid (cv_var u1 cv2 rfl)
            have F1 := Lib.hid (bt F0.out V.out.2.2.1)
            obtain ⟨c1, _⟩ := cv_cells2 V.out.2.1
            have C1 := Lib.hid c1
            clear d F0 K1 E8
            go_wp2_with (first | refine cv_store rfl (.tmp 8) (.tmp 63) rfl u1.heap.size cv0 cv2 rfl rfl V.out.1 rfl rfl (by kernel_rfl) ?_)
            clear c1
            have hs4 := V.out.2.2.2
            clear V
            generalize (World.setRow (World.alloc _ _) _ _) = u2 at *
            refine (HQ.out _).mono ?_
            rintro e u3 ⟨rfl, d⟩
            have F2 := Lib.hid (bt F1.out d)
            have C2 := Lib.hid ((d.cell (p := ⟨u1.heap.size, 1, none⟩) (by simp; omega)).trans C1.out)
            have hs5 : u1.heap.size < u3.heap.size := by have := d.size; omega
            clear d F1 C1 HQ hs4
            go_wp2_with fail
            go_region_held3 (fun w' => w'.cell? ⟨u1.heap.size, 1, none⟩ = some (.string cvP2)) (first | exact C2.out | go_keep | exact (d.cell (p := ⟨u1.heap.size, 1, none⟩) hs5).trans C2.out) (first | (go_at_call 30; refine (O1.out _).mono ?_; rintro e w' ⟨rfl, rfl⟩) | (go_at_call 36; refine (HS.out _).mono ?_; rintro e w' ⟨rfl, d⟩))
            have F3 := Lib.hid (bt (show Below w.heap.size w u3.drew from bd F2.out 1) d)
            have C3 := Lib.hid ((d.cell (p := ⟨u1.heap.size, 1, none⟩) hs5).trans C2.out)
            have hs6 : u1.heap.size < w'.heap.size := Nat.lt_of_lt_of_le hs5 d.size
            clear d F2 C2 HS hs5
            go_wp2_with fail
            refine (P3.out _).mono ?_
            rintro e u5 ⟨rfl, d⟩
            have F4 := Lib.hid (bt F3.out d)
            have C4 := Lib.hid ((d.cell (p := ⟨u1.heap.size, 1, none⟩) hs6).trans C3.out)
            have hs7 : u1.heap.size < u5.heap.size := Nat.lt_of_lt_of_le hs6 d.size
            clear d F3 C3 hs6 P3
            go_wp2_with fail
            refine (M1.out _).mono ?_
            rintro e u6 ⟨rfl, d⟩
            have F5 := Lib.hid (bt F4.out d)
            have c5 := (d.cell (p := ⟨u1.heap.size, 1, none⟩) hs7).trans C4.out
            clear d F4 C4 hs7 M1
            cases he : b.toList.isEmpty with
            | true =>
              have he2 : b.toList = [] := by simpa using he
              clear he HF
              go_wp2_with fail
              refine (P7.out _).mono ?_
              rintro e u7 ⟨rfl, d⟩
              have F6 := Lib.hid (bt F5.out d)
              clear d F5
              go_wp2_with fail
              refine (O1.out _).mono ?_
              rintro e u8 ⟨rfl, rfl⟩
              clear R1 R2 R3 O1 P7 P1 P2
              go_wp2
              go_ret
              exact ⟨rfl, F6.out⟩
            | false =>
              have HF2 := Lib.hid (HF.out he)
              clear HF
              go_wp2_with fail
              refine (HF2.out _).mono ?_
              rintro e u7 ⟨rfl, d⟩
              have F6 := Lib.hid (bt F5.out d)
              clear d F5 c5
              go_wp2_with fail
              refine (O1.out _).mono ?_
              rintro e u8 ⟨rfl, rfl⟩
              go_wp2_with fail
              refine (P7.out _).mono ?_
              rintro e u9 ⟨rfl, d⟩
              have F7 := Lib.hid (bt F6.out d)
              clear d F6
              go_wp2_with fail
              refine (O1.out _).mono ?_
              rintro e u10 ⟨rfl, rfl⟩
              clear R1 R2 R3 O1 P7 P1 P2 HF2
              go_wp2
              go_ret
              exact ⟨rfl, F7.out⟩
end Go.Proofs.Ytmiolkgkgohniaa

/-
  The walk of laws.FnShifted.
-/
import Derived.Test.YtdbjjnbmbeabeaaGreatJShift
namespace Go.Proofs.YtdbjjnbmbeabeaaGreat
open Go.RowKit

theorem drawShift_c (A : Option Addr) (n cap : Nat) (w : World) (hd : DrawIn w w.heap.size A n) : Calls Tryz.prog 5 #[.slice A n cap] w (ThreePost w) := by
  have H := Lib.hid (args_c A n cap w hd)
  clear hd
  go_enter Tryz.func5, Tryz.ntmps5
  go_wp2_with fail
  refine H.out.mono ?_
  rintro e w1 ⟨a, b, p, rfl, hb⟩
  go_wp2
  go_ret3
  exact ⟨a, b, p, rfl, hb⟩
theorem low24 {p : ByteArray} (ok : okG p = true) : intB (restG p ⟨#[1, 0, 0, 0]⟩) = true ∧ intG (restG p ⟨#[1, 0, 0, 0]⟩) = ((gV p % 16777216 : Nat) : Int) := by
  have hm : modB ⟨#[1, 0, 0, 0]⟩ = true := rfl
  have hv : gV ⟨#[1, 0, 0, 0]⟩ = 16777216 := rfl
  have E : restG p ⟨#[1, 0, 0, 0]⟩ = gS (gV p % 16777216) := by unfold restG; rw [hm, ok, hv]; rfl
  rw [E]
  have hl : gV p % 16777216 < 16777216 := Nat.mod_lt _ (by omega)
  have hG : gV p % 16777216 < GB := Nat.lt_of_le_of_lt (Nat.mod_le _ _) (gV_lt ok)
  have hB : intB (gS (gV p % 16777216)) = true := by unfold intB; rw [okS hG, gV_gS, decide_eq_true (by omega)]; rfl
  refine ⟨hB, ?_⟩
  unfold intG
  rw [hB, if_pos rfl, gV_gS]
set_option maxRecDepth 100000 in
set_option maxHeartbeats 8000000 in
theorem shifted_walk (a0 : Option Addr) (len0 cap0 : Nat) (z0 : List Int) (w : World) (w0 : IsRow .u8 w a0 len0 cap0 z0) :
    Calls Tryz.prog 3 #[.slice a0 len0 cap0] w (Yes w) := by
  have hlen : len0 ≤ maxLen := by rcases w0 with ⟨_, rfl, _⟩ | ⟨_, _, h1, h2, _⟩ <;> unfold maxLen at * <;> omega
  have HBig := Lib.hid (big_g a0 len0 cap0 w hlen)
  by_cases h1 : 1048576 < len0
  · have hd : decide ((1048576 : Int) < (len0 : Int)) = true := by simp; omega
    clear w0 hlen
    go_enter Tryz.func3, Tryz.ntmps3
    go_wp2_with fail
    refine HBig.out.mono ?_
    rintro e w' ⟨rfl, rfl⟩
    go_wp2
    go_ret
    exact ⟨rfl, Below.refl _ _⟩
  have hd : decide ((1048576 : Int) < (len0 : Int)) = false := by simp; omega
  have HD := Lib.hid (drawShift_c a0 len0 cap0 w (w0.draw (by omega)))
  clear w0 hlen h1
  go_enter Tryz.func3, Tryz.ntmps3
  go_wp2_with fail
  refine HBig.out.mono ?_
  rintro e w' ⟨rfl, rfl⟩
  go_wp2_with fail
  refine HD.out.mono ?_
  rintro e w1 ⟨a, b, p, rfl, b1⟩
  have E0 := Lib.hid b1
  clear HBig HD hd b1
  have X1 := Lib.hid (shiftIn_i a p)
  have X2 := Lib.hid (shiftIn_i b p)
  have X3 := Lib.hid (shiftMul_i (shInR a p) (shInR b p) p)
  have S0 := shiftOf_any p
  have S1 := Lib.hid (shiftOf_i p)
  have S2 := restOk_any a p
  have S3 := restOk_any b p
  have S4 := Lib.hid (shiftMul_any (shInR a p) (shInR b p) p)
  have S7 := Lib.hid (shiftOf_i ⟨#[7]⟩)
  rw [shift7] at S7
  have O1 := Lib.hid one_fn
  cases ho : oddB p with
  | false =>
    have e0 : shiftG p = ⟨#[]⟩ := by unfold shiftG; rw [ho]; rfl
    rw [e0] at S0 S1
    clear e0 ho
    generalize shMulR (shInR a p) (shInR b p) p = m at *
    generalize shInR a p = x at *
    generalize shInR b p = y at *
    go_wp2_with fail
    refine (X1.out _).mono ?_
    rintro e v1 ⟨rfl, d1⟩
    have E1 := Lib.hid (bt E0.out d1)
    clear d1 E0
    go_wp2_with fail
    refine (X2.out _).mono ?_
    rintro e v2 ⟨rfl, d2⟩
    have E2 := Lib.hid (bt E1.out d2)
    clear d2 E1
    go_wp2_with fail
    refine (X3.out _).mono ?_
    rintro e v3 ⟨rfl, d3⟩
    have E3 := Lib.hid (bt E2.out d3)
    clear d3 E2
    go_wp2_with fail
    refine (S0 _).mono ?_
    rintro e v4 ⟨rfl, d4⟩
    have E4 := Lib.hid (bt E3.out d4)
    clear d4 E3
    go_wp2_with fail
    refine (S4.out _).mono ?_
    rintro e v5 ⟨rfl, d5⟩
    have E5 := Lib.hid (bt E4.out d5)
    clear d5 E4
    go_wp2_with fail
    refine (S1.out _).mono ?_
    rintro e v6 ⟨rfl, d6⟩
    have E6 := Lib.hid (bt E5.out d6)
    clear d6 E5
    go_wp2_with fail
    refine (S0 _).mono ?_
    rintro e v7 ⟨rfl, d7⟩
    have E7 := Lib.hid (bt E6.out d7)
    clear d7 E6
    go_wp2_with fail
    refine (S7.out _).mono ?_
    rintro e v8 ⟨rfl, d8⟩
    have E8 := Lib.hid (bt E7.out d8)
    clear d8 E7
    go_wp2_with fail
    refine (O1.out _).mono ?_
    rintro e v9 ⟨rfl, rfl⟩
    clear X1 X2 X3 S0 S1 S2 S3 S4 S7 O1
    go_wp2
    go_ret
    exact ⟨rfl, E8.out⟩
  | true =>
    have hne : (shiftG p).toList.isEmpty = false := by unfold shiftG; rw [ho, if_pos rfl]; exact gS_ne (sh_pos ho)
    cases ha : restB a p with
    | false =>
      rw [ha] at S2
      generalize shMulR (shInR a p) (shInR b p) p = m at *
      generalize shInR a p = x at *
      generalize shInR b p = y at *
      generalize shiftG p = sg at *
      go_wp2_with fail
      refine (X1.out _).mono ?_
      rintro e v1 ⟨rfl, d1⟩
      have E1 := Lib.hid (bt E0.out d1)
      clear d1 E0
      go_wp2_with fail
      refine (X2.out _).mono ?_
      rintro e v2 ⟨rfl, d2⟩
      have E2 := Lib.hid (bt E1.out d2)
      clear d2 E1
      go_wp2_with fail
      refine (X3.out _).mono ?_
      rintro e v3 ⟨rfl, d3⟩
      have E3 := Lib.hid (bt E2.out d3)
      clear d3 E2
      go_wp2_with fail
      refine (S0 _).mono ?_
      rintro e v4 ⟨rfl, d4⟩
      have E4 := Lib.hid (bt E3.out d4)
      clear d4 E3
      go_wp2_with fail
      refine (S2 _).mono ?_
      rintro e v5 ⟨rfl, d5⟩
      have E5 := Lib.hid (bt E4.out d5)
      clear d5 E4
      go_wp2_with fail
      refine (S4.out _).mono ?_
      rintro e v6 ⟨rfl, d6⟩
      have E6 := Lib.hid (bt E5.out d6)
      clear d6 E5
      go_wp2_with fail
      refine (S1.out _).mono ?_
      rintro e v7 ⟨rfl, d7⟩
      have E7 := Lib.hid (bt E6.out d7)
      clear d7 E6
      go_wp2_with fail
      refine (S0 _).mono ?_
      rintro e v8 ⟨rfl, d8⟩
      have E8 := Lib.hid (bt E7.out d8)
      clear d8 E7
      go_wp2_with fail
      refine (S7.out _).mono ?_
      rintro e v9 ⟨rfl, d9⟩
      have E9 := Lib.hid (bt E8.out d9)
      clear d9 E8
      go_wp2_with fail
      refine (O1.out _).mono ?_
      rintro e v10 ⟨rfl, rfl⟩
      clear X1 X2 X3 S0 S1 S2 S3 S4 S7 O1
      go_wp2
      go_ret
      exact ⟨rfl, E9.out⟩
    | true =>
      rw [ha] at S2
      cases hb : restB b p with
      | false =>
        rw [hb] at S3
        generalize shMulR (shInR a p) (shInR b p) p = m at *
        generalize shInR a p = x at *
        generalize shInR b p = y at *
        generalize shiftG p = sg at *
        go_wp2_with fail
        refine (X1.out _).mono ?_
        rintro e v1 ⟨rfl, d1⟩
        have E1 := Lib.hid (bt E0.out d1)
        clear d1 E0
        go_wp2_with fail
        refine (X2.out _).mono ?_
        rintro e v2 ⟨rfl, d2⟩
        have E2 := Lib.hid (bt E1.out d2)
        clear d2 E1
        go_wp2_with fail
        refine (X3.out _).mono ?_
        rintro e v3 ⟨rfl, d3⟩
        have E3 := Lib.hid (bt E2.out d3)
        clear d3 E2
        go_wp2_with fail
        refine (S0 _).mono ?_
        rintro e v4 ⟨rfl, d4⟩
        have E4 := Lib.hid (bt E3.out d4)
        clear d4 E3
        go_wp2_with fail
        refine (S2 _).mono ?_
        rintro e v5 ⟨rfl, d5⟩
        have E5 := Lib.hid (bt E4.out d5)
        clear d5 E4
        go_wp2_with fail
        refine (S3 _).mono ?_
        rintro e v6 ⟨rfl, d6⟩
        have E6 := Lib.hid (bt E5.out d6)
        clear d6 E5
        go_wp2_with fail
        refine (S4.out _).mono ?_
        rintro e v7 ⟨rfl, d7⟩
        have E7 := Lib.hid (bt E6.out d7)
        clear d7 E6
        go_wp2_with fail
        refine (S1.out _).mono ?_
        rintro e v8 ⟨rfl, d8⟩
        have E8 := Lib.hid (bt E7.out d8)
        clear d8 E7
        go_wp2_with fail
        refine (S0 _).mono ?_
        rintro e v9 ⟨rfl, d9⟩
        have E9 := Lib.hid (bt E8.out d9)
        clear d9 E8
        go_wp2_with fail
        refine (S7.out _).mono ?_
        rintro e v10 ⟨rfl, d10⟩
        have E10 := Lib.hid (bt E9.out d10)
        clear d10 E9
        go_wp2_with fail
        refine (O1.out _).mono ?_
        rintro e v11 ⟨rfl, rfl⟩
        clear X1 X2 X3 S0 S1 S2 S3 S4 S7 O1
        go_wp2
        go_ret
        exact ⟨rfl, E10.out⟩
      | true =>
        rw [hb] at S3
        obtain ⟨l1, l2, l3⟩ := shift_laws ho ha hb
        have hm := (oddB_parts ho).1
        have okp := (modB_parts hm).1
        have hodd := (oddB_parts ho).2
        have sp := okG_size okp
        have Y1 := Lib.hid (shiftOut_i (shInR a p) p)
        rw [l1] at Y1
        have Y2 := Lib.hid (shiftOut_i (shMulR (shInR a p) (shInR b p) p) p)
        rw [l2] at Y2
        have Y3 := Lib.hid (mulRest_any a b p)
        have Y4 := Lib.hid (shiftIn_i ⟨#[1]⟩ p)
        rw [l3] at Y4
        have Y5 := Lib.hid (lowInverse_i p)
        have Y6 := Lib.hid (restOf_any p ⟨#[1, 0, 0, 0]⟩)
        have Y7 := Lib.hid (greatInt_any (restG p ⟨#[1, 0, 0, 0]⟩))
        unfold IntPost at Y7
        rw [(low24 okp).1, (low24 okp).2] at Y7
        have eL : lowI p = (lowN (gV p) : Int) := by unfold lowI lowB; rw [okp, decide_eq_true hodd]; rfl
        rw [eL] at Y5
        have Y8 := Lib.hid (limbsOf_i p)
        obtain ⟨q1, q2, _⟩ := low_prop hodd
        have q3 := low_law hodd
        obtain ⟨L, hL⟩ : ∃ L, lowN (gV p) = L := ⟨_, rfl⟩
        obtain ⟨N, hN⟩ : ∃ N, gV p % 16777216 = N := ⟨_, rfl⟩
        have hN2 : N < 16777216 := by rw [← hN]; exact Nat.mod_lt _ (by omega)
        rw [hL] at Y5 q1 q2 q3
        rw [hN] at Y7 q3
        have hKb : L * N ≤ 16777215 * 16777215 := Nat.mul_le_mul (by omega) (by omega)
        obtain ⟨l, hl⟩ : ∃ l : Int, (L : Int) = l := ⟨_, rfl⟩
        obtain ⟨n, hn⟩ : ∃ n : Int, (N : Int) = n := ⟨_, rfl⟩
        obtain ⟨K, hK⟩ : ∃ K : Int, l * n = K := ⟨_, rfl⟩
        have eK : K = ((L * N : Nat) : Int) := by rw [← hK, ← hl, ← hn]; simp
        have k2 : K % 16777216 = 16777215 := by omega
        have k0 : 0 ≤ K := by omega
        have k10 : K ≤ 16777215 * 16777215 := by omega
        have k3 : 0 < l := by omega
        have k4 : l < 16777216 := by omega
        rw [hl] at Y5
        rw [hn] at Y7
        obtain ⟨M, hM⟩ : ∃ M : Nat, (p.size + 2) / 3 = M := ⟨_, rfl⟩
        have eG : limbG p = (M : Int) := by unfold limbG limbN; rw [okp, if_pos rfl, hM]
        rw [eG] at Y8
        have k5 : Hid (((p.size : Int) + 2) / 3 = (M : Int)) := by show _ = _; omega
        clear hKb eK hl hn hN2
        generalize mulR a b p = ab at *
        generalize shMulR (shInR a p) (shInR b p) p = m at *
        generalize shInR a p = x at *
        generalize shInR b p = y at *
        generalize shiftG p = sg at *
        generalize restG p ⟨#[1, 0, 0, 0]⟩ = rr at *
        clear ho ha hb l1 l2 l3 hm okp hodd eL q3 hL hN eG q1 q2 hM
        go_wp2_with fail
        refine (X1.out _).mono ?_
        rintro e v1 ⟨rfl, d1⟩
        have E1 := Lib.hid (bt E0.out d1)
        clear d1 E0
        go_wp2_with fail
        refine (X2.out _).mono ?_
        rintro e v2 ⟨rfl, d2⟩
        have E2 := Lib.hid (bt E1.out d2)
        clear d2 E1
        go_wp2_with fail
        refine (X3.out _).mono ?_
        rintro e v3 ⟨rfl, d3⟩
        have E3 := Lib.hid (bt E2.out d3)
        clear d3 E2
        go_wp2_with fail
        refine (S0 _).mono ?_
        rintro e v4 ⟨rfl, d4⟩
        have E4 := Lib.hid (bt E3.out d4)
        clear d4 E3
        go_wp2_with fail
        refine (S2 _).mono ?_
        rintro e v5 ⟨rfl, d5⟩
        have E5 := Lib.hid (bt E4.out d5)
        clear d5 E4
        go_wp2_with fail
        refine (S3 _).mono ?_
        rintro e v6 ⟨rfl, d6⟩
        have E6 := Lib.hid (bt E5.out d6)
        clear d6 E5
        go_wp2_with fail
        refine (Y5.out _).mono ?_
        rintro e v7 ⟨rfl, d7⟩
        have E7 := Lib.hid (bt E6.out d7)
        clear d7 E6
        go_wp2_with fail
        refine (Y6.out _).mono ?_
        rintro e v8 ⟨rfl, d8⟩
        have E8 := Lib.hid (bt E7.out d8)
        clear d8 E7
        go_wp2_with fail
        refine (Y7.out _).mono ?_
        rintro e v9 ⟨rfl, rfl⟩
        go_wp2_with fail
        refine (Y1.out _).mono ?_
        rintro e v10 ⟨rfl, d10⟩
        have E10 := Lib.hid (bt E8.out d10)
        clear d10 E8
        go_wp2_with fail
        refine (Y2.out _).mono ?_
        rintro e v11 ⟨rfl, d11⟩
        have E11 := Lib.hid (bt E10.out d11)
        clear d11 E10
        go_wp2_with fail
        refine (Y3.out _).mono ?_
        rintro e v12 ⟨rfl, d12⟩
        have E12 := Lib.hid (bt E11.out d12)
        clear d12 E11
        go_wp2_with fail
        refine (O1.out _).mono ?_
        rintro e v13 ⟨rfl, rfl⟩
        go_wp2_with fail
        refine (Y4.out _).mono ?_
        rintro e v14 ⟨rfl, d14⟩
        have E14 := Lib.hid (bt E12.out d14)
        clear d14 E12
        go_wp2_with fail
        refine (S1.out _).mono ?_
        rintro e v15 ⟨rfl, d15⟩
        have E15 := Lib.hid (bt E14.out d15)
        clear d15 E14
        go_wp2_with fail
        refine (Y8.out _).mono ?_
        rintro e v16 ⟨rfl, d16⟩
        have E16 := Lib.hid (bt E15.out d16)
        clear d16 E15
        clear X1 X2 X3 S0 S1 S2 S3 S4 S7 O1 Y1 Y2 Y3 Y4 Y5 Y6 Y7 Y8
        have k6 := k5.out
        go_wp2
        go_ret
        exact ⟨rfl, E16.out⟩
end Go.Proofs.YtdbjjnbmbeabeaaGreat

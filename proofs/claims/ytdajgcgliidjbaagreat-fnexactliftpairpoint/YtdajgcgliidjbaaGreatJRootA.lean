import Derived.Test.YtdajgcgliidjbaaGreatJHalf
import Derived.Test.YtdajgcgliidjbaaGreatQMath
import Derived.Test.YtdajgcgliidjbaaGreatQSpec
import Derived.Deep.LoopGhost
import Derived.Test.YtdajgcgliidjbaaGreatISubGreat
import Derived.Test.YtdajgcgliidjbaaGreatIOf
set_option maxRecDepth 8000
set_option maxHeartbeats 4000000
namespace Go.Proofs.YtdajgcgliidjbaaGreat
open Go.RowKit
theorem gS_inj {x y : Nat} (h : gS x = gS y) : x = y := by rw [← gV_gS x, ← gV_gS y, h]
theorem same_one (x : Nat) : sameT (gS x) ⟨#[1]⟩ = decide (x = 1) := by
 rw [← gS_one]
 by_cases h : x = 1
 ·rw [h, decide_eq_true rfl]; exact sameT_iff.2 rfl
 ·rw [decide_eq_false h]
  cases hb : sameT (gS x) (gS 1) with
  | false => rfl
  | true => exact absurd (gS_inj (sameT_iff.1 hb)) h
theorem same_none (x : Nat) : sameT (gS x) ⟨#[]⟩ = decide (x = 0) := by
 rw [← gS_zero]
 by_cases h : x = 0
 ·rw [h, decide_eq_true rfl]; exact sameT_iff.2 rfl
 ·rw [decide_eq_false h]
  cases hb : sameT (gS x) (gS 0) with
  | false => rfl
  | true => exact absurd (gS_inj (sameT_iff.1 hb)) h
def smallNB (n : Nat) : Bool := decide (n < 10000) && smallB n
theorem curvePB_great {p : ByteArray} (h : curvePB p = true) : 10000 ≤ gV p := by
 obtain ⟨e1, e2, e3, e4, e5, e6, e7, e8⟩ := curve_num
 rcases curvePB_cases h with rfl | rfl | rfl | rfl | rfl | rfl | rfl | rfl
 ·rw [e1]; decide
 ·rw [e2]; decide
 ·rw [e3]; decide
 ·rw [e4]; decide
 ·rw [e5]; decide
 ·rw [e6]; decide
 ·rw [e7]; decide
 ·rw [e8]; decide
theorem intG_nat (p : ByteArray) : intG p = (((intG p).toNat : Nat) : Int) := by
 unfold intG
 split
 ·rw [Int.toNat_natCast]
 ·rfl
theorem smallNB_int (p : ByteArray) : smallNB (intG p).toNat = ((okG p && decide (gV p < 10000)) && smallB (gV p)) := by
 unfold intG smallNB
 cases hb : intB p with
 | true =>
  have hok : okG p = true := by unfold intB at hb; simp only [Bool.and_eq_true] at hb; exact hb.1
  rw [if_pos rfl, Int.toNat_natCast, hok, Bool.true_and]
 | false =>
  rw [if_neg (by decide)]
  have h0 : smallB (Int.toNat 0) = false := smallB_less (.inl (by decide))
  rw [h0, Bool.and_false]
  cases ho : okG p with
  | false => rfl
  | true =>
   unfold intB at hb
   rw [ho, Bool.true_and, decide_eq_false_iff_not] at hb
   rw [decide_eq_false (by omega)]; rfl
theorem primeB_or (p : ByteArray) : primeB p = (curvePB p || smallNB (intG p).toNat) := by
 rw [smallNB_int]
 unfold primeB
 cases hc : (okG p && decide (gV p < 10000)) with
 | false => rw [if_neg (by decide), Bool.false_and, Bool.or_false]
 | true =>
  rw [if_pos rfl, Bool.true_and]
  cases hq : curvePB p with
  | false => rfl
  | true =>
   exfalso
   have := curvePB_great hq
   simp only [Bool.and_eq_true, decide_eq_true_eq] at hc
   omega
theorem same_cvP1 (p : ByteArray) : sameT p cvP1 = (p.toList == [26, 9, 71]) := by unfold sameT; rw [ByteArray.toList_eq cvP1]; rfl
theorem same_cvR1 (p : ByteArray) : sameT p cvR1 = (p.toList == [26, 4, 1]) := by unfold sameT; rw [ByteArray.toList_eq cvR1]; rfl
theorem same_cvP2 (p : ByteArray) : sameT p cvP2 = (p.toList == [2, 122, 161, 225, 67]) := by unfold sameT; rw [ByteArray.toList_eq cvP2]; rfl
theorem same_cvR2 (p : ByteArray) : sameT p cvR2 = (p.toList == [150, 3, 193]) := by unfold sameT; rw [ByteArray.toList_eq cvR2]; rfl
theorem same_cvP3 (p : ByteArray) : sameT p cvP3 = (p.toList == [48, 100, 78, 114, 225, 49, 160, 41, 184, 80, 69, 182, 129, 129, 88, 93, 151, 129, 106, 145, 104, 113, 202, 141, 60, 32, 140, 22, 216, 124, 253, 71]) := by unfold sameT; rw [ByteArray.toList_eq cvP3]; rfl
theorem same_cvR3 (p : ByteArray) : sameT p cvR3 = (p.toList == [48, 100, 78, 114, 225, 49, 160, 41, 184, 80, 69, 182, 129, 129, 88, 93, 40, 51, 232, 72, 121, 185, 112, 145, 67, 225, 245, 147, 240, 0, 0, 1]) := by unfold sameT; rw [ByteArray.toList_eq cvR3]; rfl
theorem same_cvP4 (p : ByteArray) : sameT p cvP4 = (p.toList == [26, 1, 17, 234, 57, 127, 230, 154, 75, 27, 167, 182, 67, 75, 172, 215, 100, 119, 75, 132, 243, 133, 18, 191, 103, 48, 210, 160, 246, 176, 246, 36, 30, 171, 255, 254, 177, 83, 255, 255, 185, 254, 255, 255, 255, 255, 170, 171]) := by unfold sameT; rw [ByteArray.toList_eq cvP4]; rfl
theorem same_cvR4 (p : ByteArray) : sameT p cvR4 = (p.toList == [115, 237, 167, 83, 41, 157, 125, 72, 51, 57, 216, 8, 9, 161, 216, 5, 83, 189, 164, 2, 255, 254, 91, 254, 255, 255, 255, 255, 0, 0, 0, 1]) := by unfold sameT; rw [ByteArray.toList_eq cvR4]; rfl
theorem curvePB_lists (p : ByteArray) : curvePB p = ((((p.toList == [26, 9, 71]) || (p.toList == [26, 4, 1])) || ((p.toList == [2, 122, 161, 225, 67]) || (p.toList == [150, 3, 193]))) || (((p.toList == [48, 100, 78, 114, 225, 49, 160, 41, 184, 80, 69, 182, 129, 129, 88, 93, 151, 129, 106, 145, 104, 113, 202, 141, 60, 32, 140, 22, 216, 124, 253, 71]) || (p.toList == [48, 100, 78, 114, 225, 49, 160, 41, 184, 80, 69, 182, 129, 129, 88, 93, 40, 51, 232, 72, 121, 185, 112, 145, 67, 225, 245, 147, 240, 0, 0, 1])) || ((p.toList == [26, 1, 17, 234, 57, 127, 230, 154, 75, 27, 167, 182, 67, 75, 172, 215, 100, 119, 75, 132, 243, 133, 18, 191, 103, 48, 210, 160, 246, 176, 246, 36, 30, 171, 255, 254, 177, 83, 255, 255, 185, 254, 255, 255, 255, 255, 170, 171]) || (p.toList == [115, 237, 167, 83, 41, 157, 125, 72, 51, 57, 216, 8, 9, 161, 216, 5, 83, 189, 164, 2, 255, 254, 91, 254, 255, 255, 255, 255, 0, 0, 0, 1])))) := by
 unfold curvePB; rw [same_cvP1, same_cvR1, same_cvP2, same_cvR2, same_cvP3, same_cvR3, same_cvP4, same_cvR4]
theorem is_one (x : Nat) : ((gS x).toList == [1]) = decide (x = 1) := by
 rw [← same_one]; unfold sameT; rw [ByteArray.toList_eq ⟨#[1]⟩]
theorem is_none (x : Nat) : (gS x).toList.isEmpty = decide (x = 0) := by
 rw [← same_none]; unfold sameT; rw [ByteArray.toList_eq ⟨#[]⟩]
 cases (gS x).toList <;> rfl
theorem primeOfCurve_i (p : ByteArray) (w : World) : Calls Tryz.prog 153 #[.string p] w fun e w' => e = .returned (.bool (curvePB p)) ∧ w = w' := by
 rw [curvePB_lists]
 cases h1 : (p.toList == [26, 9, 71]) with
 | true =>
  go_enter Tryz.func153, Tryz.ntmps153
  go_wp2
  go_ret
  exact ⟨rfl, rfl⟩
 | false =>
  cases h2 : (p.toList == [26, 4, 1]) with
  | true =>
   go_enter Tryz.func153, Tryz.ntmps153
   go_wp2
   go_ret
   exact ⟨rfl, rfl⟩
  | false =>
   cases h3 : (p.toList == [2, 122, 161, 225, 67]) with
   | true =>
    go_enter Tryz.func153, Tryz.ntmps153
    go_wp2
    go_ret
    exact ⟨rfl, rfl⟩
   | false =>
    cases h4 : (p.toList == [150, 3, 193]) with
    | true =>
     go_enter Tryz.func153, Tryz.ntmps153
     go_wp2
     go_ret
     exact ⟨rfl, rfl⟩
    | false =>
     cases h5 : (p.toList == [48, 100, 78, 114, 225, 49, 160, 41, 184, 80, 69, 182, 129, 129, 88, 93, 151, 129, 106, 145, 104, 113, 202, 141, 60, 32, 140, 22, 216, 124, 253, 71]) with
     | true =>
      go_enter Tryz.func153, Tryz.ntmps153
      go_wp2
      go_ret
      exact ⟨rfl, rfl⟩
     | false =>
      cases h6 : (p.toList == [48, 100, 78, 114, 225, 49, 160, 41, 184, 80, 69, 182, 129, 129, 88, 93, 40, 51, 232, 72, 121, 185, 112, 145, 67, 225, 245, 147, 240, 0, 0, 1]) with
      | true =>
       go_enter Tryz.func153, Tryz.ntmps153
       go_wp2
       go_ret
       exact ⟨rfl, rfl⟩
      | false =>
       cases h7 : (p.toList == [26, 1, 17, 234, 57, 127, 230, 154, 75, 27, 167, 182, 67, 75, 172, 215, 100, 119, 75, 132, 243, 133, 18, 191, 103, 48, 210, 160, 246, 176, 246, 36, 30, 171, 255, 254, 177, 83, 255, 255, 185, 254, 255, 255, 255, 255, 170, 171]) with
       | true =>
        go_enter Tryz.func153, Tryz.ntmps153
        go_wp2
        go_ret
        exact ⟨rfl, rfl⟩
       | false =>
        cases h8 : (p.toList == [115, 237, 167, 83, 41, 157, 125, 72, 51, 57, 216, 8, 9, 161, 216, 5, 83, 189, 164, 2, 255, 254, 91, 254, 255, 255, 255, 255, 0, 0, 0, 1]) with
        | true =>
         go_enter Tryz.func153, Tryz.ntmps153
         go_wp2
         go_ret
         exact ⟨rfl, rfl⟩
        | false =>
         go_enter Tryz.func153, Tryz.ntmps153
         go_wp2
         go_ret
         exact ⟨rfl, rfl⟩
theorem smallPrime_i (p : ByteArray) (w : World) : Calls Tryz.prog 154 #[.string p] w fun e w' => e = .returned (.bool (smallNB (intG p).toNat)) ∧ w = w' := by
 have HG := Lib.hid (greatInt_i p)
 unfold IntPost at HG
 rw [intG_nat p] at HG
 generalize (intG p).toNat = n at *
 generalize intB p = ib at *
 by_cases h2 : n ≤ 2
 ·have h2' : (n : Int) ≤ 2 := by omega
  have d2 : decide ((n : Int) ≤ 2) = true := decide_eq_true h2'
  have E : smallNB n = false := by unfold smallNB; rw [smallB_less (.inl (by omega)), Bool.and_false]
  rw [E]
  clear h2 E
  go_enter Tryz.func154, Tryz.ntmps154
  go_wp2_with fail
  refine (HG.out _).mono ?_
  rintro e w1 ⟨rfl, rfl⟩
  go_wp2
  go_ret
  exact ⟨rfl, rfl⟩
 have h2' : ¬ (n : Int) ≤ 2 := by omega
 have d2 : decide ((n : Int) ≤ 2) = false := decide_eq_false h2'
 by_cases h1 : 10000 ≤ n
 ·have h1' : (10000 : Int) ≤ (n : Int) := by omega
  have d1 : decide ((10000 : Int) ≤ (n : Int)) = true := decide_eq_true h1'
  have E : smallNB n = false := by unfold smallNB; rw [decide_eq_false (by omega)]; rfl
  rw [E]
  clear h2 h1 E
  go_enter Tryz.func154, Tryz.ntmps154
  go_wp2_with fail
  refine (HG.out _).mono ?_
  rintro e w1 ⟨rfl, rfl⟩
  go_wp2
  go_ret
  exact ⟨rfl, rfl⟩
 have h1' : ¬ (10000 : Int) ≤ (n : Int) := by omega
 have d1 : decide ((10000 : Int) ≤ (n : Int)) = false := decide_eq_false h1'
 have hn : n < 10000 := by omega
 have E : smallNB n = smallB n := by unfold smallNB; rw [decide_eq_true hn, Bool.true_and]
 rw [E]
 clear E
 by_cases he : n % 2 = 0
 ·have e1 : (n : Int) % 2 = 0 := by omega
  have e2 : ((n : Int) % 2 == 0) = true := by simpa using e1
  rw [smallB_less (.inr he)]
  clear he
  go_enter Tryz.func154, Tryz.ntmps154
  go_wp2_with fail
  refine (HG.out _).mono ?_
  rintro e w1 ⟨rfl, rfl⟩
  go_wp2
  go_ret
  exact ⟨rfl, rfl⟩
 have e1 : (n : Int) % 2 = 1 := by omega
 have e2 : ((n : Int) % 2 == 0) = false := by rw [e1]; rfl
 have HN := Lib.hid (fun k (h3 : 3 ≤ k) (ho : k % 2 = 1) (hk : k * k ≤ n) (hd : n % k = 0) => smallB_no hn h3 ho hk hd)
 have HY := Lib.hid (fun k (hk : n < k * k) (h : ∀ j, 3 ≤ j → j % 2 = 1 → j < k → n % j ≠ 0) => smallB_yes (by omega : 3 ≤ n) (by omega) hk h)
 clear he
 go_enter Tryz.func154, Tryz.ntmps154
 go_wp2_with fail
 refine (HG.out _).mono ?_
 rintro e w1 ⟨rfl, rfl⟩
 clear HG
 go_wp2
 clear e1 e2 d1 d2
 go_loop [5] (fun kv => ∃ k : Nat, 3 ≤ k ∧ k % 2 = 1 ∧ k ≤ 101 ∧ kv = .int .i64 (k : Int) ∧ Hid (∀ j, 3 ≤ j → j % 2 = 1 → j < k → n % j ≠ 0)) (fun kv => 200 - (intOf kv).toNat)
 case atStart => exact ⟨3, by omega, by omega, by omega, rfl, fun j h1 h2 h3 => by omega⟩
 case round =>
  obtain ⟨k, k3, ko, k101, rfl, hI⟩ := hrel
  obtain ⟨q, hq⟩ : ∃ q, k * k = q := ⟨_, rfl⟩
  have hqI : (k : Int) * (k : Int) = (q : Int) := by rw [← hq]; simp
  have hq2 : q ≤ 101 * 101 := by rw [← hq]; exact Nat.mul_le_mul k101 k101
  by_cases hle : q ≤ n
  ·have hle' : (q : Int) ≤ (n : Int) := by omega
   have hk100 : k < 100 := by
    rcases Nat.lt_or_ge k 100 with h | h
    ·exact h
    ·have : 100 * 100 ≤ k * k := Nat.mul_le_mul h h; omega
   have k0 : ((k : Int) == 0) = false := by simp; omega
   have k0' : ¬ (k : Int) = 0 := by omega
   by_cases hd : n % k = 0
   ·have hd' : (n : Int) % (k : Int) = 0 := by exact_mod_cast hd
    have hd2 : ((n : Int) % (k : Int) == 0) = true := by simpa using hd'
    have E := Lib.hid (HN.out k k3 ko (by omega) hd)
    clear HN HY hI hd hq
    go_wp2
    go_ret
    exact ⟨by rw [E.out]; rfl, rfl⟩
   ·have hd' : ¬ (n : Int) % (k : Int) = 0 := by exact_mod_cast hd
    have hd2 : ((n : Int) % (k : Int) == 0) = false := by simpa using hd'
    have hI2 : Hid (∀ j, 3 ≤ j → j % 2 = 1 → j < k + 2 → n % j ≠ 0) := fun j h1 h2 h3 => by
     rcases Nat.lt_or_ge j k with h | h
     ·exact hI.out j h1 h2 h
     ·obtain rfl : j = k := by omega
      exact hd
    clear hI hq hd
    go_wp2
    go_round
    case rel => exact ⟨k + 2, by omega, by omega, by omega, by go_num, hI2⟩
    case measure => simp [intOf]; omega
  ·have hle' : ¬ (q : Int) ≤ (n : Int) := by omega
   have E := Lib.hid (HY.out k (by omega) hI.out)
   clear HN HY hI hq
   go_wp2
   go_ret
   exact ⟨by rw [E.out]; rfl, rfl⟩
theorem primeOk_s (p : ByteArray) (w : World) : Calls Tryz.prog 113 #[.string p] w fun e w' => e = .returned (.bool (primeB p)) ∧ w = w' := by
 rw [primeB_or]
 have H1 := Lib.hid (primeOfCurve_i p)
 have H2 := Lib.hid (smallPrime_i p)
 generalize smallNB (intG p).toNat = sb at *
 cases hc : curvePB p with
 | true =>
  rw [hc] at H1
  go_enter Tryz.func113, Tryz.ntmps113
  go_wp2_with fail
  refine (H1.out _).mono ?_
  rintro e w1 ⟨rfl, rfl⟩
  go_wp2
  go_ret
  exact ⟨rfl, rfl⟩
 | false =>
  rw [hc] at H1
  go_enter Tryz.func113, Tryz.ntmps113
  go_wp2_with fail
  refine (H1.out _).mono ?_
  rintro e w1 ⟨rfl, rfl⟩
  go_wp2_with fail
  refine (H2.out _).mono ?_
  rintro e w1 ⟨rfl, rfl⟩
  go_wp2
  go_ret
  exact ⟨rfl, rfl⟩
theorem primeOk_i (p : ByteArray) (w : World) : Calls Tryz.prog 113 #[.string p] w fun e w' => e = .returned (.bool (primeB p)) ∧ Below w.heap.size w w' :=
 (primeOk_s p w).mono fun _ _ ⟨h1, h2⟩ => ⟨h1, h2 ▸ Below.refl _ _⟩
theorem halfDown_i (s : ByteArray) (ok : okG s = true) (w : World) : Calls Tryz.prog 157 #[.string s] w fun e w' => e = .returned (.string (gS (gV s / 2))) ∧ Below w.heap.size w w' := by
 have I1 := Lib.hid (fun w => rowOf_any s w (okG_size' ok))
 have hG := gV_lt ok
 obtain ⟨x, hx⟩ : ∃ x, gV s = x := ⟨_, rfl⟩
 rw [hx] at I1 hG ⊢
 have hlt : x / 2 < GB := by omega
 have HLT := Lib.hid hlt
 obtain ⟨Z, hZ⟩ : ∃ Z, rowC Z81 0 = Z := ⟨_, rfl⟩
 have hz := zero_row.1
 rw [hZ] at hz
 have HZ := Lib.hid hZ
 clear ok hx hZ hlt
 go_enter Tryz.func157, Tryz.ntmps157
 go_wp2_with fail
 refine (I1.out _).mono ?_
 rintro e w1 ⟨lx, cx, rfl, hlx, vx, ex, b1⟩
 have HV1 := Lib.hid (one_var w1 HZ.out)
 have HVS := Lib.hid (var_set w1 (c := cx) HZ.out hlx)
 have cx40 := cnt_40 vx (by rw [ex]; omega)
 have HLX := Lib.hid hlx
 have HVX := Lib.hid (And.intro vx ex)
 have HB1 := Lib.hid b1
 clear hlx vx ex b1 I1
 go_wp2_with (refine store_at rfl (.tmp 3) (.tmp 6) rfl w1.heap.size Z81 lx 0 cx rfl rfl HV1.out.1 HLX.out ?_)
 generalize World.setRow _ _ _ = w2 at *
 have HB2 := Lib.hid (bt HB1.out HVS.out.2)
 have HR2 := Lib.hid HVS.out.1
 clear HVS HV1 HB1
 generalize w1.heap.size = g at *
 have HD := Lib.hid (shiftedDown_any g cx 1 lx w2 HR2.out HVX.out.1 (by omega) (by omega))
 refine HD.out.mono ?_
 rintro e w4 ⟨l, c, rfl, hl, v, ⟨hv, hc⟩, b4⟩
 have HV4 := Lib.hid (one_var w4 HZ.out)
 have HVS := Lib.hid (var_set w4 (c := c) HZ.out hl)
 have hvv : W.lV l = x / 2 := by rw [hv, HVX.out.2, Nat.pow_one]
 have HL := Lib.hid hl
 have HVV := Lib.hid (And.intro v hvv)
 have HB4 := Lib.hid (bt HB2.out b4)
 clear hl v hv hvv b4 HD HB2 HR2
 go_wp2_with (refine store_at rfl (.tmp 4) (.tmp 7) rfl w4.heap.size Z81 l 0 c rfl rfl HV4.out.1 HL.out ?_)
 generalize World.setRow _ _ _ = w5 at *
 have HB5 := Lib.hid (bt HB4.out HVS.out.2)
 have HG := Lib.hid (great_any _ _ _ _ HVS.out.1 HVV.out.1 (by omega))
 rw [HVV.out.2, great_gS HLT.out] at HG
 clear HVS HV4 HB4
 refine HG.out.mono ?_
 rintro e w6 ⟨rfl, b6⟩
 have bb := bt HB5.out b6
 clear HG HB5 b6
 go_wp2
 go_ret
 exact ⟨rfl, bb⟩
theorem modB_prime {p : ByteArray} (hp : primeB p = true) : modB p = true := by
 obtain ⟨ok, pp⟩ := primeB_p hp
 have := pp.ge
 unfold modB; rw [ok, decide_eq_true (by omega)]; rfl
theorem powR_half {a p : ByteArray} (hp : primeB p = true) (hr : restB a p = true) : powR a (gS (gV p / 2)) p = gS (gV a ^ ((gV p - 1) / 2) % gV p) := by
 obtain ⟨ok, pp⟩ := primeB_p hp
 have hm := modB_prime hp
 have hG := gV_lt ok
 have ho := pp.prm.odd pp.ge
 have h3 := pp.ge
 unfold powR oneB
 rw [hm, hr, okS (by omega), gV_gS, show gV p / 2 = (gV p - 1) / 2 by omega]
 rfl
theorem symbolOf_i (a p : ByteArray) (w : World) : Calls Tryz.prog 123 #[.string a, .string p] w (SymPost (symG a p) w) := by
 have HP := Lib.hid (primeOk_s p)
 have HR := Lib.hid (restOk_s a p)
 unfold symG
 cases hp : primeB p with
 | false =>
  rw [hp] at HP
  rw [Bool.false_and, if_neg (by decide)]
  go_enter Tryz.func123, Tryz.ntmps123
  go_wp2_with fail
  refine (HP.out _).mono ?_
  rintro e w1 ⟨rfl, rfl⟩
  go_wp2
  go_ret
  exact ⟨rfl, Below.refl _ _⟩
 | true =>
  rw [hp] at HP
  rw [Bool.true_and]
  cases hr : restB a p with
  | false =>
   rw [hr] at HR
   rw [if_neg (by decide)]
   go_enter Tryz.func123, Tryz.ntmps123
   go_wp2_with fail
   refine (HP.out _).mono ?_
   rintro e w1 ⟨rfl, rfl⟩
   go_wp2_with fail
   refine (HR.out _).mono ?_
   rintro e w1 ⟨rfl, rfl⟩
   go_wp2
   go_ret
   exact ⟨rfl, Below.refl _ _⟩
  | true =>
   rw [hr] at HR
   rw [if_pos rfl]
   obtain ⟨okp, pp⟩ := primeB_p hp
   have HD := Lib.hid (halfDown_i p okp)
   have HW := Lib.hid (powRest_i a (gS (gV p / 2)) p)
   rw [powR_half hp hr] at HW
   generalize gS (gV p / 2) = ht at *
   unfold symN
   obtain ⟨X, hX⟩ : ∃ X, gV a ^ ((gV p - 1) / 2) % gV p = X := ⟨_, rfl⟩
   rw [hX] at HW ⊢
   obtain ⟨sv, hsv⟩ : ∃ sv : Int, (if X = 0 then 0 else if X = 1 then 1 else -1) = sv := ⟨_, rfl⟩
   rw [hsv]
   have h0 := is_none X
   have h1 := is_one X
   have hc : ((gS X).toList.isEmpty = true ∧ sv = 0) ∨ (((gS X).toList.isEmpty = false ∧ ((gS X).toList == [1]) = true) ∧ sv = 1) ∨ (((gS X).toList.isEmpty = false ∧ ((gS X).toList == [1]) = false) ∧ sv = -1) := by
    rw [h0, h1, ← hsv]
    by_cases x0 : X = 0
    ·exact .inl ⟨decide_eq_true x0, if_pos x0⟩
    ·by_cases x1 : X = 1
     ·exact .inr (.inl ⟨⟨decide_eq_false x0, decide_eq_true x1⟩, by rw [if_neg x0, if_pos x1]⟩)
     ·exact .inr (.inr ⟨⟨decide_eq_false x0, decide_eq_false x1⟩, by rw [if_neg x0, if_neg x1]⟩)
   generalize gS X = T at *
   clear hp hr okp pp hX hsv h0 h1
   rcases hc with ⟨c0, rfl⟩ | ⟨⟨c0, c1⟩, rfl⟩ | ⟨⟨c0, c1⟩, rfl⟩
   all_goals (
    go_enter Tryz.func123, Tryz.ntmps123
    go_wp2_with fail
    refine (HP.out _).mono ?_
    rintro e w1 ⟨rfl, rfl⟩
    go_wp2_with fail
    refine (HR.out _).mono ?_
    rintro e w1 ⟨rfl, rfl⟩
    go_wp2_with fail
    refine (HD.out _).mono ?_
    rintro e w1 ⟨rfl, b1⟩
    go_wp2_with fail
    refine (HW.out _).mono ?_
    rintro e w2 ⟨rfl, b2⟩
    have bb := bt b1 b2
    clear b1 b2 HP HR HD HW
    go_wp2
    go_ret
    exact ⟨rfl, bb⟩)
theorem greaterB_and (a p : ByteArray) : greaterB a p = (restB a p && decide (0 < cmpG a (negR a p))) := by
 unfold greaterB oneB
 cases hr : restB a p with
 | false => rw [Bool.and_false, Bool.false_and]; rfl
 | true =>
  obtain ⟨oka, okp, hap⟩ := restB_parts hr
  rw [Bool.and_true, Bool.true_and]
  cases hm : modB p with
  | false =>
   have h1 : gV p = 1 := by
    unfold modB at hm
    rw [okp, Bool.true_and, decide_eq_false_iff_not] at hm
    omega
   have h0 : gV a = 0 := by omega
   have hn : negR a p = ⟨#[]⟩ := by unfold negR subR twoB; rw [hm]; rfl
   rw [hn, Bool.false_and]
   unfold cmpG okT
   rw [oka, show okG ⟨#[]⟩ = true from rfl, Bool.and_self, if_pos rfl, h0, show gV ⟨#[]⟩ = 0 from rfl]
   decide
  | true =>
   rw [Bool.true_and]
   have EN : negR a p = gS ((0 + gV p - gV a) % gV p) := by
    unfold negR subR twoB
    rw [hm, hr, show restB ⟨#[]⟩ p = true from by unfold restB; rw [okp, show okG ⟨#[]⟩ = true from rfl, show gV ⟨#[]⟩ = 0 from rfl, decide_eq_true (by omega)]; rfl]
    rfl
   rw [EN]
   unfold cmpG okT
   rw [oka, okS (Nat.lt_trans (Nat.mod_lt _ (by omega)) (gV_lt okp)), Bool.and_self, if_pos rfl, gV_gS, Bool.eq_iff_iff]
   simp only [decide_eq_true_eq]
   unfold cmpI
   split
   ·omega
   ·split <;> omega
theorem greater_i (a p : ByteArray) (w : World) : Calls Tryz.prog 116 #[.string a, .string p] w fun e w' => e = .returned (.bool (greaterB a p)) ∧ Below w.heap.size w w' := by
 have HR := Lib.hid (restOk_s a p)
 rw [greaterB_and]
 cases hr : restB a p with
 | false =>
  rw [hr] at HR
  rw [Bool.false_and]
  go_enter Tryz.func116, Tryz.ntmps116
  go_wp2_with fail
  refine (HR.out _).mono ?_
  rintro e w1 ⟨rfl, rfl⟩
  go_wp2
  go_ret
  exact ⟨rfl, Below.refl _ _⟩
 | true =>
  rw [hr] at HR
  rw [Bool.true_and]
  have HN := Lib.hid (negRest_i a p)
  have HC := Lib.hid (compareGreat_i a (negR a p))
  generalize negR a p = ng at *
  generalize cmpG a ng = kk at *
  clear hr
  go_enter Tryz.func116, Tryz.ntmps116
  go_wp2_with fail
  refine (HR.out _).mono ?_
  rintro e w1 ⟨rfl, rfl⟩
  go_wp2_with fail
  refine (HN.out _).mono ?_
  rintro e w2 ⟨rfl, b2⟩
  go_wp2_with fail
  refine (HC.out _).mono ?_
  rintro e w3 ⟨rfl, rfl⟩
  clear HR HN HC
  go_wp2
  go_ret
  exact ⟨rfl, b2⟩
end Go.Proofs.YtdajgcgliidjbaaGreat
namespace Go.Proofs.YtdajgcgliidjbaaGreat
open Go.RowKit
theorem bN_take (l : List UInt8) (k : Nat) : bN (l.take k) = bN l / 256 ^ (l.length - k) := by
 have e := bN_append (l.take k) (l.drop k)
 rw [List.take_append_drop, List.length_drop] at e
 have hl := bN_lt (l.drop k)
 rw [List.length_drop] at hl
 rw [e, Nat.mul_comm, Nat.mul_add_div (Nat.pow_pos (by omega)), Nat.div_eq_of_lt hl, Nat.add_zero]
theorem gV_cut (s : ByteArray) {k : Nat} (h : k ≤ s.size) : gV (s.extract 0 (s.size - k)) = gV s / 256 ^ k := by
 have hl : s.data.toList.length = s.size := by rw [Array.length_toList]; rfl
 have e : (s.extract 0 (s.size - k)).data.toList = s.data.toList.take (s.size - k) := by
  simp [ByteArray.data_extract]
 unfold gV
 rw [e, bN_take, hl, show s.size - (s.size - k) = k by omega]
theorem cut_size (s : ByteArray) (k : Nat) : (s.extract 0 (s.size - k)).size = s.size - k := by
 simp [ByteArray.size_extract]
theorem twos_bit {N t : Nat} (h0 : 0 < N) (h : t ≤ twosN N) : N / 2 ^ t % 2 = (if t < twosN N then 0 else 1) ∧ t < bitLen N := by
 obtain ⟨e1, e2⟩ := twos_all N h0
 have hle : 2 ^ t ≤ N := by
  have h1 : 2 ^ t ≤ 2 ^ twosN N := Nat.pow_le_pow_right (by omega) h
  have hpos : 0 < oddN N := by omega
  have h2 : 2 ^ twosN N * 1 ≤ 2 ^ twosN N * oddN N := Nat.mul_le_mul_left _ hpos
  omega
 refine ⟨?_, ?_⟩
 ·by_cases ht : t < twosN N
  ·rw [if_pos ht]
   obtain ⟨k, hk⟩ : ∃ k, twosN N = t + (k + 1) := ⟨twosN N - t - 1, by omega⟩
   obtain ⟨q, hq⟩ : ∃ q, oddN N = q := ⟨_, rfl⟩
   rw [hk, hq, Nat.pow_add, Nat.mul_assoc] at e1
   rw [e1, Nat.mul_div_cancel_left _ (Nat.pow_pos (by omega)), Nat.pow_succ, Nat.mul_comm (2 ^ k) 2, Nat.mul_assoc, Nat.mul_mod_right]
  ·rw [if_neg ht]
   obtain rfl : t = twosN N := by omega
   exact e2
 ·have hb := (bitLen_bounds h0).2.1
  rcases Nat.lt_or_ge t (bitLen N) with h3 | h3
  ·exact h3
  ·exfalso
   have := Nat.pow_le_pow_right (n := 2) (by omega) h3
   omega
theorem twos_size {s : ByteArray} {t : Nat} (h : 2 ^ t ≤ gV s) : t / 8 < s.size := by
 rcases Nat.lt_or_ge (t / 8) s.size with h1 | h1
 ·exact h1
 ·exfalso
  have h2 := gV_size s
  have h3 : 256 ^ s.size ≤ 256 ^ (t / 8) := Nat.pow_le_pow_right (by omega) h1
  have h4 : (256 : Nat) ^ (t / 8) = 2 ^ (8 * (t / 8)) := by rw [Nat.pow_mul]
  have h5 : (2 : Nat) ^ (8 * (t / 8)) ≤ 2 ^ t := Nat.pow_le_pow_right (by omega) (by omega)
  omega
theorem twos_down (N t : Nat) : N / 256 ^ (t / 8) / 2 ^ (t % 8) = N / 2 ^ t := by
 rw [show (256 : Nat) ^ (t / 8) = 2 ^ (8 * (t / 8)) from by rw [Nat.pow_mul], Nat.div_div_eq_div_mul, ← Nat.pow_add, Nat.div_add_mod]
theorem twos_pow_le {N : Nat} (h0 : 0 < N) : 2 ^ twosN N ≤ N := by
 obtain ⟨e1, e2⟩ := twos_all N h0
 have hpos : 0 < oddN N := by omega
 have h2 : 2 ^ twosN N * 1 ≤ 2 ^ twosN N * oddN N := Nat.mul_le_mul_left _ hpos
 omega
theorem sub_one {p : ByteArray} (hm : modB p = true) : subB p ⟨#[1]⟩ = true ∧ subG p ⟨#[1]⟩ = gS (gV p - 1) := by
 obtain ⟨okp, h1⟩ := modB_parts hm
 have hb : subB p ⟨#[1]⟩ = true := by
  unfold subB okT
  rw [okp, show okG ⟨#[1]⟩ = true from by decide, show gV ⟨#[1]⟩ = 1 from by decide, decide_eq_true (by omega)]; rfl
 refine ⟨hb, ?_⟩
 unfold subG
 rw [hb, if_pos rfl, show gV ⟨#[1]⟩ = 1 from by decide]
theorem bitOf_num {N t b : Nat} (hN : N < GB) (ht : t < bitLen N) (hb : N / 2 ^ t % 2 = b) (h64 : t < 1280) (w : World) : Calls Tryz.prog 114 #[.string (gS N), .int .i64 (t : Int)] w fun e w' => e = .returned (.int .i64 (b : Int)) ∧ w = w' := by
 have e := bit_pow (okS hN) (i := t) (by rw [gV_gS]; exact ht)
 rw [gV_gS, hb] at e
 rw [← e]
 exact bitOf_i (gS N) (t : Int) (by omega) w
theorem twosIn_i (p : ByteArray) (w : World) : Calls Tryz.prog 155 #[.string p] w (TwosPost p w) := by
 have HM := Lib.hid (leaves_s p)
 unfold TwosPost twosG oddG
 cases hm : modB p with
 | false =>
  rw [hm] at HM
  rw [if_neg (by decide), if_neg (by decide)]
  go_enter Tryz.func155, Tryz.ntmps155
  go_wp2_with fail
  refine (HM.out _).mono ?_
  rintro e w1 ⟨rfl, rfl⟩
  go_wp2
  go_ret2
  exact ⟨rfl, Below.refl _ _⟩
 | true =>
  rw [hm] at HM
  rw [if_pos rfl, if_pos rfl]
  obtain ⟨okp, h1⟩ := modB_parts hm
  have hG := gV_lt okp
  have HS := Lib.hid (subGreat_i p ⟨#[1]⟩)
  rw [(sub_one hm).1, (sub_one hm).2] at HS
  have htw := twos_1280 hG h1
  obtain ⟨N, hN⟩ : ∃ N, gV p - 1 = N := ⟨_, rfl⟩
  rw [hN] at HS htw ⊢
  have hN0 : 0 < N := by omega
  have hNG : N < GB := by omega
  have hsz := twos_size (s := gS N) (t := twosN N) (by rw [gV_gS]; exact twos_pow_le hN0)
  have hs160 := okG_size (okS hNG)
  obtain ⟨T, hT⟩ : ∃ T, twosN N = T := ⟨_, rfl⟩
  have hodd : N / 256 ^ (T / 8) / 2 ^ (T % 8) = oddN N := by rw [twos_down, ← hT]; rfl
  have hoG : oddN N < GB := by rw [← hodd]; exact Nat.lt_of_le_of_lt (Nat.le_trans (Nat.div_le_self _ _) (Nat.div_le_self _ _)) hNG
  have HB0 : Hid (∀ t w, t < T → Calls Tryz.prog 114 #[.string (gS N), .int .i64 ((t : Nat) : Int)] w fun e w' => e = .returned (.int .i64 ((0 : Nat) : Int)) ∧ w = w') := fun t w ht => by
   obtain ⟨q1, q2⟩ := twos_bit hN0 (t := t) (by omega)
   rw [if_pos (by omega)] at q1
   exact bitOf_num hNG q2 q1 (by omega) w
  have HB1 : Hid (∀ w, Calls Tryz.prog 114 #[.string (gS N), .int .i64 (T : Int)] w fun e w' => e = .returned (.int .i64 ((1 : Nat) : Int)) ∧ w = w') := fun w => by
   obtain ⟨q1, q2⟩ := twos_bit hN0 (t := T) (by omega)
   rw [if_neg (by omega)] at q1
   exact bitOf_num hNG q2 q1 (by omega) w
  rw [hT] at hsz htw ⊢
  have hcut := gV_cut (gS N) (k := T / 8) (by omega)
  have hcs := cut_size (gS N) (T / 8)
  have hcutG : gV (gS N) / 256 ^ (T / 8) < GB := Nat.lt_of_le_of_lt (Nat.div_le_self _ _) (by rw [gV_gS]; exact hNG)
  have HR := Lib.hid (fun w => rowOf_any ((gS N).extract 0 ((gS N).size - T / 8)) w (by omega))
  rw [hcut, gV_gS] at HR
  rw [gV_gS] at hcutG
  obtain ⟨V, hV⟩ : ∃ V, N / 256 ^ (T / 8) = V := ⟨_, rfl⟩
  rw [hV] at HR hcutG hodd
  generalize gS N = S at *
  obtain ⟨z, hz0⟩ : ∃ z, S.size = z := ⟨_, rfl⟩
  rw [hz0] at hsz hs160 HR
  obtain ⟨K, hK⟩ : ∃ K, z - T / 8 = K := ⟨_, rfl⟩
  rw [hK] at HR
  obtain ⟨m8, hm8⟩ : ∃ m8, T % 8 = m8 := ⟨_, rfl⟩
  rw [hm8] at hodd
  have hKI : (z : Int) - (T : Int) / 8 = (K : Int) := by omega
  have hKI2 : IntKind.i64.wrap ((z : Int) - (T : Int) / 8) = (K : Int) := by rw [hKI]; exact IntWalk.i64_in _ (by omega)
  have hmI : (T : Int) % 8 = (m8 : Int) := by omega
  have hKz : (K : Int) ≤ (z : Int) := by omega
  have hKz' : K ≤ z := by omega
  have HO := Lib.hid (And.intro hodd hoG)
  have HVG := Lib.hid hcutG
  generalize oddN N = od at *
  obtain ⟨Z, hZ⟩ : ∃ Z, rowC Z81 0 = Z := ⟨_, rfl⟩
  have hz := zero_row.1
  rw [hZ] at hz
  have HZ := Lib.hid hZ
  clear hm okp h1 hG hT hodd hoG hcut hcs hcutG hV hZ hN hN0 hNG
  go_enter Tryz.func155, Tryz.ntmps155
  go_wp2_with fail
  refine (HM.out _).mono ?_
  rintro e w1 ⟨rfl, rfl⟩
  clear HM
  go_wp2_with fail
  refine (HS.out _).mono ?_
  rintro e w1 ⟨rfl, b1⟩
  have HBe := Lib.hid b1
  clear HS b1
  go_wp2
  go_loopw [6] (fun kv wr => ∃ (t : Nat), t ≤ T ∧ kv = .int .i64 (t : Int) ∧ Hid (Below w.heap.size w wr)) (fun kv _ => 2000 - (intOf kv).toNat)
  case atStart => exact ⟨0, by omega, rfl, HBe⟩
  case round =>
   clear HBe
   obtain ⟨t, tT, rfl, hB⟩ := hrel
   by_cases hlt : t < T
   ·have O1 := Lib.hid (fun w => HB0.out t w hlt)
    clear HB0 HB1 HR HO HVG
    go_wp2_with fail
    refine (O1.out _).mono ?_
    rintro e w2 ⟨rfl, rfl⟩
    go_wp2
    go_roundw
    case rel => exact ⟨t + 1, by omega, by go_num, hB⟩
    case measure => simp [intOf]; omega
   ·obtain rfl : t = T := by omega
    clear HB0 hlt tT
    go_wp2_with fail
    refine (HB1.out _).mono ?_
    rintro e w2 ⟨rfl, rfl⟩
    clear HB1
    go_wp2_with fail
    refine (HR.out _).mono ?_
    rintro e w1 ⟨lx, cx, rfl, hlx, vx, ex, b1⟩
    have HV1 := Lib.hid (one_var w1 HZ.out)
    have HVS := Lib.hid (var_set w1 (c := cx) HZ.out hlx)
    have cx40 := cnt_40 vx (by rw [ex]; exact HVG.out)
    have HLX := Lib.hid hlx
    have HVX := Lib.hid (And.intro vx ex)
    have HB1 := Lib.hid (bt hB.out b1)
    clear hlx vx ex b1 HR hB
    go_wp2_with (refine store_at rfl (.tmp 7) (.tmp 30) rfl w1.heap.size Z81 lx 0 cx rfl rfl HV1.out.1 HLX.out ?_)
    generalize World.setRow _ _ _ = w2 at *
    have HB2 := Lib.hid (bt HB1.out HVS.out.2)
    have HR2 := Lib.hid HVS.out.1
    clear HVS HV1 HB1
    generalize w1.heap.size = g at *
    have HD := Lib.hid (shiftedDown_any g cx m8 lx w2 HR2.out HVX.out.1 (by omega) (by omega))
    refine HD.out.mono ?_
    rintro e w4 ⟨l, c, rfl, hl, v, ⟨hv, hc⟩, b4⟩
    have HV4 := Lib.hid (one_var w4 HZ.out)
    have HVS := Lib.hid (var_set w4 (c := c) HZ.out hl)
    have hvv : W.lV l = od := by rw [hv, HVX.out.2]; exact HO.out.1
    have HL := Lib.hid hl
    have HVV := Lib.hid (And.intro v hvv)
    have HB4 := Lib.hid (bt HB2.out b4)
    clear hl v hv hvv b4 HD HB2 HR2
    go_wp2_with (refine store_at rfl (.tmp 8) (.tmp 33) rfl w4.heap.size Z81 l 0 c rfl rfl HV4.out.1 HL.out ?_)
    generalize World.setRow _ _ _ = w5 at *
    have HB5 := Lib.hid (bt HB4.out HVS.out.2)
    have HG := Lib.hid (great_any _ _ _ _ HVS.out.1 HVV.out.1 (by omega))
    rw [HVV.out.2, great_gS HO.out.2] at HG
    clear HVS HV4 HB4
    refine HG.out.mono ?_
    rintro e w6 ⟨rfl, b6⟩
    have bb := bt HB5.out b6
    clear HG HB5 b6
    go_wp2
    go_ret2
    exact ⟨rfl, bb⟩
end Go.Proofs.YtdajgcgliidjbaaGreat
namespace Go.Proofs.YtdajgcgliidjbaaGreat
open Go.RowKit
theorem symG_num {k : Nat} {p : ByteArray} (hp : primeB p = true) (hk : k < gV p) : symG (gS k) p = symN k (gV p) := by
 unfold symG
 rw [hp, rest_gS (modB_prime hp) hk, gV_gS]
 rfl
theorem ret_str {a b : ByteArray} (h : a = b) : Ending.returned (.string a) = .returned (.string b) := congrArg (fun x => Ending.returned (.string x)) h
theorem noSquare_i (p : ByteArray) (w : World) : Calls Tryz.prog 159 #[.string p] w fun e w' => e = .returned (.string (nosqG p)) ∧ Below w.heap.size w w' := by
 have HP := Lib.hid (primeOk_s p)
 unfold nosqG
 cases hp : primeB p with
 | false =>
  rw [hp] at HP
  rw [if_neg (by decide)]
  go_enter Tryz.func159, Tryz.ntmps159
  go_wp2_with fail
  refine (HP.out _).mono ?_
  rintro e w1 ⟨rfl, rfl⟩
  go_wp2
  go_ret
  exact ⟨rfl, Below.refl _ _⟩
 | true =>
  rw [hp] at HP
  rw [if_pos rfl]
  obtain ⟨okp, pp⟩ := primeB_p hp
  obtain ⟨n1, n2, n3, n4⟩ := nosqN_spec pp
  have hlt := nosqN_lt pp
  have HS : Hid (∀ k w, k < gV p → Calls Tryz.prog 123 #[.string (gS k), .string p] w (SymPost (symN k (gV p)) w)) := fun k w hk => by
   rw [← symG_num hp hk]; exact symbolOf_i (gS k) p w
  have HO : Hid (∀ (k : Nat) w, k < 62 → Calls Tryz.prog 186 #[.int .i64 (k : Int)] w fun e w' => e = .returned (.string (gS k)) ∧ Below w.heap.size w w') := fun k w hk => by
   have hof : ofI (k : Int) = gS k := by unfold ofI; rw [Int.toNat_natCast]
   rw [← hof]; exact greatOf_i (k : Int) w (by omega)
  generalize gV p = n at *
  obtain ⟨M, hM⟩ : ∃ M, nosqN n = M := ⟨_, rfl⟩
  rw [hM] at n1 n2 n3 n4 hlt ⊢
  have HN := Lib.hid (And.intro n3 n4)
  clear hp okp pp hM n3 n4
  go_enter Tryz.func159, Tryz.ntmps159
  go_wp2_with fail
  refine (HP.out _).mono ?_
  rintro e w1 ⟨rfl, rfl⟩
  clear HP
  go_wp2
  go_loopw [3] (fun kv wr => ∃ (k : Nat), 2 ≤ k ∧ k ≤ M ∧ kv = .int .i64 (k : Int) ∧ Hid (Below w.heap.size w wr)) (fun kv _ => 100 - (intOf kv).toNat)
  case atStart => exact ⟨2, by omega, n1, rfl, Below.refl _ _⟩
  case round =>
   obtain ⟨k, k2, kM, rfl, hB⟩ := hrel
   have O1 := Lib.hid (fun w => HO.out k w (by omega))
   have S1 := Lib.hid (fun w => HS.out k w (by omega))
   unfold SymPost at S1
   have HK : Hid ((k = M ∧ (symN k n == -1) = true ∧ (symN k n != -1) = false) ∨ k ≠ M ∧ (symN k n == -1) = false ∧ (symN k n != -1) = true) := by
    by_cases hkM : k = M
    ·exact .inl ⟨hkM, by rw [hkM, HN.out.1]; rfl, by rw [hkM, HN.out.1]; rfl⟩
    ·have := HN.out.2 k k2 (by omega)
     exact .inr ⟨hkM, by simpa using this, by simpa using this⟩
   obtain ⟨T, hT⟩ : ∃ T, gS k = T := ⟨_, rfl⟩
   rw [hT] at O1 S1
   have HT := Lib.hid hT
   clear hT
   generalize symN k n = sv at *
   go_wp2_with fail
   refine (O1.out _).mono ?_
   rintro e w2 ⟨rfl, b2⟩
   go_wp2_with fail
   refine (S1.out _).mono ?_
   rintro e w3 ⟨rfl, b3⟩
   have HB3 := Lib.hid (bt (bt hB.out b2) b3)
   clear b2 b3 hB S1
   rcases HK.out with ⟨hkM, q1, q2⟩ | ⟨hkM, q1, q2⟩
   ·subst hkM
    clear HK HN HS HO
    go_wp2_with fail
    refine (O1.out _).mono ?_
    rintro e w4 ⟨rfl, b4⟩
    have bb := bt HB3.out b4
    clear b4 HB3 O1
    go_wp2
    go_ret
    exact ⟨ret_str HT.out.symm, bb⟩
   ·clear HK O1 HT
    go_wp2
    go_roundw
    case rel => exact ⟨k + 1, by omega, by omega, by go_num, HB3⟩
    case measure => simp [intOf]; omega
end Go.Proofs.YtdajgcgliidjbaaGreat

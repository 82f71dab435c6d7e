/-
  The contracts of spec.ShiftOf, ShiftIn, ShiftOut, ShiftMul, LowInverse.
-/
import Derived.Test.YtdbjjnbmbeabeaaSSpec
namespace Go.Proofs.Ytdbjjnbmbeabeaa
open Go.RowKit

theorem shiftOf_any (p : ByteArray) (w : World) : Calls Try.prog 11 #[.string p] w fun e w' => e = .returned (.string (shiftG p)) ∧ Below w.heap.size w w' := by
  have HO := odd_any p
  unfold shiftG
  cases ho : oddB p with
  | false =>
    rw [ho] at HO
    rw [if_neg (by decide)]
    go_enter Try.func11, Try.ntmps11
    go_wp2_with fail
    refine (HO _).mono ?_
    rintro e w1 ⟨rfl, rfl⟩
    go_wp2
    go_ret
    exact ⟨rfl, Below.refl _ _⟩
  | true =>
    rw [ho] at HO
    rw [if_pos rfl]
    have HS := Lib.hid (fun w => shift_x p w ho)
    have hlt : shN p < SM := sm_one (Nat.lt_trans (sh_lt ho) (gV_lt (modB_parts (oddB_parts ho).1).1))
    generalize shN p = n at *
    clear ho
    go_enter Try.func11, Try.ntmps11
    go_wp2_with fail
    refine (HO _).mono ?_
    rintro e w1 ⟨rfl, rfl⟩
    go_wp2_with fail
    refine (HS.out _).mono ?_
    rintro e w2 ⟨s, rfl, hs, b2⟩
    obtain ⟨as', ns, cs, rfl⟩ := hs.shape
    have O1 := Lib.hid (out_x hs hlt)
    clear hs HS HO
    go_wp2_with fail
    refine O1.out.mono ?_
    rintro e w3 ⟨rfl, b3⟩
    have b4 := bt b2 b3
    clear O1 b2 b3
    go_wp2
    go_ret
    exact ⟨rfl, b4⟩
set_option maxRecDepth 8000 in
set_option maxHeartbeats 2000000 in
theorem shiftIn_any (a p : ByteArray) (w : World) : Calls Try.prog 13 #[.string a, .string p] w fun e w' => e = .returned (.string (shInR a p)) ∧ Below w.heap.size w w' := by
  have HO := odd_any p
  have HR := restOk_any a p
  unfold shInR
  cases ho : oddB p with
  | false =>
    rw [ho] at HO
    rw [Bool.false_and, if_neg (by decide)]
    go_enter Try.func13, Try.ntmps13
    go_wp2_with fail
    refine (HO _).mono ?_
    rintro e w1 ⟨rfl, rfl⟩
    go_wp2
    go_ret
    exact ⟨rfl, Below.refl _ _⟩
  | true =>
    rw [ho] at HO
    rw [Bool.true_and]
    cases hr : restB a p with
    | false =>
      rw [hr] at HR
      rw [if_neg (by decide)]
      go_enter Try.func13, Try.ntmps13
      go_wp2_with fail
      refine (HO _).mono ?_
      rintro e w1 ⟨rfl, rfl⟩
      go_wp2_with fail
      refine (HR _).mono ?_
      rintro e w1 ⟨rfl, b1⟩
      go_wp2
      go_ret
      exact ⟨rfl, b1⟩
    | true =>
      rw [hr] at HR
      rw [if_pos rfl]
      have HS := Lib.hid (fun w => shift_x p w ho)
      have hsl := sh_lt ho
      obtain ⟨oka, okp, hap⟩ := restB_parts hr
      have sa := okG_size oka
      have sp := okG_size okp
      have hpG := gV_lt okp
      have IA := Lib.hid (fun w => in_x a w (by omega))
      have IP := Lib.hid (fun w => in_x p w (by omega))
      generalize shN p = k at *
      obtain ⟨x, hx⟩ : ∃ x, gV a = x := ⟨_, rfl⟩
      obtain ⟨n, hn⟩ : ∃ n, gV p = n := ⟨_, rfl⟩
      rw [hx] at IA hap ⊢
      rw [hn] at IP hap hpG hsl ⊢
      clear ho hr oka okp hx hn
      go_enter Try.func13, Try.ntmps13
      go_wp2_with fail
      refine (HO _).mono ?_
      rintro e w1 ⟨rfl, rfl⟩
      go_wp2_with fail
      refine (HR _).mono ?_
      rintro e w1 ⟨rfl, b1⟩
      clear HO HR
      go_wp2_with fail
      refine (IA.out _).mono ?_
      rintro e w2 ⟨u, rfl, hu, b2⟩
      obtain ⟨au, nu, cu, rfl⟩ := hu.shape
      have HU := Lib.hid hu
      clear hu IA
      go_wp2_with fail
      refine (HS.out _).mono ?_
      rintro e w3 ⟨v, rfl, hv, b3⟩
      obtain ⟨av, nv, cv, rfl⟩ := hv.shape
      have HV := Lib.hid hv
      have HU3 := Lib.hid (HU.out.below b3)
      clear hv HS HU
      go_wp2_with fail
      refine (IP.out _).mono ?_
      rintro e w4 ⟨q, rfl, hq, b4⟩
      obtain ⟨aq, nq, cq, rfl⟩ := hq.shape
      have L1 := Lib.hid (lmul_x (HU3.out.below b4) (HV.out.below b4) hq (by omega) (by omega) (by omega))
      have B4 := Lib.hid (bt (bt (bt b1 b2) b3) b4)
      clear hq IP HU3 HV b1 b2 b3 b4
      go_wp2_with fail
      refine L1.out.mono ?_
      rintro e w5 ⟨s, rfl, hs, b5⟩
      obtain ⟨as', ns, cs, rfl⟩ := hs.shape
      have O1 := Lib.hid (out_x hs (sm_one (Nat.lt_trans (Nat.mod_lt _ (by omega)) hpG)))
      have B5 := Lib.hid (bt B4.out b5)
      clear hs b5 L1 B4
      go_wp2_with fail
      refine O1.out.mono ?_
      rintro e w6 ⟨rfl, b6⟩
      have b7 := bt B5.out b6
      clear O1 b6 B5
      go_wp2
      go_ret
      exact ⟨rfl, b7⟩
set_option maxRecDepth 8000 in
set_option maxHeartbeats 2000000 in
theorem shiftOut_any (a p : ByteArray) (w : World) : Calls Try.prog 15 #[.string a, .string p] w fun e w' => e = .returned (.string (shOutR a p)) ∧ Below w.heap.size w w' := by
  have HO := odd_any p
  have HR := restOk_any a p
  unfold shOutR
  cases ho : oddB p with
  | false =>
    rw [ho] at HO
    rw [Bool.false_and, if_neg (by decide)]
    go_enter Try.func15, Try.ntmps15
    go_wp2_with fail
    refine (HO _).mono ?_
    rintro e w1 ⟨rfl, rfl⟩
    go_wp2
    go_ret
    exact ⟨rfl, Below.refl _ _⟩
  | true =>
    rw [ho] at HO
    rw [Bool.true_and]
    cases hr : restB a p with
    | false =>
      rw [hr] at HR
      rw [if_neg (by decide)]
      go_enter Try.func15, Try.ntmps15
      go_wp2_with fail
      refine (HO _).mono ?_
      rintro e w1 ⟨rfl, rfl⟩
      go_wp2_with fail
      refine (HR _).mono ?_
      rintro e w1 ⟨rfl, b1⟩
      go_wp2
      go_ret
      exact ⟨rfl, b1⟩
    | true =>
      rw [hr] at HR
      rw [if_pos rfl]
      have HS := Lib.hid (fun w => shift_x p w ho)
      have hsl := sh_lt ho
      have hg := sh_cop ho
      have h1 := (modB_parts (oddB_parts ho).1).2
      obtain ⟨oka, okp, hap⟩ := restB_parts hr
      have sa := okG_size oka
      have sp := okG_size okp
      have hpG := gV_lt okp
      have IA := Lib.hid (fun w => in_x a w (by omega))
      have IP := Lib.hid (fun w => in_x p w (by omega))
      unfold shOutN
      generalize shN p = k at *
      obtain ⟨x, hx⟩ : ∃ x, gV a = x := ⟨_, rfl⟩
      obtain ⟨n, hn⟩ : ∃ n, gV p = n := ⟨_, rfl⟩
      rw [hx] at IA hap ⊢
      rw [hn] at IP hap hpG hsl h1 hg ⊢
      have HG := Lib.hid hg
      clear ho hr oka okp hx hn hg
      go_enter Try.func15, Try.ntmps15
      go_wp2_with fail
      refine (HO _).mono ?_
      rintro e w1 ⟨rfl, rfl⟩
      go_wp2_with fail
      refine (HR _).mono ?_
      rintro e w1 ⟨rfl, b1⟩
      clear HO HR
      go_wp2_with fail
      refine (HS.out _).mono ?_
      rintro e w2 ⟨u, rfl, hu, b2⟩
      obtain ⟨au, nu, cu, rfl⟩ := hu.shape
      have HU := Lib.hid hu
      clear hu HS
      go_wp2_with fail
      refine (IP.out _).mono ?_
      rintro e w3 ⟨v, rfl, hv, b3⟩
      obtain ⟨av, nv, cv, rfl⟩ := hv.shape
      have V1 := Lib.hid (linv_x (HU.out.below b3) hv hsl hpG h1)
      have B3 := Lib.hid (bt (bt b1 b2) b3)
      clear hv HU b1 b2 b3
      go_wp2_with fail
      refine V1.out.mono ?_
      rintro e w4 ⟨y, z, rfl, hy, hzn, hza, b4⟩
      obtain ⟨ay, ny, cy, rfl⟩ := hy.shape
      rw [HG.out, Nat.mod_eq_of_lt h1] at hza
      have hinv := invN_eq hzn hza
      have HY := Lib.hid hy
      have B4 := Lib.hid (bt B3.out b4)
      have HI : Hid (x * z % n = x * invN k n % n) := by show _ = _; rw [hinv]
      clear hy hza V1 B3 b4 hinv
      go_wp2_with fail
      refine (IA.out _).mono ?_
      rintro e w5 ⟨u2, rfl, hu2, b5⟩
      obtain ⟨au2, nu2, cu2, rfl⟩ := hu2.shape
      have HU2 := Lib.hid hu2
      have HY5 := Lib.hid (HY.out.below b5)
      clear hu2 IA HY
      go_wp2_with fail
      refine (IP.out _).mono ?_
      rintro e w6 ⟨q, rfl, hq, b6⟩
      obtain ⟨aq, nq, cq, rfl⟩ := hq.shape
      have L1 := Lib.hid (lmul_x (HU2.out.below b6) (HY5.out.below b6) hq (by omega) (by omega) (by omega))
      have B6 := Lib.hid (bt (bt B4.out b5) b6)
      clear hq IP HU2 HY5 B4 b5 b6
      go_wp2_with fail
      refine L1.out.mono ?_
      rintro e w7 ⟨s, rfl, hs, b7⟩
      obtain ⟨as', ns, cs, rfl⟩ := hs.shape
      have O1 := Lib.hid (out_x hs (sm_one (Nat.lt_trans (Nat.mod_lt _ (by omega)) hpG)))
      have B7 := Lib.hid (bt B6.out b7)
      clear hs b7 L1 B6
      go_wp2_with fail
      refine O1.out.mono ?_
      rintro e w8 ⟨rfl, b8⟩
      have b9 := bt B7.out b8
      clear O1 b8 B7
      go_wp2
      go_ret
      exact ⟨congrArg (fun t => Ending.returned (Value.string (gS t))) HI.out, b9⟩
theorem shMul_eq {a b p : ByteArray} (ho : oddB p = true) (ht : twoB a b p = true) : shOutR (mulR a b p) p = gS (shOutN (gV a * gV b % gV p) p) := by
  have hm := (oddB_parts ho).1
  have h1 := (modB_parts hm).2
  have e : mulR a b p = gS (gV a * gV b % gV p) := by unfold mulR; rw [ht, if_pos rfl]
  unfold shOutR
  rw [e, ho, rest_gS hm (Nat.mod_lt _ (by omega)), gV_gS]
  rfl
set_option maxRecDepth 8000 in
set_option maxHeartbeats 2000000 in
theorem shiftMul_any (a b p : ByteArray) (w : World) : Calls Try.prog 17 #[.string a, .string b, .string p] w fun e w' => e = .returned (.string (shMulR a b p)) ∧ Below w.heap.size w w' := by
  have HO := odd_any p
  have HT := two_any a b p
  unfold shMulR
  cases ho : oddB p with
  | false =>
    rw [ho] at HO
    rw [Bool.false_and, if_neg (by decide)]
    go_enter Try.func17, Try.ntmps17
    go_wp2_with fail
    refine (HO _).mono ?_
    rintro e w1 ⟨rfl, rfl⟩
    go_wp2
    go_ret
    exact ⟨rfl, Below.refl _ _⟩
  | true =>
    rw [ho] at HO
    rw [Bool.true_and]
    cases ht : twoB a b p with
    | false =>
      rw [ht] at HT
      rw [if_neg (by decide)]
      go_enter Try.func17, Try.ntmps17
      go_wp2_with fail
      refine (HO _).mono ?_
      rintro e w1 ⟨rfl, rfl⟩
      go_wp2_with fail
      refine (HT _).mono ?_
      rintro e w1 ⟨rfl, b1⟩
      go_wp2
      go_ret
      exact ⟨rfl, b1⟩
    | true =>
      rw [ht] at HT
      rw [if_pos rfl, ← shMul_eq ho ht]
      clear ho ht
      go_enter Try.func17, Try.ntmps17
      go_wp2_with fail
      refine (HO _).mono ?_
      rintro e w1 ⟨rfl, rfl⟩
      go_wp2_with fail
      refine (HT _).mono ?_
      rintro e w1 ⟨rfl, b1⟩
      clear HO HT
      go_wp2_with fail
      refine (mulRest_any a b p _).mono ?_
      rintro e w2 ⟨rfl, b2⟩
      have B2 := Lib.hid (bt b1 b2)
      clear b1 b2
      go_wp2_with fail
      refine (shiftOut_any _ p _).mono ?_
      rintro e w3 ⟨rfl, b3⟩
      have b4 := bt B2.out b3
      clear b3 B2
      go_wp2
      go_ret
      exact ⟨rfl, b4⟩
theorem bit_zero' {p : ByteArray} (ok : okG p = true) : bitG p 0 = ((gV p % 2 : Nat) : Int) := by
  by_cases h : p.size = 0
  · unfold bitG
    rw [ok, gV_empty h, h]; rfl
  · unfold bitG
    rw [ok, decide_eq_true (show (0 : Int) ≤ 0 by omega), decide_eq_true (show (0 : Int).toNat / 8 < p.size by show 0 / 8 < p.size; omega)]
    simp
/-- The doublings, one behind the other. -/
def lowIt (v : Int) : Nat → Int
  | 0 => 1
  | k + 1 => lowStep v (lowIt v k)
theorem lowIt_range (v : Int) : ∀ k, 0 ≤ lowIt v k ∧ lowIt v k < 16777216
  | 0 => by unfold lowIt; omega
  | _ + 1 => low_range _ _
theorem lowStep_mod {v : Nat} (x : Int) : lowStep ((v % 16777216 : Nat) : Int) x = lowStep v x := by
  unfold lowStep
  have : ((v % 16777216 : Nat) : Int) * x % 16777216 = (v : Int) * x % 16777216 := by
    rw [Int.natCast_emod, Int.mul_emod, Int.mul_emod (v : Int)]
    simp
  rw [this]
set_option maxRecDepth 8000 in
set_option maxHeartbeats 2000000 in
theorem lowInverse_any (p : ByteArray) (w : World) : Calls Try.prog 19 #[.string p] w fun e w' => e = .returned (.int .i64 (lowI p)) ∧ Below w.heap.size w w' := by
  have HG := greatOk_any p
  unfold lowI lowB
  cases ok : okG p with
  | false =>
    rw [ok] at HG
    rw [Bool.false_and, if_neg (by decide)]
    go_enter Try.func19, Try.ntmps19
    go_wp2_with fail
    refine (HG _).mono ?_
    rintro e w1 ⟨rfl, rfl⟩
    go_wp2
    go_ret
    exact ⟨rfl, Below.refl _ _⟩
  | true =>
    rw [ok] at HG
    rw [Bool.true_and]
    have HBt := fun w => bitOf_any p 0 w (by omega)
    rw [bit_zero' ok] at HBt
    by_cases ho : gV p % 2 = 1
    · rw [decide_eq_true ho, if_pos rfl]
      rw [ho] at HBt
      have sp := okG_size ok
      have HIn := Lib.hid (fun w => in_x p w (by omega))
      obtain ⟨V, hV⟩ : ∃ V, gV p = V := ⟨_, rfl⟩
      rw [hV] at HIn ho ⊢
      have HVo := Lib.hid ho
      have hand := andL
      clear hV ok sp ho
      go_enter Try.func19, Try.ntmps19
      go_wp2_with fail
      refine (HG _).mono ?_
      rintro e w1 ⟨rfl, rfl⟩
      go_wp2_with fail
      refine (HBt _).mono ?_
      rintro e w1 ⟨rfl, rfl⟩
      go_wp2_with fail
      refine (HIn.out _).mono ?_
      rintro e w1 ⟨u, rfl, hu, b1⟩
      obtain ⟨au, nu, cu, rfl, hz, hc, _⟩ := hu.form
      have hnu : 0 < nu := by
        rcases Nat.eq_zero_or_pos nu with e | e
        · have := hz.1 e; have := HVo.out; omega
        · exact e
      have hnu' : (0 : Int) < (nu : Int) := by omega
      obtain ⟨g, c, rfl, hcell, hcv⟩ := hc hnu
      have hc24 : c < 16777216 := by omega
      have HCV := Lib.hid hcv
      have B1 := Lib.hid b1
      clear hu hz hc hcv b1 HG HBt HIn hnu
      go_wp2
      clear hcell hnu'
      go_loop [4, 5] (fun xv iv => ∃ (i : Nat) (x : Int), i ≤ 5 ∧ iv = .int .i64 i ∧ xv = .int .i64 x ∧ 0 ≤ x ∧ x < 16777216 ∧ Hid (x = lowIt V i)) (fun _ iv => 5 - (intOf iv).toNat)
      case atStart => exact ⟨0, 1, by omega, rfl, rfl, by omega, by omega, rfl⟩
      case round =>
        obtain ⟨i, x, hi, rfl, rfl, x0, x1, hx⟩ := hrel
        by_cases hlt : i < 5
        · have hlt' : (i : Int) < 5 := by omega
          have m1 : 0 ≤ (c : Int) * x ∧ (c : Int) * x ≤ 16777215 * 16777215 := ⟨Int.mul_nonneg (by omega) x0, Int.mul_le_mul (by omega) (by omega) x0 (by omega)⟩
          obtain ⟨s, hs⟩ : ∃ s, (c : Int) * x = s := ⟨_, rfl⟩
          rw [hs] at m1
          obtain ⟨r, hr⟩ : ∃ r, s % 16777216 = r := ⟨_, rfl⟩
          have hr0 : 0 ≤ r ∧ r < 16777216 := by omega
          obtain ⟨y, hy⟩ : ∃ y, x * (2 - r) = y := ⟨_, rfl⟩
          have my : -(16777215 * 16777215) ≤ y ∧ y ≤ 2 * 16777215 := by
            rw [← hy]
            constructor
            · have := Int.mul_le_mul (a := x) (b := r - 2) (c := 16777215) (d := 16777215)
              have e : x * (2 - r) = -(x * (r - 2)) := by rw [← Int.mul_neg]; congr 1; omega
              rcases Int.le_total 2 r with h | h
              · have h2 : x * (r - 2) ≤ 16777215 * 16777215 := Int.mul_le_mul (by omega) (by omega) (by omega) (by omega)
                omega
              · have h2 : 0 ≤ x * (2 - r) := Int.mul_nonneg x0 (by omega)
                omega
            · rcases Int.le_total 2 r with h | h
              · have h2 : 0 ≤ x * (r - 2) := Int.mul_nonneg x0 (by omega)
                have e : x * (2 - r) = -(x * (r - 2)) := by rw [← Int.mul_neg]; congr 1; omega
                omega
              · have h2 : x * (2 - r) ≤ 16777215 * 2 := Int.mul_le_mul (by omega) (by omega) (by omega) (by omega)
                omega
          have HN : Hid (y % 16777216 = lowIt V (i + 1)) := by
            show _ = lowStep V (lowIt V i)
            rw [← hx.out, ← lowStep_mod, ← HCV.out]
            unfold lowStep
            rw [hs, hr, hy]
          have hy2 := Int.emod_nonneg y (show (16777216 : Int) ≠ 0 by decide)
          have hy3 := Int.emod_lt_of_pos y (show (0 : Int) < 16777216 by decide)
          clear hx
          go_wp2
          go_round
          case rel => exact ⟨i + 1, y % 16777216, by omega, by go_num, rfl, hy2, hy3, HN⟩
          case measure => simp [intOf]; omega
        · obtain rfl : i = 5 := by omega
          obtain ⟨z, rfl⟩ : ∃ z : Nat, x = (z : Int) := ⟨x.toNat, by omega⟩
          obtain ⟨z1, z2, z3, _⟩ := low_five HVo.out (x := z) hx.out
          have E : Hid (-(z : Int) % 16777216 = (lowN V : Int)) := by show _ = _; rw [z3]; omega
          clear hx z3
          go_wp2
          go_ret
          exact ⟨congrArg (fun x => Ending.returned (Value.int .i64 x)) E.out, B1.out⟩
    · rw [decide_eq_false ho, if_neg (by decide)]
      rw [show gV p % 2 = 0 from by omega] at HBt
      clear ho ok
      go_enter Try.func19, Try.ntmps19
      go_wp2_with fail
      refine (HG _).mono ?_
      rintro e w1 ⟨rfl, rfl⟩
      go_wp2_with fail
      refine (HBt _).mono ?_
      rintro e w1 ⟨rfl, rfl⟩
      go_wp2
      go_ret
      exact ⟨rfl, Below.refl _ _⟩
end Go.Proofs.Ytdbjjnbmbeabeaa

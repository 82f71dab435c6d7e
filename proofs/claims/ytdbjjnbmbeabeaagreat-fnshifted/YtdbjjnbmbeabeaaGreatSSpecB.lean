/-
  The contracts of spec.ShiftOf, ShiftIn, ShiftOut, ShiftMul, LowInverse.
-/
import Derived.Test.YtdbjjnbmbeabeaaGreatSSpec
namespace Go.Proofs.YtdbjjnbmbeabeaaGreat
open Go.RowKit

theorem shiftOf_any (p : ByteArray) (w : World) : Calls Tryz.prog 8 #[.string p] w fun e w' => e = .returned (.string (shiftG p)) ∧ Below w.heap.size w w' := by
  have HO := odd_any p
  unfold shiftG
  cases ho : oddB p with
  | false =>
    rw [ho] at HO
    rw [if_neg (by decide)]
    go_enter Tryz.func8, Tryz.ntmps8
    go_wp2_with fail
    refine (HO _).mono ?_
    rintro e w1 ⟨rfl, rfl⟩
    go_wp2
    go_ret
    exact ⟨rfl, Below.refl _ _⟩
  | true =>
    rw [ho] at HO
    rw [if_pos rfl]
    have HS := Lib.hid (fun w => shift_x p w ho)
    have hlt : shN p < SM := sm_one (Nat.lt_trans (sh_lt ho) (gV_lt (modB_parts (oddB_parts ho).1).1))
    generalize shN p = n at *
    clear ho
    go_enter Tryz.func8, Tryz.ntmps8
    go_wp2_with fail
    refine (HO _).mono ?_
    rintro e w1 ⟨rfl, rfl⟩
    go_wp2_with fail
    refine (HS.out _).mono ?_
    rintro e w2 ⟨s, rfl, hs, b2⟩
    obtain ⟨as', ns, cs, rfl⟩ := hs.shape
    have O1 := Lib.hid (out_x hs hlt)
    clear hs HS HO
    go_wp2_with fail
    refine O1.out.mono ?_
    rintro e w3 ⟨rfl, b3⟩
    have b4 := bt b2 b3
    clear O1 b2 b3
    go_wp2
    go_ret
    exact ⟨rfl, b4⟩
set_option maxRecDepth 8000 in
set_option maxHeartbeats 2000000 in
theorem shiftOut_any (a p : ByteArray) (w : World) : Calls Tryz.prog 33 #[.string a, .string p] w fun e w' => e = .returned (.string (shOutR a p)) ∧ Below w.heap.size w w' := by
  have HO := odd_any p
  have HR := restOk_any a p
  unfold shOutR
  cases ho : oddB p with
  | false =>
    rw [ho] at HO
    rw [Bool.false_and, if_neg (by decide)]
    go_enter Tryz.func33, Tryz.ntmps33
    go_wp2_with fail
    refine (HO _).mono ?_
    rintro e w1 ⟨rfl, rfl⟩
    go_wp2
    go_ret
    exact ⟨rfl, Below.refl _ _⟩
  | true =>
    rw [ho] at HO
    rw [Bool.true_and]
    cases hr : restB a p with
    | false =>
      rw [hr] at HR
      rw [if_neg (by decide)]
      go_enter Tryz.func33, Tryz.ntmps33
      go_wp2_with fail
      refine (HO _).mono ?_
      rintro e w1 ⟨rfl, rfl⟩
      go_wp2_with fail
      refine (HR _).mono ?_
      rintro e w1 ⟨rfl, b1⟩
      go_wp2
      go_ret
      exact ⟨rfl, b1⟩
    | true =>
      rw [hr] at HR
      rw [if_pos rfl]
      have HS := Lib.hid (fun w => shift_x p w ho)
      have hsl := sh_lt ho
      have hg := sh_cop ho
      have h1 := (modB_parts (oddB_parts ho).1).2
      obtain ⟨oka, okp, hap⟩ := restB_parts hr
      have sa := okG_size oka
      have sp := okG_size okp
      have hpG := gV_lt okp
      have IA := Lib.hid (fun w => in_x a w (by omega))
      have IP := Lib.hid (fun w => in_x p w (by omega))
      unfold shOutN
      generalize shN p = k at *
      obtain ⟨x, hx⟩ : ∃ x, gV a = x := ⟨_, rfl⟩
      obtain ⟨n, hn⟩ : ∃ n, gV p = n := ⟨_, rfl⟩
      rw [hx] at IA hap ⊢
      rw [hn] at IP hap hpG hsl h1 hg ⊢
      have HG := Lib.hid hg
      clear ho hr oka okp hx hn hg
      go_enter Tryz.func33, Tryz.ntmps33
      go_wp2_with fail
      refine (HO _).mono ?_
      rintro e w1 ⟨rfl, rfl⟩
      go_wp2_with fail
      refine (HR _).mono ?_
      rintro e w1 ⟨rfl, b1⟩
      clear HO HR
      go_wp2_with fail
      refine (HS.out _).mono ?_
      rintro e w2 ⟨u, rfl, hu, b2⟩
      obtain ⟨au, nu, cu, rfl⟩ := hu.shape
      have HU := Lib.hid hu
      clear hu HS
      go_wp2_with fail
      refine (IP.out _).mono ?_
      rintro e w3 ⟨v, rfl, hv, b3⟩
      obtain ⟨av, nv, cv, rfl⟩ := hv.shape
      have V1 := Lib.hid (linv_x (HU.out.below b3) hv hsl hpG h1)
      have B3 := Lib.hid (bt (bt b1 b2) b3)
      clear hv HU b1 b2 b3
      go_wp2_with fail
      refine V1.out.mono ?_
      rintro e w4 ⟨y, z, rfl, hy, hzn, hza, b4⟩
      obtain ⟨ay, ny, cy, rfl⟩ := hy.shape
      rw [HG.out, Nat.mod_eq_of_lt h1] at hza
      have hinv := invN_eq hzn hza
      have HY := Lib.hid hy
      have B4 := Lib.hid (bt B3.out b4)
      have HI : Hid (x * z % n = x * invN k n % n) := by show _ = _; rw [hinv]
      clear hy hza V1 B3 b4 hinv
      go_wp2_with fail
      refine (IA.out _).mono ?_
      rintro e w5 ⟨u2, rfl, hu2, b5⟩
      obtain ⟨au2, nu2, cu2, rfl⟩ := hu2.shape
      have HU2 := Lib.hid hu2
      have HY5 := Lib.hid (HY.out.below b5)
      clear hu2 IA HY
      go_wp2_with fail
      refine (IP.out _).mono ?_
      rintro e w6 ⟨q, rfl, hq, b6⟩
      obtain ⟨aq, nq, cq, rfl⟩ := hq.shape
      have L1 := Lib.hid (lmul_x (HU2.out.below b6) (HY5.out.below b6) hq (by omega) (by omega) (by omega))
      have B6 := Lib.hid (bt (bt B4.out b5) b6)
      clear hq IP HU2 HY5 B4 b5 b6
      go_wp2_with fail
      refine L1.out.mono ?_
      rintro e w7 ⟨s, rfl, hs, b7⟩
      obtain ⟨as', ns, cs, rfl⟩ := hs.shape
      have O1 := Lib.hid (out_x hs (sm_one (Nat.lt_trans (Nat.mod_lt _ (by omega)) hpG)))
      have B7 := Lib.hid (bt B6.out b7)
      clear hs b7 L1 B6
      go_wp2_with fail
      refine O1.out.mono ?_
      rintro e w8 ⟨rfl, b8⟩
      have b9 := bt B7.out b8
      clear O1 b8 B7
      go_wp2
      go_ret
      exact ⟨congrArg (fun t => Ending.returned (Value.string (gS t))) HI.out, b9⟩
theorem shMul_eq {a b p : ByteArray} (ho : oddB p = true) (ht : twoB a b p = true) : shOutR (mulR a b p) p = gS (shOutN (gV a * gV b % gV p) p) := by
  have hm := (oddB_parts ho).1
  have h1 := (modB_parts hm).2
  have e : mulR a b p = gS (gV a * gV b % gV p) := by unfold mulR; rw [ht, if_pos rfl]
  unfold shOutR
  rw [e, ho, rest_gS hm (Nat.mod_lt _ (by omega)), gV_gS]
  rfl
set_option maxRecDepth 8000 in
set_option maxHeartbeats 2000000 in
theorem shiftMul_any (a b p : ByteArray) (w : World) : Calls Tryz.prog 10 #[.string a, .string b, .string p] w fun e w' => e = .returned (.string (shMulR a b p)) ∧ Below w.heap.size w w' := by
  have HO := odd_any p
  have HT := two_any a b p
  unfold shMulR
  cases ho : oddB p with
  | false =>
    rw [ho] at HO
    rw [Bool.false_and, if_neg (by decide)]
    go_enter Tryz.func10, Tryz.ntmps10
    go_wp2_with fail
    refine (HO _).mono ?_
    rintro e w1 ⟨rfl, rfl⟩
    go_wp2
    go_ret
    exact ⟨rfl, Below.refl _ _⟩
  | true =>
    rw [ho] at HO
    rw [Bool.true_and]
    cases ht : twoB a b p with
    | false =>
      rw [ht] at HT
      rw [if_neg (by decide)]
      go_enter Tryz.func10, Tryz.ntmps10
      go_wp2_with fail
      refine (HO _).mono ?_
      rintro e w1 ⟨rfl, rfl⟩
      go_wp2_with fail
      refine (HT _).mono ?_
      rintro e w1 ⟨rfl, b1⟩
      go_wp2
      go_ret
      exact ⟨rfl, b1⟩
    | true =>
      rw [ht] at HT
      rw [if_pos rfl, ← shMul_eq ho ht]
      clear ho ht
      go_enter Tryz.func10, Tryz.ntmps10
      go_wp2_with fail
      refine (HO _).mono ?_
      rintro e w1 ⟨rfl, rfl⟩
      go_wp2_with fail
      refine (HT _).mono ?_
      rintro e w1 ⟨rfl, b1⟩
      clear HO HT
      go_wp2_with fail
      refine (mulRest_any a b p _).mono ?_
      rintro e w2 ⟨rfl, b2⟩
      have B2 := Lib.hid (bt b1 b2)
      clear b1 b2
      go_wp2_with fail
      refine (shiftOut_any _ p _).mono ?_
      rintro e w3 ⟨rfl, b3⟩
      have b4 := bt B2.out b3
      clear b3 B2
      go_wp2
      go_ret
      exact ⟨rfl, b4⟩
theorem bit_zero' {p : ByteArray} (ok : okG p = true) : bitG p 0 = ((gV p % 2 : Nat) : Int) := by
  by_cases h : p.size = 0
  · unfold bitG
    rw [ok, gV_empty h, h]; rfl
  · unfold bitG
    rw [ok, decide_eq_true (show (0 : Int) ≤ 0 by omega), decide_eq_true (show (0 : Int).toNat / 8 < p.size by show 0 / 8 < p.size; omega)]
    simp
/-- The doublings, one behind the other. -/
def lowIt (v : Int) : Nat → Int
  | 0 => 1
  | k + 1 => lowStep v (lowIt v k)
theorem lowIt_range (v : Int) : ∀ k, 0 ≤ lowIt v k ∧ lowIt v k < 16777216
  | 0 => by unfold lowIt; omega
  | _ + 1 => low_range _ _
theorem lowStep_mod {v : Nat} (x : Int) : lowStep ((v % 16777216 : Nat) : Int) x = lowStep v x := by
  unfold lowStep
  have : ((v % 16777216 : Nat) : Int) * x % 16777216 = (v : Int) * x % 16777216 := by
    rw [Int.natCast_emod, Int.mul_emod, Int.mul_emod (v : Int)]
    simp
  rw [this]
end Go.Proofs.YtdbjjnbmbeabeaaGreat

import Derived.Test.YtdajgcgliidjbaaGreatJWork
import Derived.Test.YtdajgcgliidjbaaGreatILow
set_option maxRecDepth 8000
set_option maxHeartbeats 4000000
namespace Go.Proofs.YtdajgcgliidjbaaGreat
open Go.RowKit
theorem works_sum : Works (workF 0) (fun x y n => (x + y) % n) := fun lx ly lp cx cy cp w hx hy hp vx vy vp hxp hyp hG _ => sumOfRests_any lx ly lp cx cy cp w hx hy hp vx vy vp hxp hyp hG
theorem works_difference : Works (workF 1) (fun x y n => (x + n - y) % n) := fun lx ly lp cx cy cp w hx hy hp vx vy vp hxp hyp hG _ => differenceOfRests_any lx ly lp cx cy cp w hx hy hp vx vy vp hxp hyp hG
theorem works_product : Works (workF 2) (fun x y n => x * y % n) := fun lx ly lp cx cy cp w hx hy hp vx vy vp hxp hyp hG h1 => productOfRests_any lx ly lp cx cy cp w hx hy hp vx vy vp (Nat.lt_trans hxp hG) (Nat.lt_trans hyp hG) (by omega) hG
theorem addRest_i (a b p : ByteArray) (w : World) : Calls Tryz.prog 120 #[.string a, .string b, .string p] w fun e w' => e = .returned (.string (addR a b p)) ∧ Below w.heap.size w w' := by
 have H := Lib.hid (workedOut_any 0 (by decide) _ works_sum (fun x y n h _ => Nat.mod_lt _ (by omega)) a b p)
 have E : addR a b p = if twoB a b p then gS ((gV a + gV b) % gV p) else ⟨#[]⟩ := rfl
 rw [E]
 generalize (if twoB a b p then gS ((gV a + gV b) % gV p) else ⟨#[]⟩) = v at *
 clear E
 go_enter Tryz.func120, Tryz.ntmps120
 go_wp2_with fail
 refine (H.out _).mono ?_
 rintro e w1 ⟨rfl, b1⟩
 go_wp2
 go_ret
 exact ⟨rfl, b1⟩
theorem subRest_i (a b p : ByteArray) (w : World) : Calls Tryz.prog 121 #[.string a, .string b, .string p] w fun e w' => e = .returned (.string (subR a b p)) ∧ Below w.heap.size w w' := by
 have H := Lib.hid (workedOut_any 1 (by decide) _ works_difference (fun x y n h _ => Nat.mod_lt _ (by omega)) a b p)
 have E : subR a b p = if twoB a b p then gS ((gV a + gV p - gV b) % gV p) else ⟨#[]⟩ := rfl
 rw [E]
 generalize (if twoB a b p then gS ((gV a + gV p - gV b) % gV p) else ⟨#[]⟩) = v at *
 clear E
 go_enter Tryz.func121, Tryz.ntmps121
 go_wp2_with fail
 refine (H.out _).mono ?_
 rintro e w1 ⟨rfl, b1⟩
 go_wp2
 go_ret
 exact ⟨rfl, b1⟩
theorem mulRest_i (a b p : ByteArray) (w : World) : Calls Tryz.prog 126 #[.string a, .string b, .string p] w fun e w' => e = .returned (.string (mulR a b p)) ∧ Below w.heap.size w w' := by
 have H := Lib.hid (workedOut_any 2 (by decide) _ works_product (fun x y n h _ => Nat.mod_lt _ (by omega)) a b p)
 have E : mulR a b p = if twoB a b p then gS (gV a * gV b % gV p) else ⟨#[]⟩ := rfl
 rw [E]
 generalize (if twoB a b p then gS (gV a * gV b % gV p) else ⟨#[]⟩) = v at *
 clear E
 go_enter Tryz.func126, Tryz.ntmps126
 go_wp2_with fail
 refine (H.out _).mono ?_
 rintro e w1 ⟨rfl, b1⟩
 go_wp2
 go_ret
 exact ⟨rfl, b1⟩
theorem negRest_i (a p : ByteArray) (w : World) : Calls Tryz.prog 117 #[.string a, .string p] w fun e w' => e = .returned (.string (negR a p)) ∧ Below w.heap.size w w' := by
 have H := Lib.hid (subRest_i ⟨#[]⟩ a p)
 unfold negR
 generalize subR ⟨#[]⟩ a p = v at *
 go_enter Tryz.func117, Tryz.ntmps117
 go_wp2_with fail
 refine (H.out _).mono ?_
 rintro e w1 ⟨rfl, b1⟩
 go_wp2
 go_ret
 exact ⟨rfl, b1⟩
theorem pow_last {x n N L : Nat} (h : N < 2 ^ L) (h1 : 1 < n) : 1 = x ^ (N / 2 ^ L) % n := by
 rw [Nat.div_eq_of_lt h, Nat.pow_zero, Nat.mod_eq_of_lt h1]
theorem Row3.put {w : World} {g : Nat} {lx ly lp l : List Nat} {cx cy cp c : Nat} (h : Row3 w g lx cx ly cy lp cp) (hl : l.length = 81) : Row3 (w.setRow (g + 2) (rowC l c)) g lx cx ly cy l c :=
 ⟨h.x.storedApart (by omega), h.y.storedApart (by omega), h.p.stored hl⟩
structure PowSt (w wr : World) (g : Nat) (lx : List Nat) (cx : Nat) (lp : List Nat) (cp : Nat) (V : Nat) : Prop where
 ex : ∃ l c, Row3 wr g lx cx lp cp l c ∧ RV l c ∧ W.lV l = V
 b : Below w.heap.size w wr
 ge : w.heap.size ≤ g
theorem powRest_i (a m p : ByteArray) (w : World) : Calls Tryz.prog 156 #[.string a, .string m, .string p] w fun e w' => e = .returned (.string (powR a m p)) ∧ Below w.heap.size w w' := by
 have HM := leaves_s p
 have HR := restOk_s a p
 have HA := greatOk_i m
 unfold powR oneB
 cases hm : modB p with
 | false =>
  rw [hm] at HM
  rw [Bool.false_and, Bool.false_and, if_neg (by decide)]
  go_enter Tryz.func156, Tryz.ntmps156
  go_wp2_with fail
  refine (HM _).mono ?_
  rintro e w1 ⟨rfl, rfl⟩
  go_wp2
  go_ret
  exact ⟨rfl, Below.refl _ _⟩
 | true =>
  rw [hm] at HM
  rw [Bool.true_and]
  cases hr : restB a p with
  | false =>
   rw [hr] at HR
   rw [Bool.false_and, if_neg (by decide)]
   go_enter Tryz.func156, Tryz.ntmps156
   go_wp2_with fail
   refine (HM _).mono ?_
   rintro e w1 ⟨rfl, rfl⟩
   go_wp2_with fail
   refine (HR _).mono ?_
   rintro e w1 ⟨rfl, rfl⟩
   go_wp2
   go_ret
   exact ⟨rfl, Below.refl _ _⟩
  | true =>
   rw [hr] at HR
   rw [Bool.true_and]
   cases ha : okG m with
   | false =>
    rw [ha] at HA
    rw [if_neg (by decide)]
    go_enter Tryz.func156, Tryz.ntmps156
    go_wp2_with fail
    refine (HM _).mono ?_
    rintro e w1 ⟨rfl, rfl⟩
    go_wp2_with fail
    refine (HR _).mono ?_
    rintro e w1 ⟨rfl, rfl⟩
    go_wp2_with fail
    refine (HA _).mono ?_
    rintro e w2 ⟨rfl, rfl⟩
    go_wp2
    go_ret
    exact ⟨rfl, Below.refl _ _⟩
   | true =>
    rw [ha] at HA
    rw [if_pos rfl]
    obtain ⟨okp, h1⟩ := modB_parts hm
    obtain ⟨oka, _, hap⟩ := restB_parts hr
    have hpG := gV_lt okp
    have sa := okG_size' oka
    have sp := okG_size' okp
    have HBs := bitsOf_i m
    have EB : bitsG m = (bitLen (gV m) : Int) := by unfold bitsG; rw [ha]; rfl
    rw [EB] at HBs
    have hL3 := bits_1280 ha
    have HBit : Hid (∀ i : Nat, i < bitLen (gV m) → ∀ w, Calls Tryz.prog 114 #[.string m, .int .i64 (i : Int)] w fun e w' => e = .returned (.int .i64 ((gV m / 2 ^ i % 2 : Nat) : Int)) ∧ w = w') := by
     intro i hi w
     have H := bitOf_i m (i : Int) (by omega) w
     rw [bit_pow ha hi] at H
     exact H
    obtain ⟨x, hx⟩ : ∃ x, gV a = x := ⟨_, rfl⟩
    obtain ⟨n, hn⟩ : ∃ n, gV p = n := ⟨_, rfl⟩
    have HLst := Lib.hid (pow_last (x := x) (lt_bits (gV m)) (show 1 < n by rw [← hn]; exact h1))
    obtain ⟨N, hN⟩ : ∃ N, gV m = N := ⟨_, rfl⟩
    obtain ⟨L, hL⟩ : ∃ L, bitLen N = L := ⟨_, rfl⟩
    have I1 := Lib.hid (fun w => rowOf_any a w sa)
    have I2 := Lib.hid (fun w => rowOf_any p w sp)
    have I3 := Lib.hid (fun w => rowOf_any ⟨#[1]⟩ w (by decide))
    rw [show gV ⟨#[1]⟩ = 1 from rfl] at I3
    rw [hN, hL] at HBs HLst HBit hL3
    rw [hx] at hap I1
    rw [hn] at h1 hpG hap I2
    rw [hx, hn, hN]
    obtain ⟨Z, hZ⟩ : ∃ Z, rowC Z81 0 = Z := ⟨_, rfl⟩
    have hz := zero_row.1
    rw [hZ] at hz
    have HZ := Lib.hid hZ
    clear hm ha okp oka hr hx hn hN hL EB hZ sa sp
    go_enter Tryz.func156, Tryz.ntmps156
    go_wp2_with fail
    refine (HM _).mono ?_
    rintro e w1 ⟨rfl, rfl⟩
    go_wp2_with fail
    refine (HR _).mono ?_
    rintro e w1 ⟨rfl, rfl⟩
    go_wp2_with fail
    refine (HA _).mono ?_
    rintro e w2 ⟨rfl, rfl⟩
    clear HM HA HR
    go_wp2_with fail
    refine (I1.out _).mono ?_
    rintro e w1 ⟨lx, cx, rfl, hlx, vx, ex, b1⟩
    go_wp2_with fail
    refine (I2.out _).mono ?_
    rintro e w2 ⟨lp, cp, rfl, hlp, vp, ep, b2⟩
    go_wp2_with fail
    refine (I3.out _).mono ?_
    rintro e w3 ⟨l0, c0, rfl, hl0, v0, e0, b3⟩
    have HB3 := Lib.hid (bt (bt b1 b2) b3)
    have HR0 := Lib.hid (Row3.zero w3 HZ.out)
    have HR1 := Lib.hid (Row3.laid (cx := cx) (cy := cp) (cp := c0) HR0.out hlx hlp hl0)
    have HLX := Lib.hid hlx
    have HLP := Lib.hid hlp
    have HL0 := Lib.hid hl0
    have HVX := Lib.hid (And.intro vx ex)
    have HVP := Lib.hid (And.intro vp ep)
    have HV0 := Lib.hid (And.intro v0 e0)
    clear b1 b2 b3 hlx hlp hl0 vx vp v0 ex ep e0 I1 I2 I3
    go_wp2_with (first | refine store_at rfl (.tmp 7) (.tmp 26) rfl w3.heap.size Z81 lx 0 cx rfl rfl HR0.out.1.x HLX.out ?_ | refine store_at rfl (.tmp 8) (.tmp 28) rfl (w3.heap.size + 1) Z81 lp 0 cp rfl rfl (HR0.out.1.y.storedApart (by omega)) HLP.out ?_ | refine store_at rfl (.tmp 9) (.tmp 29) rfl (w3.heap.size + 2) Z81 l0 0 c0 rfl rfl ((HR0.out.1.p.storedApart (by omega)).storedApart (by omega)) HL0.out ?_)
    generalize (World.setRow (World.setRow (World.setRow _ _ _) _ _) _ _) = w4 at *
    have HP4 : Hid (PowSt w w4 w3.heap.size lx cx lp cp (x ^ (N / 2 ^ L) % n)) := ⟨⟨l0, c0, HR1.out.1, HV0.out.1, by rw [HV0.out.2]; exact HLst.out⟩, bt HB3.out HR1.out.2, HB3.out.size⟩
    clear HB3 HR1 HR0 HL0 HLst HV0
    generalize w3.heap.size = g at *
    refine (HBs _).mono ?_
    rintro e w5 ⟨rfl, rfl⟩
    clear HBs
    go_wp2
    clear hz HZ
    go_loopw [10] (fun iv wr => ∃ (k : Nat), k ≤ L ∧ iv = .int .i64 ((k : Int) - 1) ∧ Hid (PowSt w wr g lx cx lp cp (x ^ (N / 2 ^ k) % n))) (fun iv _ => (intOf iv + 1).toNat)
    case atStart => exact ⟨L, Nat.le_refl _, rfl, HP4⟩
    case round =>
     clear HP4
     obtain ⟨k, hk, rfl, hP⟩ := hrel
     obtain ⟨⟨l, c, hR3, hv, hV⟩, hB, hge⟩ := hP.out
     have hVG : W.lV l < GB := by rw [hV]; exact Nat.lt_trans (Nat.mod_lt _ (by omega)) hpG
     by_cases h0 : 0 < k
     ·obtain ⟨j, rfl⟩ : ∃ j, k = j + 1 := ⟨k - 1, by omega⟩
      have hji : (((j + 1 : Nat) : Int) - 1) = (j : Int) := by omega
      rw [hji]
      have hj0 : (0 : Int) ≤ (j : Int) := by omega
      obtain ⟨s1, s2⟩ := pow_step (x := x) (n := n) j N hV rfl
      have HS1 := Lib.hid s1
      have HS2 := Lib.hid s2
      have HB0 := Lib.hid (HBit.out j (by omega))
      have hb2 : N / 2 ^ j % 2 = 0 ∨ N / 2 ^ j % 2 = 1 := by omega
      generalize N / 2 ^ j % 2 = bit at *
      have HR3 := Lib.hid hR3
      have HVl := Lib.hid hv
      have HVG := Lib.hid hVG
      have HBB := Lib.hid hB
      clear hR3 hv hVG s1 s2 hB hP hji
      go_wp2_with (first | refine load_at rfl (.tmp 9) rfl (g + 2) l c rfl HR3.out.p ?_ | refine load_at rfl (.tmp 8) rfl (g + 1) lp cp rfl HR3.out.y ?_)
      refine (productOfRests_any l l lp c c cp _ HR3.out.p.len HR3.out.p.len HLP.out HVl.out HVl.out HVP.out.1 HVG.out HVG.out (by rw [HVP.out.2]; omega) (by rw [HVP.out.2]; exact hpG)).mono ?_
      rintro e w1 ⟨l1, c1, rfl, hl1, v1, hv1, b1⟩
      have hv1' : W.lV l1 = W.lV l * W.lV l % n := by
       refine Eq.trans hv1 ?_
       rw [HVP.out.2]
      have HR4 := Lib.hid (HR3.out.on b1)
      have HR5 := Lib.hid (HR4.out.put (c := c1) hl1)
      have HB5 := Lib.hid (below_setRow (bt HBB.out b1) (show w.heap.size ≤ g + 2 by omega) (rowC l1 c1))
      have HL1 := Lib.hid hl1
      have HV1 := Lib.hid (And.intro v1 hv1')
      clear hl1 v1 hv1 hv1' b1 HBB HR3 HVl HVG hV
      go_wp2_with (refine store_at rfl (.tmp 9) (.tmp 40) rfl (g + 2) l l1 c c1 rfl rfl HR4.out.p HL1.out ?_)
      clear HR4
      generalize World.setRow _ _ _ = w2 at *
      refine (HB0.out _).mono ?_
      rintro e w3 ⟨rfl, rfl⟩
      clear HB0
      rcases hb2 with rfl | rfl
      ·have HP := Lib.hid (HS2.out rfl)
       clear HS1 HS2
       have hq : ((((0 : Nat) : Int)) == 1) = false := rfl
       go_wp2
       go_roundw
       case rel => exact ⟨j, by omega, by go_num, ⟨⟨l1, c1, HR5.out, HV1.out.1, by rw [HV1.out.2]; exact HP.out⟩, HB5.out, hge⟩⟩
       case measure => simp [intOf]
      ·have HP := Lib.hid (HS1.out rfl)
       clear HS1 HS2
       have hq : ((((1 : Nat) : Int)) == 1) = true := rfl
       have hG1 : W.lV l1 < GB := by rw [HV1.out.2]; exact Nat.lt_trans (Nat.mod_lt _ (by omega)) hpG
       have HG1 := Lib.hid hG1
       clear hG1
       go_wp2_with (first | refine load_at rfl (.tmp 9) rfl (g + 2) l1 c1 rfl HR5.out.p ?_ | refine load_at rfl (.tmp 7) rfl g lx cx rfl HR5.out.x ?_ | refine load_at rfl (.tmp 8) rfl (g + 1) lp cp rfl HR5.out.y ?_)
       refine (productOfRests_any l1 lx lp c1 cx cp _ HL1.out HLX.out HLP.out HV1.out.1 HVX.out.1 HVP.out.1 HG1.out (by rw [HVX.out.2]; omega) (by rw [HVP.out.2]; omega) (by rw [HVP.out.2]; exact hpG)).mono ?_
       rintro e w4 ⟨l2, c2, rfl, hl2, v2, hv2, b4⟩
       have hv2' : W.lV l2 = x ^ (N / 2 ^ j) % n := by
        refine Eq.trans hv2 ?_
        rw [HV1.out.2, HVX.out.2, HVP.out.2]
        exact HP.out
       have HR6 := Lib.hid (HR5.out.on b4)
       have HR7 := Lib.hid (HR6.out.put (c := c2) hl2)
       have HB7 := Lib.hid (below_setRow (bt HB5.out b4) (show w.heap.size ≤ g + 2 by omega) (rowC l2 c2))
       have HL2 := Lib.hid hl2
       have HV2 := Lib.hid (And.intro v2 hv2')
       clear hl2 v2 hv2 hv2' b4 HB5 HR5 HG1 HP
       go_wp2_with (refine store_at rfl (.tmp 9) (.tmp 48) rfl (g + 2) l1 l2 c1 c2 rfl rfl HR6.out.p HL2.out ?_)
       clear HR6
       generalize World.setRow _ _ _ = w5 at *
       go_roundw
       case rel => exact ⟨j, by omega, by go_num, ⟨⟨l2, c2, HR7.out, HV2.out.1, HV2.out.2⟩, HB7.out, hge⟩⟩
       case measure => simp [intOf]
     ·obtain rfl : k = 0 := by omega
      have hneg : ¬ (0 : Int) ≤ ((0 : Nat) : Int) - 1 := by omega
      have HG := Lib.hid (great_any _ _ _ _ hR3.p hv (by have := cnt_40 hv hVG; omega))
      rw [great_gS hVG, hV, Nat.pow_zero, Nat.div_one] at HG
      have HBB := Lib.hid hB
      clear hR3 hv hV hB hVG hP
      go_wp2_with fail
      refine HG.out.mono ?_
      rintro e w6 ⟨rfl, b6⟩
      have bb := bt HBB.out b6
      clear HG HBB b6
      go_wp2
      go_ret
      exact ⟨rfl, bb⟩
end Go.Proofs.YtdajgcgliidjbaaGreat
namespace Go.Proofs.YtdajgcgliidjbaaGreat
open Go.RowKit
theorem half_num {x n : Nat} : (if x % 2 = 1 then x + n else x) / 2 = halfN x n := by unfold halfN; split <;> rfl
theorem bit_low {a : ByteArray} (ok : okG a = true) : bitG a 0 = ((gV a % 2 : Nat) : Int) := by
 rcases Nat.eq_zero_or_pos (gV a) with h | h
 ·unfold bitG
  have : a.size = 0 := by
   rcases Nat.eq_zero_or_pos a.size with h2 | h2
   ·exact h2
   ·have := gV_pos ok h2; omega
  rw [this, h]; simp
 ·have := bit_pow ok (i := 0) (by have := (bitLen_bounds h).2.2; omega)
  rw [Nat.pow_zero, Nat.div_one] at this
  exact this
theorem Row1.put {w : World} {g c c' : Nat} {l l' : List Nat} (h : RowI w g l c) (hl : l'.length = 81) : RowI (w.setRow g (rowC l' c')) g l' c' := h.stored hl
theorem halfRest_i (a p : ByteArray) (w : World) : Calls Tryz.prog 119 #[.string a, .string p] w fun e w' => e = .returned (.string (halfR a p)) ∧ Below w.heap.size w w' := by
 have HM := leaves_s p
 have HR := restOk_s a p
 have HBp := bitOf_i p 0 (by omega)
 have HBa := bitOf_i a 0 (by omega)
 unfold halfR halfB oneB
 cases hm : modB p with
 | false =>
  rw [hm] at HM
  rw [Bool.false_and, Bool.false_and, if_neg (by decide)]
  go_enter Tryz.func119, Tryz.ntmps119
  go_wp2_with fail
  refine (HM _).mono ?_
  rintro e w1 ⟨rfl, rfl⟩
  go_wp2
  go_ret
  exact ⟨rfl, Below.refl _ _⟩
 | true =>
  rw [hm] at HM
  rw [Bool.true_and]
  cases hr : restB a p with
  | false =>
   rw [hr] at HR
   rw [Bool.false_and, if_neg (by decide)]
   go_enter Tryz.func119, Tryz.ntmps119
   go_wp2_with fail
   refine (HM _).mono ?_
   rintro e w1 ⟨rfl, rfl⟩
   go_wp2_with fail
   refine (HR _).mono ?_
   rintro e w1 ⟨rfl, rfl⟩
   go_wp2
   go_ret
   exact ⟨rfl, Below.refl _ _⟩
  | true =>
   rw [hr] at HR
   rw [Bool.true_and]
   obtain ⟨okp, h1⟩ := modB_parts hm
   obtain ⟨oka, _, hap⟩ := restB_parts hr
   rw [bit_low okp] at HBp
   rw [bit_low oka] at HBa
   by_cases hodd : gV p % 2 = 1
   ·rw [decide_eq_true hodd, if_pos rfl]
    rw [hodd] at HBp
    have hpG := gV_lt okp
    have hq : ((((1 : Nat) : Int)) == 0) = false := rfl
    have I1 := Lib.hid (fun w => rowOf_any a w (okG_size' oka))
    have I2 := Lib.hid (fun w => rowOf_any p w (okG_size' okp))
    have HE := Lib.hid (half_num (x := gV a) (n := gV p))
    have hlt : halfN (gV a) (gV p) < GB := by unfold halfN; split <;> omega
    have HLT := Lib.hid hlt
    obtain ⟨x, hx⟩ : ∃ x, gV a = x := ⟨_, rfl⟩
    obtain ⟨n, hn⟩ : ∃ n, gV p = n := ⟨_, rfl⟩
    rw [hx] at HBa I1 hap HE HLT
    rw [hn] at I2 hap hpG HE HLT
    rw [hx, hn]
    obtain ⟨Z, hZ⟩ : ∃ Z, rowC Z81 0 = Z := ⟨_, rfl⟩
    have hz := zero_row.1
    rw [hZ] at hz
    have HZ := Lib.hid hZ
    clear hm hr okp oka hx hn hZ h1 hodd hlt
    go_enter Tryz.func119, Tryz.ntmps119
    go_wp2_with fail
    refine (HM _).mono ?_
    rintro e w1 ⟨rfl, rfl⟩
    go_wp2_with fail
    refine (HR _).mono ?_
    rintro e w1 ⟨rfl, rfl⟩
    go_wp2_with fail
    refine (HBp _).mono ?_
    rintro e w1 ⟨rfl, rfl⟩
    clear HM HR HBp
    go_wp2_with fail
    refine (I1.out _).mono ?_
    rintro e w1 ⟨lx, cx, rfl, hlx, vx, ex, b1⟩
    have HV1 := Lib.hid (one_var w1 HZ.out)
    have HVS := Lib.hid (var_set w1 (c := cx) HZ.out hlx)
    have cx40 := cnt_40 vx (by rw [ex]; omega)
    have HLX := Lib.hid hlx
    have HVX := Lib.hid (And.intro vx ex)
    have HB1 := Lib.hid b1
    clear hlx vx ex b1 I1
    go_wp2_with (refine store_at rfl (.tmp 5) (.tmp 23) rfl w1.heap.size Z81 lx 0 cx rfl rfl HV1.out.1 HLX.out ?_)
    generalize World.setRow _ _ _ = w2 at *
    have HB2 := Lib.hid (bt HB1.out HVS.out.2)
    have HR2 := Lib.hid HVS.out.1
    have hge := HB1.out.size
    clear HVS HV1 HB1
    generalize w1.heap.size = g at *
    refine (HBa _).mono ?_
    rintro e w3 ⟨rfl, rfl⟩
    clear HBa
    rcases (show x % 2 = 0 ∨ x % 2 = 1 by omega) with hxb | hxb
    ·rw [hxb]
     have hq2 : ((((0 : Nat) : Int)) == 1) = false := rfl
     rw [hxb, if_neg (by omega)] at HE
     have HD := Lib.hid (shiftedDown_any g cx 1 lx w2 HR2.out HVX.out.1 (by omega) (by omega))
     clear hxb
     go_wp2_with fail
     refine HD.out.mono ?_
     rintro e w4 ⟨l, c, rfl, hl, v, ⟨hv, hc⟩, b4⟩
     have HV4 := Lib.hid (one_var w4 HZ.out)
     have HVS := Lib.hid (var_set w4 (c := c) HZ.out hl)
     have hvv : W.lV l = halfN x n := by rw [hv, HVX.out.2, Nat.pow_one]; exact HE.out
     have HL := Lib.hid hl
     have HVV := Lib.hid (And.intro v hvv)
     have HB4 := Lib.hid (bt HB2.out b4)
     clear hl v hv hvv b4 HD HB2 HR2
     go_wp2_with (refine store_at rfl (.tmp 7) (.tmp 30) rfl w4.heap.size Z81 l 0 c rfl rfl HV4.out.1 HL.out ?_)
     generalize World.setRow _ _ _ = w5 at *
     have HB5 := Lib.hid (bt HB4.out HVS.out.2)
     have HG := Lib.hid (great_any _ _ _ _ HVS.out.1 HVV.out.1 (by omega))
     rw [HVV.out.2, great_gS HLT.out] at HG
     clear HVS HV4 HB4
     refine HG.out.mono ?_
     rintro e w6 ⟨rfl, b6⟩
     have bb := bt HB5.out b6
     clear HG HB5 b6
     go_wp2
     go_ret
     exact ⟨rfl, bb⟩
    ·rw [hxb]
     have hq2 : ((((1 : Nat) : Int)) == 1) = true := rfl
     rw [hxb, if_pos rfl] at HE
     clear hxb
     go_wp2_with fail
     refine (I2.out _).mono ?_
     rintro e w4 ⟨lp, cp, rfl, hlp, vp, ep, b4⟩
     have HV4 := Lib.hid (one_var w4 HZ.out)
     have HVS := Lib.hid (var_set w4 (c := cp) HZ.out hlp)
     have cp40 := cnt_40 vp (by rw [ep]; exact hpG)
     have HLP := Lib.hid hlp
     have HVP := Lib.hid (And.intro vp ep)
     have HR4 := Lib.hid (HR2.out.below b4 HR2.out.lt)
     have HB4 := Lib.hid (bt HB2.out b4)
     clear hlp vp ep b4 I2 HR2 HB2
     go_wp2_with (refine store_at rfl (.tmp 6) (.tmp 28) rfl w4.heap.size Z81 lp 0 cp rfl rfl HV4.out.1 HLP.out ?_)
     generalize World.setRow _ _ _ = w5 at *
     have HB5 := Lib.hid (bt HB4.out HVS.out.2)
     have HP5 := Lib.hid HVS.out.1
     have HR5 := Lib.hid (HR4.out.below HVS.out.2 HR4.out.lt)
     clear HVS HV4 HB4 HR4
     refine (addRows_any _ _ _ _ _ _ _ HR5.out HP5.out HVX.out.1 HVP.out.1 (by omega) (by omega)).mono ?_
     rintro e w6 ⟨l1, c1, rfl, hl1, v1, ⟨hv1, hc1⟩, b6⟩
     have HR6 := Lib.hid (HR5.out.below b6 HR5.out.lt)
     have HR7 := Lib.hid (HR6.out.stored (c' := c1) hl1)
     have HB7 := Lib.hid (below_setRow (bt HB5.out b6) (show w.heap.size ≤ g by omega) (rowC l1 c1))
     have HL1 := Lib.hid hl1
     have HV1 := Lib.hid (And.intro v1 (hv1.trans (by rw [HVX.out.2, HVP.out.2])))
     clear hl1 v1 hv1 b6 HB5 HR5 HP5
     go_wp2_with (refine store_at rfl (.tmp 5) (.tmp 29) rfl g lx l1 cx c1 rfl rfl HR6.out HL1.out ?_)
     clear HR6
     generalize World.setRow _ _ _ = w7 at *
     have HD := Lib.hid (shiftedDown_any g c1 1 l1 w7 HR7.out HV1.out.1 (by omega) (by omega))
     refine HD.out.mono ?_
     rintro e w8 ⟨l, c, rfl, hl, v, ⟨hv, hc⟩, b8⟩
     have HV4 := Lib.hid (one_var w8 HZ.out)
     have HVS := Lib.hid (var_set w8 (c := c) HZ.out hl)
     have hvv : W.lV l = halfN x n := by rw [hv, HV1.out.2, Nat.pow_one]; exact HE.out
     have HL := Lib.hid hl
     have HVV := Lib.hid (And.intro v hvv)
     have HB8 := Lib.hid (bt HB7.out b8)
     clear hl v hv hvv b8 HD HB7 HR7
     go_wp2_with (refine store_at rfl (.tmp 7) (.tmp 30) rfl w8.heap.size Z81 l 0 c rfl rfl HV4.out.1 HL.out ?_)
     generalize World.setRow _ _ _ = w9 at *
     have HB9 := Lib.hid (bt HB8.out HVS.out.2)
     have HG := Lib.hid (great_any _ _ _ _ HVS.out.1 HVV.out.1 (by omega))
     rw [HVV.out.2, great_gS HLT.out] at HG
     clear HVS HV4 HB8
     refine HG.out.mono ?_
     rintro e w10 ⟨rfl, b10⟩
     have bb := bt HB9.out b10
     clear HG HB9 b10
     go_wp2
     go_ret
     exact ⟨rfl, bb⟩
   ·have h0 : gV p % 2 = 0 := by omega
    rw [decide_eq_false hodd, if_neg (by decide)]
    rw [h0] at HBp
    have hq : ((((0 : Nat) : Int)) == 0) = true := rfl
    clear hm hr okp oka h1 hodd h0 hap HBa
    go_enter Tryz.func119, Tryz.ntmps119
    go_wp2_with fail
    refine (HM _).mono ?_
    rintro e w1 ⟨rfl, rfl⟩
    go_wp2_with fail
    refine (HR _).mono ?_
    rintro e w1 ⟨rfl, rfl⟩
    go_wp2_with fail
    refine (HBp _).mono ?_
    rintro e w1 ⟨rfl, rfl⟩
    go_wp2
    go_ret
    exact ⟨rfl, Below.refl _ _⟩
end Go.Proofs.YtdajgcgliidjbaaGreat

/-
  The contract of impl's HalfRest.
-/
import Derived.Test.YtmiolkgkgohniaaJPow
namespace Go.Proofs.Ytmiolkgkgohniaa
open Go.RowKit

/-! HalfRest -/
theorem half_num {x n : Nat} : (if x % 2 = 1 then x + n else x) / 2 = halfN x n := by unfold halfN; split <;> rfl
theorem bit_low {a : ByteArray} (ok : okG a = true) : bitG a 0 = ((gV a % 2 : Nat) : Int) := by
  rcases Nat.eq_zero_or_pos (gV a) with h | h
  · unfold bitG
    have : a.size = 0 := by
      rcases Nat.eq_zero_or_pos a.size with h2 | h2
      · exact h2
      · have := gV_pos ok h2; omega
    rw [this, h]; simp
  · have := bit_pow ok (i := 0) (by have := (bitLen_bounds h).2.2; omega)
    rw [Nat.pow_zero, Nat.div_one] at this
    exact this
theorem Row1.put {w : World} {g c c' : Nat} {l l' : List Nat} (h : RowI w g l c) (hl : l'.length = 81) : RowI (w.setRow g (rowC l' c')) g l' c' := h.stored hl
set_option maxRecDepth 8000 in
set_option maxHeartbeats 4000000 in
theorem halfRest_i (a p : ByteArray) (w : World) : Calls Try.prog 28 #[.string a, .string p] w fun e w' => e = .returned (.string (halfR a p)) ∧ Below w.heap.size w w' := by
  have HM := leaves_s p
  have HR := restOk_s a p
  have HBp := bitOf_i p 0 (by omega)
  have HBa := bitOf_i a 0 (by omega)
  unfold halfR halfB oneB
  cases hm : modB p with
  | false =>
    rw [hm] at HM
    rw [Bool.false_and, Bool.false_and, if_neg (by decide)]
    go_enter Try.func28, Try.ntmps28
    go_wp2_with fail
    refine (HM _).mono ?_
    rintro e w1 ⟨rfl, rfl⟩
    go_wp2
    go_ret
    exact ⟨rfl, Below.refl _ _⟩
  | true =>
    rw [hm] at HM
    rw [Bool.true_and]
    cases hr : restB a p with
    | false =>
      rw [hr] at HR
      rw [Bool.false_and, if_neg (by decide)]
      go_enter Try.func28, Try.ntmps28
      go_wp2_with fail
      refine (HM _).mono ?_
      rintro e w1 ⟨rfl, rfl⟩
      go_wp2_with fail
      refine (HR _).mono ?_
      rintro e w1 ⟨rfl, rfl⟩
      go_wp2
      go_ret
      exact ⟨rfl, Below.refl _ _⟩
    | true =>
      rw [hr] at HR
      rw [Bool.true_and]
      obtain ⟨okp, h1⟩ := modB_parts hm
      obtain ⟨oka, _, hap⟩ := restB_parts hr
      rw [bit_low okp] at HBp
      rw [bit_low oka] at HBa
      by_cases hodd : gV p % 2 = 1
      · rw [decide_eq_true hodd, if_pos rfl]
        rw [hodd] at HBp
        have hpG := gV_lt okp
        have hq : ((((1 : Nat) : Int)) == 0) = false := rfl
        have I1 := Lib.hid (fun w => rowOf_any a w (okG_size' oka))
        have I2 := Lib.hid (fun w => rowOf_any p w (okG_size' okp))
        have HE := Lib.hid (half_num (x := gV a) (n := gV p))
        have hlt : halfN (gV a) (gV p) < GB := by unfold halfN; split <;> omega
        have HLT := Lib.hid hlt
        obtain ⟨x, hx⟩ : ∃ x, gV a = x := ⟨_, rfl⟩
        obtain ⟨n, hn⟩ : ∃ n, gV p = n := ⟨_, rfl⟩
        rw [hx] at HBa I1 hap HE HLT
        rw [hn] at I2 hap hpG HE HLT
        rw [hx, hn]
        obtain ⟨Z, hZ⟩ : ∃ Z, rowC Z81 0 = Z := ⟨_, rfl⟩
        have hz := zero_row.1
        rw [hZ] at hz
        have HZ := Lib.hid hZ
        clear hm hr okp oka hx hn hZ h1 hodd hlt
        go_enter Try.func28, Try.ntmps28
        go_wp2_with fail
        refine (HM _).mono ?_
        rintro e w1 ⟨rfl, rfl⟩
        go_wp2_with fail
        refine (HR _).mono ?_
        rintro e w1 ⟨rfl, rfl⟩
        go_wp2_with fail
        refine (HBp _).mono ?_
        rintro e w1 ⟨rfl, rfl⟩
        clear HM HR HBp
        go_wp2_with fail
        refine (I1.out _).mono ?_
        rintro e w1 ⟨lx, cx, rfl, hlx, vx, ex, b1⟩
        have HV1 := Lib.hid (one_var w1 HZ.out)
        have HVS := Lib.hid (var_set w1 (c := cx) HZ.out hlx)
        have cx40 := cnt_40 vx (by rw [ex]; omega)
        have HLX := Lib.hid hlx
        have HVX := Lib.hid (And.intro vx ex)
        have HB1 := Lib.hid b1
        clear hlx vx ex b1 I1
        go_wp2_with (refine store_at rfl (.tmp 5) (.tmp 23) rfl w1.heap.size Z81 lx 0 cx rfl rfl HV1.out.1 HLX.out ?_)
        generalize World.setRow _ _ _ = w2 at *
        have HB2 := Lib.hid (bt HB1.out HVS.out.2)
        have HR2 := Lib.hid HVS.out.1
        have hge := HB1.out.size
        clear HVS HV1 HB1
        generalize w1.heap.size = g at *
        refine (HBa _).mono ?_
        rintro e w3 ⟨rfl, rfl⟩
        clear HBa
        rcases (show x % 2 = 0 ∨ x % 2 = 1 by omega) with hxb | hxb
        · rw [hxb]
          have hq2 : ((((0 : Nat) : Int)) == 1) = false := rfl
          rw [hxb, if_neg (by omega)] at HE
          have HD := Lib.hid (shiftedDown_any g cx 1 lx w2 HR2.out HVX.out.1 (by omega) (by omega))
          clear hxb
          go_wp2_with fail
          refine HD.out.mono ?_
          rintro e w4 ⟨l, c, rfl, hl, v, ⟨hv, hc⟩, b4⟩
          have HV4 := Lib.hid (one_var w4 HZ.out)
          have HVS := Lib.hid (var_set w4 (c := c) HZ.out hl)
          have hvv : W.lV l = halfN x n := by rw [hv, HVX.out.2, Nat.pow_one]; exact HE.out
          have HL := Lib.hid hl
          have HVV := Lib.hid (And.intro v hvv)
          have HB4 := Lib.hid (bt HB2.out b4)
          clear hl v hv hvv b4 HD HB2 HR2
          go_wp2_with (refine store_at rfl (.tmp 7) (.tmp 30) rfl w4.heap.size Z81 l 0 c rfl rfl HV4.out.1 HL.out ?_)
          generalize World.setRow _ _ _ = w5 at *
          have HB5 := Lib.hid (bt HB4.out HVS.out.2)
          have HG := Lib.hid (great_any _ _ _ _ HVS.out.1 HVV.out.1 (by omega))
          rw [HVV.out.2, great_gS HLT.out] at HG
          clear HVS HV4 HB4
          refine HG.out.mono ?_
          rintro e w6 ⟨rfl, b6⟩
          have bb := bt HB5.out b6
          clear HG HB5 b6
          go_wp2
          go_ret
          exact ⟨rfl, bb⟩
        · rw [hxb]
          have hq2 : ((((1 : Nat) : Int)) == 1) = true := rfl
          rw [hxb, if_pos rfl] at HE
          clear hxb
          go_wp2_with fail
          refine (I2.out _).mono ?_
          rintro e w4 ⟨lp, cp, rfl, hlp, vp, ep, b4⟩
          have HV4 := Lib.hid (one_var w4 HZ.out)
          have HVS := Lib.hid (var_set w4 (c := cp) HZ.out hlp)
          have cp40 := cnt_40 vp (by rw [ep]; exact hpG)
          have HLP := Lib.hid hlp
          have HVP := Lib.hid (And.intro vp ep)
          have HR4 := Lib.hid (HR2.out.below b4 HR2.out.lt)
          have HB4 := Lib.hid (bt HB2.out b4)
          clear hlp vp ep b4 I2 HR2 HB2
          go_wp2_with (refine store_at rfl (.tmp 6) (.tmp 28) rfl w4.heap.size Z81 lp 0 cp rfl rfl HV4.out.1 HLP.out ?_)
          generalize World.setRow _ _ _ = w5 at *
          have HB5 := Lib.hid (bt HB4.out HVS.out.2)
          have HP5 := Lib.hid HVS.out.1
          have HR5 := Lib.hid (HR4.out.below HVS.out.2 HR4.out.lt)
          clear HVS HV4 HB4 HR4
          refine (addRows_any _ _ _ _ _ _ _ HR5.out HP5.out HVX.out.1 HVP.out.1 (by omega) (by omega)).mono ?_
          rintro e w6 ⟨l1, c1, rfl, hl1, v1, ⟨hv1, hc1⟩, b6⟩
          have HR6 := Lib.hid (HR5.out.below b6 HR5.out.lt)
          have HR7 := Lib.hid (HR6.out.stored (c' := c1) hl1)
          have HB7 := Lib.hid (below_setRow (bt HB5.out b6) (show w.heap.size ≤ g by omega) (rowC l1 c1))
          have HL1 := Lib.hid hl1
          have HV1 := Lib.hid (And.intro v1 (hv1.trans (by rw [HVX.out.2, HVP.out.2])))
          clear hl1 v1 hv1 b6 HB5 HR5 HP5
          go_wp2_with (refine store_at rfl (.tmp 5) (.tmp 29) rfl g lx l1 cx c1 rfl rfl HR6.out HL1.out ?_)
          clear HR6
          generalize World.setRow _ _ _ = w7 at *
          have HD := Lib.hid (shiftedDown_any g c1 1 l1 w7 HR7.out HV1.out.1 (by omega) (by omega))
          refine HD.out.mono ?_
          rintro e w8 ⟨l, c, rfl, hl, v, ⟨hv, hc⟩, b8⟩
          have HV4 := Lib.hid (one_var w8 HZ.out)
          have HVS := Lib.hid (var_set w8 (c := c) HZ.out hl)
          have hvv : W.lV l = halfN x n := by rw [hv, HV1.out.2, Nat.pow_one]; exact HE.out
          have HL := Lib.hid hl
          have HVV := Lib.hid (And.intro v hvv)
          have HB8 := Lib.hid (bt HB7.out b8)
          clear hl v hv hvv b8 HD HB7 HR7
          go_wp2_with (refine store_at rfl (.tmp 7) (.tmp 30) rfl w8.heap.size Z81 l 0 c rfl rfl HV4.out.1 HL.out ?_)
          generalize World.setRow _ _ _ = w9 at *
          have HB9 := Lib.hid (bt HB8.out HVS.out.2)
          have HG := Lib.hid (great_any _ _ _ _ HVS.out.1 HVV.out.1 (by omega))
          rw [HVV.out.2, great_gS HLT.out] at HG
          clear HVS HV4 HB8
          refine HG.out.mono ?_
          rintro e w10 ⟨rfl, b10⟩
          have bb := bt HB9.out b10
          clear HG HB9 b10
          go_wp2
          go_ret
          exact ⟨rfl, bb⟩
      · have h0 : gV p % 2 = 0 := by omega
        rw [decide_eq_false hodd, if_neg (by decide)]
        rw [h0] at HBp
        have hq : ((((0 : Nat) : Int)) == 0) = true := rfl
        clear hm hr okp oka h1 hodd h0 hap HBa
        go_enter Try.func28, Try.ntmps28
        go_wp2_with fail
        refine (HM _).mono ?_
        rintro e w1 ⟨rfl, rfl⟩
        go_wp2_with fail
        refine (HR _).mono ?_
        rintro e w1 ⟨rfl, rfl⟩
        go_wp2_with fail
        refine (HBp _).mono ?_
        rintro e w1 ⟨rfl, rfl⟩
        go_wp2
        go_ret
        exact ⟨rfl, Below.refl _ _⟩
end Go.Proofs.Ytmiolkgkgohniaa

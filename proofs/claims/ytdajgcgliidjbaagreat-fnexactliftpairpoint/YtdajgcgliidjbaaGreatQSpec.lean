import Derived.Test.YtdajgcgliidjbaaGreatQMath
import Derived.Deep.LoopGhost
set_option maxRecDepth 8000
set_option maxHeartbeats 2000000
namespace Go.Proofs.YtdajgcgliidjbaaGreat
open Go.RowKit
theorem small_any (n : Nat) (hn : n < 10000) (w : World) : Calls Tryz.prog 190 #[.int .i64 (n : Int)] w fun e w' => e = .returned (.bool (smallB n)) ∧ w = w' := by
 by_cases h3 : n < 3
 ·have d : decide ((n : Int) < 3) = true := by simp; omega
  have h3' : (n : Int) < 3 := by omega
  rw [smallB_less (.inl h3)]
  go_enter Tryz.func190, Tryz.ntmps190
  go_wp2
  go_ret
  exact ⟨rfl, rfl⟩
 have h3' : ¬ (n : Int) < 3 := by omega
 have d3 : decide ((n : Int) < 3) = false := by simp; omega
 by_cases he : n % 2 = 0
 ·have e1 : (n : Int) % 2 = 0 := by omega
  have e2 : ((n : Int) % 2 == 0) = true := by simpa using e1
  rw [smallB_less (.inr he)]
  clear he
  go_enter Tryz.func190, Tryz.ntmps190
  go_wp2
  go_ret
  exact ⟨rfl, rfl⟩
 have e1 : (n : Int) % 2 = 1 := by omega
 have e2 : ((n : Int) % 2 == 0) = false := by rw [e1]; rfl
 have HN := Lib.hid (fun k (h3 : 3 ≤ k) (ho : k % 2 = 1) (hk : k * k ≤ n) (hd : n % k = 0) => smallB_no hn h3 ho hk hd)
 have HY := Lib.hid (fun k (hk : n < k * k) (h : ∀ j, 3 ≤ j → j % 2 = 1 → j < k → n % j ≠ 0) => smallB_yes (by omega : 3 ≤ n) (by omega) hk h)
 clear he
 go_enter Tryz.func190, Tryz.ntmps190
 go_wp2
 clear e1 e2 d3
 go_loop [3] (fun kv => ∃ k : Nat, 3 ≤ k ∧ k % 2 = 1 ∧ k ≤ 101 ∧ kv = .int .i64 (k : Int) ∧ Hid (∀ j, 3 ≤ j → j % 2 = 1 → j < k → n % j ≠ 0)) (fun kv => 200 - (intOf kv).toNat)
 case atStart => exact ⟨3, by omega, by omega, by omega, rfl, fun j h1 h2 h3 => by omega⟩
 case round =>
  obtain ⟨k, k3, ko, k101, rfl, hI⟩ := hrel
  obtain ⟨q, hq⟩ : ∃ q, k * k = q := ⟨_, rfl⟩
  have hqI : (k : Int) * (k : Int) = (q : Int) := by rw [← hq]; simp
  have hq2 : q ≤ 101 * 101 := by rw [← hq]; exact Nat.mul_le_mul k101 k101
  by_cases hle : q ≤ n
  ·have hle' : (q : Int) ≤ (n : Int) := by omega
   have hk100 : k < 100 := by
    rcases Nat.lt_or_ge k 100 with h | h
    ·exact h
    ·have : 100 * 100 ≤ k * k := Nat.mul_le_mul h h; omega
   have k0 : ((k : Int) == 0) = false := by simp; omega
   have k0' : ¬ (k : Int) = 0 := by omega
   by_cases hd : n % k = 0
   ·have hd' : (n : Int) % (k : Int) = 0 := by exact_mod_cast hd
    have hd2 : ((n : Int) % (k : Int) == 0) = true := by simpa using hd'
    have E := Lib.hid (HN.out k k3 ko (by omega) hd)
    clear HN HY hI hd hq
    go_wp2
    go_ret
    exact ⟨by rw [E.out]; rfl, rfl⟩
   ·have hd' : ¬ (n : Int) % (k : Int) = 0 := by exact_mod_cast hd
    have hd2 : ((n : Int) % (k : Int) == 0) = false := by simpa using hd'
    have hI2 : Hid (∀ j, 3 ≤ j → j % 2 = 1 → j < k + 2 → n % j ≠ 0) := fun j h1 h2 h3 => by
     rcases Nat.lt_or_ge j k with h | h
     ·exact hI.out j h1 h2 h
     ·obtain rfl : j = k := by omega
      exact hd
    clear hI hq hd
    go_wp2
    go_round
    case rel => exact ⟨k + 2, by omega, by omega, by omega, by go_num, hI2⟩
    case measure => simp [intOf]; omega
  ·have hle' : ¬ (q : Int) ≤ (n : Int) := by omega
   have E := Lib.hid (HY.out k (by omega) hI.out)
   clear HN HY hI hq
   go_wp2
   go_ret
   exact ⟨by rw [E.out]; rfl, rfl⟩
theorem below_one (w : World) (k : Int) : Below w.heap.size w (w.alloc (.cells #[.int .i64 k] 3)) := (Below.refl _ _).alloc (Nat.le_refl _) _
theorem less_x {w : World} {p : Value} {n : Nat} (r : RowX w p n) (hn : n < SM) (h1 : 1 ≤ n) : Calls Tryz.prog 168 #[p] w (RowTwo (n - 1) ((n - 1) / 2) w) := by
 have S1 := Lib.hid (sub_x (r.below (below_one w ((1 : Nat) : Int))) (row_one w 1 (by omega) (by omega)) hn h1)
 obtain ⟨ap, np, cp, rfl⟩ := r.shape
 clear r
 go_enter Tryz.func168, Tryz.ntmps168
 go_wp2_with fail
 refine S1.out.mono ?_
 rintro e w1 ⟨v, rfl, hv, b1⟩
 have D1 := Lib.hid (div_x (hv.below (below_one w1 ((2 : Nat) : Int))) (row_one w1 2 (by omega) (by omega)) (by omega) (by omega))
 have HB1 := Lib.hid (bt (below_one w ((1 : Nat) : Int)) b1)
 have HV := Lib.hid (hv.below (below_one w1 ((2 : Nat) : Int)))
 obtain ⟨av, nv, cv, rfl⟩ := hv.shape
 clear hv b1 S1
 go_wp2_with fail
 refine D1.out.mono ?_
 rintro e w2 ⟨q, t, rfl, hq, ht, b2⟩
 have HV2 := Lib.hid (HV.out.below b2)
 have HQ := Lib.hid hq
 have HB2 := Lib.hid (bt (bt HB1.out (below_one w1 ((2 : Nat) : Int))) b2)
 obtain ⟨aq, nq, cq, rfl⟩ := hq.shape
 obtain ⟨at0, nt, ct, rfl⟩ := ht.shape
 clear hq ht b2 D1 HV HB1
 go_wp2
 go_ret2
 exact ⟨_, _, rfl, HV2.out, HQ.out, HB2.out⟩
def SymPost (s : Int) (w : World) (e : Ending) (w' : World) : Prop := e = .returned (.int .i64 s) ∧ Below w.heap.size w w'
theorem half_lt {n : Nat} (h : n < GB) : (n - 1) / 2 < GB := by omega
theorem symbol_x {w : World} {u p : Value} {a n : Nat} (h : RowX w u a) (r : RowX w p n) (ha : a < GB) (hn : n < GB) (h1 : 1 ≤ n) : Calls Tryz.prog 134 #[u, p] w (SymPost (symN a n) w) := by
 have L1 := Lib.hid (less_x r (sm_one hn) h1)
 have HU := Lib.hid h
 have HP := Lib.hid r
 obtain ⟨au, nu, cu, rfl⟩ := h.shape
 obtain ⟨ap, np, cp, rfl⟩ := r.shape
 clear h r
 go_enter Tryz.func134, Tryz.ntmps134
 go_wp2_with fail
 refine L1.out.mono ?_
 rintro e w1 ⟨v, q, rfl, hv, hq, b1⟩
 have O1 := Lib.hid (out_x hq (sm_one (half_lt hn)))
 have HB1 := Lib.hid b1
 obtain ⟨av, nv, cv, rfl⟩ := hv.shape
 obtain ⟨aq, nq, cq, rfl⟩ := hq.shape
 clear hv hq b1 L1
 go_wp2_with fail
 refine O1.out.mono ?_
 rintro e w2 ⟨rfl, b2⟩
 have hB2 := bt HB1.out b2
 have P1 := Lib.hid (lpow_x (gS ((n - 1) / 2)) (HU.out.below hB2) (HP.out.below hB2) (okS (half_lt hn)) ha hn (by omega))
 rw [gV_gS] at P1
 have HB2 := Lib.hid hB2
 clear b2 hB2 O1 HB1
 generalize gS ((n - 1) / 2) = hs at *
 go_wp2_with fail
 refine P1.out.mono ?_
 rintro e w3 ⟨x, rfl, hx, b3⟩
 have HB3 := Lib.hid (bt HB2.out b3)
 obtain ⟨X, hX⟩ : ∃ X, a ^ ((n - 1) / 2) % n = X := ⟨_, rfl⟩
 rw [hX] at hx
 have E0 : Hid (X = 0 → symN a n = 0) := fun h => by unfold symN; rw [hX, if_pos h]
 have E1 : Hid (X = 1 → symN a n = 1) := fun h => by unfold symN; rw [hX, if_neg (by omega), if_pos h]
 have E2 : Hid (X ≠ 0 → X ≠ 1 → symN a n = -1) := fun h h' => by unfold symN; rw [hX, if_neg h, if_neg h']
 obtain ⟨ax, nx, cx, rfl, z0, z1, z2, _⟩ := hx.form
 clear hX hx b3 P1 HB2
 by_cases hX0 : X = 0
 ·have hn0 : nx = 0 := z0.2 hX0
  subst hn0
  have HE := Lib.hid (E0.out hX0)
  clear z0 z1 z2 hX0 E0 E1 E2
  go_wp2
  go_ret
  exact ⟨ret_int HE.out.symm, HB3.out⟩
 ·have hn0 : 0 < nx := Nat.pos_of_ne_zero fun e => hX0 (z0.1 e)
  obtain ⟨g, c, rfl, hcell, hcv⟩ := z1 hn0
  have k0 : ((nx : Int) == 0) = false := by simp; omega
  by_cases hn1 : nx = 1
  ·subst hn1
   have hlt := (z2.1 rfl).2
   rw [Nat.mod_eq_of_lt hlt] at hcv
   subst hcv
   by_cases h1' : c = 1
   ·have hc1 : ((c : Int) == 1) = true := by rw [h1']; rfl
    have HE := Lib.hid (E1.out h1')
    clear z0 z1 z2 hX0 h1' E0 E1 E2
    go_wp2
    go_ret
    exact ⟨ret_int HE.out.symm, HB3.out⟩
   ·have hc1 : ((c : Int) == 1) = false := by simp; omega
    have HE := Lib.hid (E2.out hX0 h1')
    clear z0 z1 z2 hX0 h1' E0 E1 E2
    go_wp2
    go_ret
    exact ⟨ret_int HE.out.symm, HB3.out⟩
  ·have k1 : ((nx : Int) == 1) = false := by simp; omega
   have h1' : X ≠ 1 := fun e => hn1 (z2.2 (by omega))
   have HE := Lib.hid (E2.out hX0 h1')
   clear z0 z1 z2 hX0 h1' hn1 E0 E1 E2
   go_wp2
   go_ret
   exact ⟨ret_int HE.out.symm, HB3.out⟩
end Go.Proofs.YtdajgcgliidjbaaGreat
namespace Go.Proofs.YtdajgcgliidjbaaGreat
open Go.RowKit
def cvPk (k : Nat) : ByteArray := if k = 1 then cvP1 else if k = 2 then cvP2 else if k = 3 then cvP3 else cvP4
def cvRk (k : Nat) : ByteArray := if k = 1 then cvR1 else if k = 2 then cvR2 else if k = 3 then cvR3 else cvR4
theorem cvC_at {k : Nat} (h1 : 1 ≤ k) (h4 : k ≤ 4) : (cvC (k : Int))[1]? = some (.string (cvPk k)) ∧ (cvC (k : Int))[2]? = some (.string (cvRk k)) := by
 rcases (by omega : k = 1 ∨ k = 2 ∨ k = 3 ∨ k = 4) with rfl | rfl | rfl | rfl <;> exact ⟨rfl, rfl⟩
def curveAt (p : ByteArray) (k : Nat) : Bool := sameT p (cvPk k) || sameT p (cvRk k)
theorem curvePB_at (p : ByteArray) : curvePB p = ((curveAt p 1 || curveAt p 2) || (curveAt p 3 || curveAt p 4)) := rfl
theorem curvePB_yes {p : ByteArray} {k : Nat} (h1 : 1 ≤ k) (h4 : k ≤ 4) (h : curveAt p k = true) : curvePB p = true := by
 rw [curvePB_at]
 rcases (by omega : k = 1 ∨ k = 2 ∨ k = 3 ∨ k = 4) with rfl | rfl | rfl | rfl <;> rw [h] <;> simp
theorem curvePB_no {p : ByteArray} (h : ∀ k, 1 ≤ k → k < 5 → curveAt p k = false) : curvePB p = false := by
 rw [curvePB_at, h 1 (by omega) (by omega), h 2 (by omega) (by omega), h 3 (by omega) (by omega), h 4 (by omega) (by omega)]; rfl
theorem primeOk_any (p : ByteArray) (w : World) : Calls Tryz.prog 166 #[.string p] w fun e w' => e = .returned (.bool (primeB p)) ∧ Below w.heap.size w w' := by
 have HG := Lib.hid (greatInt_any p)
 unfold IntPost at HG
 unfold primeB
 cases ht : (okG p && decide (gV p < 10000)) with
 | true =>
  rw [if_pos rfl]
  simp only [Bool.and_eq_true, decide_eq_true_eq] at ht
  have hB : intB p = true := by unfold intB; rw [ht.1, decide_eq_true (by omega)]; rfl
  have hI : intG p = (gV p : Int) := by unfold intG; rw [hB]; rfl
  rw [hB, hI] at HG
  have HS := Lib.hid (small_any (gV p) ht.2)
  have hlt : (gV p : Int) < 10000 := by omega
  generalize gV p = n at *
  generalize smallB n = sb at *
  clear hB hI ht
  go_enter Tryz.func166, Tryz.ntmps166
  go_wp2_with fail
  refine (HG.out _).mono ?_
  rintro e w1 ⟨rfl, rfl⟩
  go_wp2_with fail
  refine (HS.out _).mono ?_
  rintro e w1 ⟨rfl, rfl⟩
  go_wp2
  go_ret
  exact ⟨rfl, Below.refl _ _⟩
 | false =>
  rw [if_neg (by decide)]
  have hcase : intB p = false ∨ (intB p = true ∧ ¬ intG p < 10000) := by
   cases hb : intB p with
   | false => exact .inl rfl
   | true =>
    refine .inr ⟨rfl, ?_⟩
    have hok : okG p = true := by unfold intB at hb; simp only [Bool.and_eq_true] at hb; exact hb.1
    have hI : intG p = (gV p : Int) := by unfold intG; rw [hb]; rfl
    rw [hok, Bool.true_and, decide_eq_false_iff_not] at ht
    rw [hI]; omega
  have HYes := Lib.hid (fun k h1 h4 (h : curveAt p k = true) => curvePB_yes (p := p) (k := k) h1 h4 h)
  have HNo := Lib.hid (fun h => curvePB_no (p := p) h)
  generalize curvePB p = cb at *
  generalize intG p = iv at *
  generalize intB p = ib at *
  clear ht
  rcases hcase with rfl | ⟨rfl, hge⟩
  all_goals (
   go_enter Tryz.func166, Tryz.ntmps166
   go_wp2_with fail
   refine (HG.out _).mono ?_
   rintro e w1 ⟨rfl, rfl⟩
   clear HG
   go_wp2
   go_loopw [5] (fun kv wr => ∃ (k : Nat), 1 ≤ k ∧ k ≤ 5 ∧ kv = .int .i64 (k : Int) ∧ Hid (∀ j, 1 ≤ j → j < k → curveAt p j = false) ∧ Hid (Below w.heap.size w wr)) (fun kv _ => 10 - (intOf kv).toNat)
   case atStart => exact ⟨1, by omega, by omega, rfl, fun j h1 h2 => by omega, Below.refl _ _⟩
   case round =>
    obtain ⟨k, k1, k5, rfl, hI, hB⟩ := hrel
    by_cases hk : k ≤ 4
    ·have hk' : (k : Int) ≤ 4 := by omega
     have HC := Lib.hid (curveOf_any (k : Int))
     have HS := Lib.hid (And.intro (cvC_size (k : Int)) (cvC_one (k : Int)))
     have HA := Lib.hid (cvC_at k1 hk)
     generalize cvC (k : Int) = C at *
     generalize cvB (k : Int) = cbk at *
     go_wp2_with fail
     refine (HC.out _).mono ?_
     rintro e w2 ⟨rfl, b2⟩
     have V := Lib.hid (cv_var w2 C HS.out.1)
     have c1 := (cell_of_row _ w2.heap.size 1 _ _ _ V.out.2.1).trans HA.out.1
     have c2 := (cell_of_row _ w2.heap.size 2 _ _ _ V.out.2.1).trans HA.out.2
     have HB2 := Lib.hid (bt (bt hB.out b2) V.out.2.2.1)
     have hct : curveAt p k = (sameT p (cvPk k) || sameT p (cvRk k)) := rfl
     have HCT := Lib.hid hct
     clear b2 hB HC hct
     generalize cvPk k = cP at *
     generalize cvRk k = cR at *
     cases h1 : (p.toList == cP.toList) with
     | true =>
      have HE := Lib.hid (HYes.out k k1 hk (by rw [HCT.out]; unfold sameT; rw [h1]; rfl))
      clear HYes HNo hI
      go_wp2_with (first | refine cv_store rfl (.tmp 6) (.tmp 27) rfl w2.heap.size cv0 C rfl rfl V.out.1 rfl HS.out.1 HS.out.2 ?_)
      generalize (World.setRow (World.alloc _ _) _ _) = w4 at *
      go_ret
      exact ⟨by rw [HE.out] <;> rfl, HB2.out⟩
     | false =>
      cases h2 : (p.toList == cR.toList) with
      | true =>
       have HE := Lib.hid (HYes.out k k1 hk (by rw [HCT.out]; unfold sameT; rw [h1, h2]; rfl))
       clear HYes HNo hI
       go_wp2_with (first | refine cv_store rfl (.tmp 6) (.tmp 27) rfl w2.heap.size cv0 C rfl rfl V.out.1 rfl HS.out.1 HS.out.2 ?_)
       generalize (World.setRow (World.alloc _ _) _ _) = w4 at *
       go_ret
       exact ⟨by rw [HE.out] <;> rfl, HB2.out⟩
      | false =>
       have hI2 : Hid (∀ j, 1 ≤ j → j < k + 1 → curveAt p j = false) := fun j j1 j2 => by
        rcases Nat.lt_or_ge j k with h | h
        ·exact hI.out j j1 h
        ·obtain rfl : j = k := by omega
         rw [HCT.out]; unfold sameT; rw [h1, h2]; rfl
       clear HYes HNo hI HCT
       go_wp2_with (first | refine cv_store rfl (.tmp 6) (.tmp 27) rfl w2.heap.size cv0 C rfl rfl V.out.1 rfl HS.out.1 HS.out.2 ?_)
       generalize (World.setRow (World.alloc _ _) _ _) = w4 at *
       go_roundw
       case rel => exact ⟨k + 1, by omega, by omega, by go_num, hI2, HB2⟩
       case measure => simp [intOf]; omega
    ·obtain rfl : k = 5 := by omega
     have hk' : ¬ (((5 : Nat) : Int)) ≤ 4 := by omega
     have HE := Lib.hid (HNo.out (fun j h1 h2 => hI.out j h1 h2))
     go_wp2
     go_ret
     exact ⟨by rw [HE.out] <;> rfl, hB.out⟩)
theorem symbolOf_any (a p : ByteArray) (w : World) : Calls Tryz.prog 132 #[.string a, .string p] w (SymPost (symG a p) w) := by
 have HP := Lib.hid (primeOk_any p)
 have HR := Lib.hid (restOk_any a p)
 unfold symG
 cases hp : primeB p with
 | false =>
  rw [hp] at HP
  rw [Bool.false_and, if_neg (by decide)]
  go_enter Tryz.func132, Tryz.ntmps132
  go_wp2_with fail
  refine (HP.out _).mono ?_
  rintro e w1 ⟨rfl, b1⟩
  go_wp2
  go_ret
  exact ⟨rfl, b1⟩
 | true =>
  rw [hp] at HP
  rw [Bool.true_and]
  cases hr : restB a p with
  | false =>
   rw [hr] at HR
   rw [if_neg (by decide)]
   go_enter Tryz.func132, Tryz.ntmps132
   go_wp2_with fail
   refine (HP.out _).mono ?_
   rintro e w1 ⟨rfl, b1⟩
   go_wp2_with fail
   refine (HR.out _).mono ?_
   rintro e w2 ⟨rfl, b2⟩
   have bb := bt b1 b2
   clear b1 b2
   go_wp2
   go_ret
   exact ⟨rfl, bb⟩
  | true =>
   rw [hr] at HR
   rw [if_pos rfl]
   obtain ⟨okp, pp⟩ := primeB_p hp
   obtain ⟨oka, _, hap⟩ := restB_parts hr
   have sa := okG_size oka
   have sp := okG_size okp
   have hpG := gV_lt okp
   have h3 := pp.ge
   have IA := Lib.hid (fun w => in_x a w (by omega))
   have IP := Lib.hid (fun w => in_x p w (by omega))
   generalize gV a = x at *
   generalize gV p = n at *
   clear hp hr okp oka pp
   go_enter Tryz.func132, Tryz.ntmps132
   go_wp2_with fail
   refine (HP.out _).mono ?_
   rintro e w1 ⟨rfl, b1⟩
   go_wp2_with fail
   refine (HR.out _).mono ?_
   rintro e w2 ⟨rfl, b2⟩
   go_wp2_with fail
   refine (IA.out _).mono ?_
   rintro e w3 ⟨u, rfl, hu, b3⟩
   obtain ⟨au, nu, cu, rfl⟩ := hu.shape
   have HU := Lib.hid hu
   clear hu
   go_wp2_with fail
   refine (IP.out _).mono ?_
   rintro e w4 ⟨q, rfl, hq, b4⟩
   obtain ⟨aq, nq, cq, rfl⟩ := hq.shape
   have S1 := Lib.hid (symbol_x (HU.out.below b4) hq (by omega) hpG (by omega))
   have HB4 := Lib.hid (bt (bt (bt b1 b2) b3) b4)
   clear hq HU b1 b2 b3 b4 HP HR IA IP
   go_wp2_with fail
   refine S1.out.mono ?_
   rintro e w5 ⟨rfl, b5⟩
   have bb := bt HB4.out b5
   generalize symN x n = sv at *
   clear S1 HB4 b5
   go_wp2
   go_ret
   exact ⟨rfl, bb⟩
theorem twos_1280 {n : Nat} (h : n < GB) (h1 : 1 < n) : twosN (n - 1) < 1280 := by
 obtain ⟨K, hK⟩ : ∃ K, K = 8 * 160 := ⟨_, rfl⟩
 have e2 : (2 : Nat) ^ K = (2 ^ 8) ^ 160 := (congrArg (fun k => (2 : Nat) ^ k) hK).trans (Nat.pow_mul 2 8 160)
 have h2 : n < 2 ^ K := by rw [e2]; exact h
 have := twosN_lt (n := n - 1) (k := K) (by omega) (by omega)
 omega
def TwosPost (p : ByteArray) (w : World) (e : Ending) (w' : World) : Prop := e = .returned (.tuple #[.int .i64 (twosG p : Int), .string (oddG p)]) ∧ Below w.heap.size w w'
theorem twosIn_any (p : ByteArray) (w : World) : Calls Tryz.prog 170 #[.string p] w (TwosPost p w) := by
 have HM := Lib.hid (mod_any p)
 unfold TwosPost twosG oddG
 cases hm : modB p with
 | false =>
  rw [hm] at HM
  rw [if_neg (by decide), if_neg (by decide)]
  go_enter Tryz.func170, Tryz.ntmps170
  go_wp2_with fail
  refine (HM.out _).mono ?_
  rintro e w1 ⟨rfl, rfl⟩
  go_wp2
  go_ret2
  exact ⟨rfl, Below.refl _ _⟩
 | true =>
  rw [hm] at HM
  rw [if_pos rfl, if_pos rfl]
  obtain ⟨okp, h1⟩ := modB_parts hm
  have sp := okG_size okp
  have hpG := gV_lt okp
  have IP := Lib.hid (fun w => in_x p w (by omega))
  have htw := twos_1280 hpG h1
  obtain ⟨n, hn⟩ : ∃ n, gV p = n := ⟨_, rfl⟩
  rw [hn] at IP h1 hpG htw ⊢
  clear hm okp hn sp
  go_enter Tryz.func170, Tryz.ntmps170
  go_wp2_with fail
  refine (HM.out _).mono ?_
  rintro e w1 ⟨rfl, rfl⟩
  clear HM
  go_wp2_with fail
  refine (IP.out _).mono ?_
  rintro e w1 ⟨q, rfl, hq, b1⟩
  have S1 := Lib.hid (sub_x (hq.below (below_one w1 ((1 : Nat) : Int))) (row_one w1 1 (by omega) (by omega)) (sm_one hpG) (by omega))
  obtain ⟨aq, nq, cq, rfl⟩ := hq.shape
  have HB1 := Lib.hid (bt b1 (below_one w1 ((1 : Nat) : Int)))
  clear hq b1 IP
  go_wp2_with fail
  refine S1.out.mono ?_
  rintro e w2 ⟨v, rfl, hv, b2⟩
  have HB2 := Lib.hid (bt HB1.out b2)
  have HV := Lib.hid hv
  obtain ⟨av, nv, cv, rfl⟩ := hv.shape
  clear hv b2 HB1 S1
  go_wp2
  go_loopg [4, 5] (n - 1) (fun gh v kv wr => ∃ (A k : Nat), A = gh ∧ 0 < A ∧ A < GB ∧ kv = .int .i64 (k : Int) ∧ Hid (k + twosN A = twosN (n - 1) ∧ oddN A = oddN (n - 1)) ∧ Hid (RowX wr v A) ∧ Hid (Below w.heap.size w wr))
  case atStart => exact ⟨n - 1, 0, rfl, by omega, by omega, rfl, ⟨by omega, rfl⟩, HV, HB2⟩
  case round =>
   clear HV HB2
   obtain ⟨A, k, rfl, hA, hAG, rfl, hI, hV, hB⟩ := hrel
   obtain ⟨aA, nA, cA, rfl, z0, z1, _, _⟩ := hV.out.form
   have hnA : 0 < nA := Nat.pos_of_ne_zero fun e => by have := z0.1 e; omega
   obtain ⟨g, c, rfl, hcell, hcv⟩ := z1 hnA
   have k4 : (0 : Int) < (nA : Int) := by omega
   have hk : k < 1280 := by have := hI.out.1; omega
   by_cases he : A % 2 = 0
   ·have hc2 : (c : Int) % 2 = 0 := by omega
    have hI2 : Hid (k + 1 + twosN (A / 2) = twosN (n - 1) ∧ oddN (A / 2) = oddN (n - 1)) := by
     have h2 := hI.out
     rw [twosN_even hA he, oddN_even hA he] at h2
     exact ⟨by omega, h2.2⟩
    have D1 := Lib.hid (div_x (hV.out.below (below_one wr ((2 : Nat) : Int))) (row_one wr 2 (by omega) (by omega)) (sm_one hAG) (by omega))
    have HBr := Lib.hid (bt hB.out (below_one wr ((2 : Nat) : Int)))
    clear hV hB z0 z1 hI hcv
    go_wp2_with fail
    refine D1.out.mono ?_
    rintro e w3 ⟨q, t, rfl, hq, ht, b3⟩
    have HQ := Lib.hid hq
    have HB3 := Lib.hid (bt HBr.out b3)
    obtain ⟨aq, nq, cq, rfl⟩ := hq.shape
    obtain ⟨at0, nt, ct, rfl⟩ := ht.shape
    clear hq ht b3 D1 HBr hcell hc2
    go_wp2
    go_roundg (A / 2)
    case measure => omega
    case rel => exact ⟨A / 2, k + 1, rfl, by omega, by omega, by go_num, hI2, HQ, HB3⟩
   ·have hc2 : (c : Int) % 2 = 1 := by omega
    have O1 := Lib.hid (out_x hV.out (sm_one hAG))
    have h2 := hI.out
    rw [twosN_odd (by omega : A % 2 = 1), oddN_odd (by omega : A % 2 = 1)] at h2
    have HBB := Lib.hid hB.out
    have HE : Hid (twosN (n - 1) = k ∧ oddN (n - 1) = A) := ⟨by omega, h2.2.symm⟩
    clear hV hB z0 z1 hI hcv h2
    go_wp2_with fail
    refine O1.out.mono ?_
    rintro e w3 ⟨rfl, b3⟩
    have bb := bt HBB.out b3
    clear O1 HBB b3 hcell hc2
    go_wp2
    go_ret2
    exact ⟨by rw [HE.out.1, HE.out.2] <;> rfl, bb⟩
end Go.Proofs.YtdajgcgliidjbaaGreat
namespace Go.Proofs.YtdajgcgliidjbaaGreat
open Go.RowKit
theorem root_start {a n : Nat} (pp : PrimeP n) (hs : symN a n = 1) :
  1 ≤ twosN (n - 1) ∧ twosN (n - 1) < n ∧ oddN (n - 1) < n ∧ TS n a (a ^ ((oddN (n - 1) + 1) / 2) % n) (a ^ oddN (n - 1) % n) (nosqN n ^ oddN (n - 1) % n) (twosN (n - 1)) := by
 have h3 := pp.ge
 have hodd := pp.prm.odd h3
 obtain ⟨e1, e2⟩ := twos_all (n - 1) (by omega)
 have h1 : 1 ≤ twosN (n - 1) := by rw [twosN_even (by omega) (by omega)]; omega
 have h0 : ¬ n ∣ a := fun h => by have := (symN_zero (a := a) pp.prm h3).2 h; rw [this] at hs; cases hs
 have ha1 : a ^ ((n - 1) / 2) % n = 1 := by
  rcases symN_cases pp.prm h3 h0 with h | h
  ·exact h.2
  ·rw [h.1] at hs; cases hs
 obtain ⟨_, _, m3, _⟩ := nosqN_spec pp
 have hm0 : ¬ n ∣ nosqN n := fun h => by have := (symN_zero (a := nosqN n) pp.prm h3).2 h; rw [this] at m3; cases m3
 have hm1 : nosqN n ^ ((n - 1) / 2) % n = n - 1 := by
  rcases symN_cases pp.prm h3 hm0 with h | h
  ·rw [h.1] at m3; cases m3
  ·exact h.2
 have hlt : twosN (n - 1) < 2 ^ twosN (n - 1) := Nat.lt_two_pow_self
 have hpos : 0 < oddN (n - 1) := by omega
 have hle : 2 ^ twosN (n - 1) ≤ n - 1 := by
  have : 2 ^ twosN (n - 1) * 1 ≤ 2 ^ twosN (n - 1) * oddN (n - 1) := Nat.mul_le_mul_left _ hpos
  omega
 have hle2 : oddN (n - 1) ≤ n - 1 := by
  have : 1 * oddN (n - 1) ≤ 2 ^ twosN (n - 1) * oddN (n - 1) := Nat.mul_le_mul_right _ (Nat.pow_pos (by omega))
  omega
 exact ⟨h1, by omega, by omega, (TS.start h1 e1 e2 ha1 hm1).mod⟩
structure SqRel (n b m v : Nat) : Prop where
 val : v = b ^ (2 ^ m) % n
 no : ∀ j, j < m → b ^ (2 ^ j) % n ≠ 1
theorem SqRel.start {n b : Nat} (h : b < n) : SqRel n b 0 b := ⟨by rw [Nat.pow_zero, Nat.pow_one, Nat.mod_eq_of_lt h], fun j hj => by omega⟩
theorem SqRel.next {n b m v : Nat} (h : SqRel n b m v) (hv : v ≠ 1) : SqRel n b (m + 1) (v * v % n) := by
 refine ⟨?_, fun j hj => ?_⟩
 ·have e := pow_two_up b (m + 1) (by omega)
  rw [Nat.add_sub_cancel] at e
  rw [h.val, ← Nat.mul_mod, e]
 ·rcases Nat.lt_or_ge j m with h1 | h1
  ·exact h.no j h1
  ·obtain rfl : j = m := by omega
   rw [← h.val]; exact hv
theorem SqRel.lt {n a x b g t m v : Nat} (h : SqRel n b m v) (s : TS n a x b g t) : m < t := by
 rcases Nat.lt_or_ge m t with h1 | h1
 ·exact h1
 ·exact absurd s.one (h.no (t - 1) (by have := s.pos; omega))
theorem ts_step {n a x b g t m : Nat} (hp : Prm n) (h : TS n a x b g t) (h1 : 1 ≤ m) (hm : m < t) (sq : SqRel n b m 1) {G : Nat} (hG : G = g ^ (2 ^ (t - m - 1)) % n) :
  TS n a (x * G % n) (b * (G * G % n) % n) (G * G % n) m := by
 have e1 : b ^ (2 ^ m) % n = 1 := sq.val.symm
 have e2 := sq.no (m - 1) (by omega)
 have k := (TS.next hp h h1 hm e1 e2).mod
 obtain ⟨y, hy⟩ : ∃ y, g ^ (2 ^ (t - m - 1)) = y := ⟨_, rfl⟩
 rw [hy] at k hG
 have E1 : x * G % n = x * y % n := by rw [hG, Nat.mul_mod_mod]
 have E2 : G * G % n = y * y % n := by rw [hG, ← Nat.mul_mod]
 have E3 : b * (G * G % n) % n = b * (y * y) % n := by rw [E2, Nat.mul_mod_mod]
 rw [E1, E3, E2]
 exact k
theorem sq_up {n g G i : Nat} (h : G = g ^ (2 ^ i) % n) : G * G % n = g ^ (2 ^ (i + 1)) % n := by
 have e := pow_two_up g (i + 1) (by omega)
 rw [Nat.add_sub_cancel] at e
 rw [h, ← Nat.mul_mod, e]
def RootPost (a p : ByteArray) (w : World) (e : Ending) (w' : World) : Prop := e = .returned (.tuple #[.string (rootG a p), .bool (rootB a p)]) ∧ Below w.heap.size w w'
theorem greater_any (a p : ByteArray) (w : World) : Calls Tryz.prog 45 #[.string a, .string p] w fun e w' => e = .returned (.bool (greaterB a p)) ∧ Below w.heap.size w w' := by
 have HM := Lib.hid (mod_any p)
 have HR := Lib.hid (restOk_any a p)
 unfold greaterB oneB
 cases hm : modB p with
 | false =>
  rw [hm] at HM
  rw [Bool.false_and, Bool.false_and]
  go_enter Tryz.func45, Tryz.ntmps45
  go_wp2_with fail
  refine (HM.out _).mono ?_
  rintro e w1 ⟨rfl, rfl⟩
  go_wp2
  go_ret
  exact ⟨rfl, Below.refl _ _⟩
 | true =>
  rw [hm] at HM
  rw [Bool.true_and]
  cases hr : restB a p with
  | false =>
   rw [hr] at HR
   rw [Bool.false_and]
   go_enter Tryz.func45, Tryz.ntmps45
   go_wp2_with fail
   refine (HM.out _).mono ?_
   rintro e w1 ⟨rfl, rfl⟩
   go_wp2_with fail
   refine (HR.out _).mono ?_
   rintro e w1 ⟨rfl, b1⟩
   go_wp2
   go_ret
   exact ⟨rfl, b1⟩
  | true =>
   rw [hr] at HR
   rw [Bool.true_and]
   have HN := Lib.hid (negRest_any a p)
   have HC := Lib.hid (compareGreat_any a (negR a p))
   obtain ⟨okp, h1⟩ := modB_parts hm
   obtain ⟨oka, _, hap⟩ := restB_parts hr
   have EN : negR a p = gS ((0 + gV p - gV a) % gV p) := by
    unfold negR subR twoB
    rw [hm, hr, show restB ⟨#[]⟩ p = true from by unfold restB; rw [okp, show okG ⟨#[]⟩ = true from rfl, show gV ⟨#[]⟩ = 0 from rfl, decide_eq_true (by omega)]; rfl]
    rfl
   have EC : decide (0 < cmpG a (negR a p)) = decide ((0 + gV p - gV a) % gV p < gV a) := by
    rw [EN]
    unfold cmpG okT
    rw [oka, okS (Nat.lt_trans (Nat.mod_lt _ (by omega)) (gV_lt okp)), Bool.and_self, if_pos rfl, gV_gS, Bool.eq_iff_iff]
    simp only [decide_eq_true_eq]
    unfold cmpI
    split
    ·omega
    ·split <;> omega
   rw [← EC]
   generalize negR a p = ng at *
   generalize cmpG a ng = kk at *
   clear hm hr okp h1 oka hap EN EC
   go_enter Tryz.func45, Tryz.ntmps45
   go_wp2_with fail
   refine (HM.out _).mono ?_
   rintro e w1 ⟨rfl, rfl⟩
   go_wp2_with fail
   refine (HR.out _).mono ?_
   rintro e w1 ⟨rfl, b1⟩
   go_wp2_with fail
   refine (HN.out _).mono ?_
   rintro e w2 ⟨rfl, b2⟩
   go_wp2_with fail
   refine (HC.out _).mono ?_
   rintro e w3 ⟨rfl, b3⟩
   have bb := bt (bt b1 b2) b3
   clear b1 b2 b3
   go_wp2
   go_ret
   exact ⟨rfl, bb⟩
end Go.Proofs.YtdajgcgliidjbaaGreat

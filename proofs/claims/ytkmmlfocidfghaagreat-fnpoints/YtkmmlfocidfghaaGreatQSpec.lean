import Derived.Test.YtkmmlfocidfghaaGreatQMath
import Derived.Deep.LoopGhost
/-
  The contracts of spec's functions of chapter 6, first part: primes, symbols, twos, what is no square.
-/
namespace Go.Proofs.YtkmmlfocidfghaaGreat
open Go.RowKit
set_option maxRecDepth 8000 in
set_option maxHeartbeats 1000000 in
theorem small_any (n : Nat) (hn : n < 10000) (w : World) : Calls Tryz.prog 134 #[.int .i64 (n : Int)] w fun e w' => e = .returned (.bool (smallB n)) ∧ w = w' := by
  by_cases h3 : n < 3
  · have d : decide ((n : Int) < 3) = true := by simp; omega
    have h3' : (n : Int) < 3 := by omega
    rw [smallB_less (.inl h3)]
    go_enter Tryz.func134, Tryz.ntmps134
    go_wp2
    go_ret
    exact ⟨rfl, rfl⟩
  have h3' : ¬ (n : Int) < 3 := by omega
  have d3 : decide ((n : Int) < 3) = false := by simp; omega
  by_cases he : n % 2 = 0
  · have e1 : (n : Int) % 2 = 0 := by omega
    have e2 : ((n : Int) % 2 == 0) = true := by simpa using e1
    rw [smallB_less (.inr he)]
    clear he
    go_enter Tryz.func134, Tryz.ntmps134
    go_wp2
    go_ret
    exact ⟨rfl, rfl⟩
  have e1 : (n : Int) % 2 = 1 := by omega
  have e2 : ((n : Int) % 2 == 0) = false := by rw [e1]; rfl
  have HN := Lib.hid (fun k (h3 : 3 ≤ k) (ho : k % 2 = 1) (hk : k * k ≤ n) (hd : n % k = 0) => smallB_no hn h3 ho hk hd)
  have HY := Lib.hid (fun k (hk : n < k * k) (h : ∀ j, 3 ≤ j → j % 2 = 1 → j < k → n % j ≠ 0) => smallB_yes (by omega : 3 ≤ n) (by omega) hk h)
  clear he
  go_enter Tryz.func134, Tryz.ntmps134
  go_wp2
  clear e1 e2 d3
  go_loop [3] (fun kv => ∃ k : Nat, 3 ≤ k ∧ k % 2 = 1 ∧ k ≤ 101 ∧ kv = .int .i64 (k : Int) ∧ Hid (∀ j, 3 ≤ j → j % 2 = 1 → j < k → n % j ≠ 0)) (fun kv => 200 - (intOf kv).toNat)
  case atStart => exact ⟨3, by omega, by omega, by omega, rfl, fun j h1 h2 h3 => by omega⟩
  case round =>
    obtain ⟨k, k3, ko, k101, rfl, hI⟩ := hrel
    obtain ⟨q, hq⟩ : ∃ q, k * k = q := ⟨_, rfl⟩
    have hqI : (k : Int) * (k : Int) = (q : Int) := by rw [← hq]; simp
    have hq2 : q ≤ 101 * 101 := by rw [← hq]; exact Nat.mul_le_mul k101 k101
    by_cases hle : q ≤ n
    · have hle' : (q : Int) ≤ (n : Int) := by omega
      have hk100 : k < 100 := by
        rcases Nat.lt_or_ge k 100 with h | h
        · exact h
        · have : 100 * 100 ≤ k * k := Nat.mul_le_mul h h; omega
      have k0 : ((k : Int) == 0) = false := by simp; omega
      have k0' : ¬ (k : Int) = 0 := by omega
      by_cases hd : n % k = 0
      · have hd' : (n : Int) % (k : Int) = 0 := by exact_mod_cast hd
        have hd2 : ((n : Int) % (k : Int) == 0) = true := by simpa using hd'
        have E := Lib.hid (HN.out k k3 ko (by omega) hd)
        clear HN HY hI hd hq
        go_wp2
        go_ret
        exact ⟨by rw [E.out]; rfl, rfl⟩
      · have hd' : ¬ (n : Int) % (k : Int) = 0 := by exact_mod_cast hd
        have hd2 : ((n : Int) % (k : Int) == 0) = false := by simpa using hd'
        have hI2 : Hid (∀ j, 3 ≤ j → j % 2 = 1 → j < k + 2 → n % j ≠ 0) := fun j h1 h2 h3 => by
          rcases Nat.lt_or_ge j k with h | h
          · exact hI.out j h1 h2 h
          · obtain rfl : j = k := by omega
            exact hd
        clear hI hq hd
        go_wp2
        go_round
        case rel => exact ⟨k + 2, by omega, by omega, by omega, by go_num, hI2⟩
        case measure => simp [intOf]; omega
    · have hle' : ¬ (q : Int) ≤ (n : Int) := by omega
      have E := Lib.hid (HY.out k (by omega) hI.out)
      clear HN HY hI hq
      go_wp2
      go_ret
      exact ⟨by rw [E.out]; rfl, rfl⟩
/-! l06Less, l06Symbol -/
theorem below_one (w : World) (k : Int) : Below w.heap.size w (w.alloc (.cells #[.int .i64 k] 3)) := (Below.refl _ _).alloc (Nat.le_refl _) _
set_option maxRecDepth 8000 in
set_option maxHeartbeats 1000000 in
theorem less_x {w : World} {p : Value} {n : Nat} (r : RowX w p n) (hn : n < SM) (h1 : 1 ≤ n) : Calls Tryz.prog 135 #[p] w (RowTwo (n - 1) ((n - 1) / 2) w) := by
  have S1 := Lib.hid (sub_x (r.below (below_one w ((1 : Nat) : Int))) (row_one w 1 (by omega) (by omega)) hn h1)
  obtain ⟨ap, np, cp, rfl⟩ := r.shape
  clear r
  go_enter Tryz.func135, Tryz.ntmps135
  go_wp2_with fail
  refine S1.out.mono ?_
  rintro e w1 ⟨v, rfl, hv, b1⟩
  have D1 := Lib.hid (div_x (hv.below (below_one w1 ((2 : Nat) : Int))) (row_one w1 2 (by omega) (by omega)) (by omega) (by omega))
  have HB1 := Lib.hid (bt (below_one w ((1 : Nat) : Int)) b1)
  have HV := Lib.hid (hv.below (below_one w1 ((2 : Nat) : Int)))
  obtain ⟨av, nv, cv, rfl⟩ := hv.shape
  clear hv b1 S1
  go_wp2_with fail
  refine D1.out.mono ?_
  rintro e w2 ⟨q, t, rfl, hq, ht, b2⟩
  have HV2 := Lib.hid (HV.out.below b2)
  have HQ := Lib.hid hq
  have HB2 := Lib.hid (bt (bt HB1.out (below_one w1 ((2 : Nat) : Int))) b2)
  obtain ⟨aq, nq, cq, rfl⟩ := hq.shape
  obtain ⟨at0, nt, ct, rfl⟩ := ht.shape
  clear hq ht b2 D1 HV HB1
  go_wp2
  go_ret2
  exact ⟨_, _, rfl, HV2.out, HQ.out, HB2.out⟩
def SymPost (s : Int) (w : World) (e : Ending) (w' : World) : Prop := e = .returned (.int .i64 s) ∧ Below w.heap.size w w'
theorem half_lt {n : Nat} (h : n < GB) : (n - 1) / 2 < GB := by omega
set_option maxRecDepth 8000 in
set_option maxHeartbeats 2000000 in
theorem symbol_x {w : World} {u p : Value} {a n : Nat} (h : RowX w u a) (r : RowX w p n) (ha : a < GB) (hn : n < GB) (h1 : 1 ≤ n) : Calls Tryz.prog 108 #[u, p] w (SymPost (symN a n) w) := by
  have L1 := Lib.hid (less_x r (sm_one hn) h1)
  have HU := Lib.hid h
  have HP := Lib.hid r
  obtain ⟨au, nu, cu, rfl⟩ := h.shape
  obtain ⟨ap, np, cp, rfl⟩ := r.shape
  clear h r
  go_enter Tryz.func108, Tryz.ntmps108
  go_wp2_with fail
  refine L1.out.mono ?_
  rintro e w1 ⟨v, q, rfl, hv, hq, b1⟩
  have O1 := Lib.hid (out_x hq (sm_one (half_lt hn)))
  have HB1 := Lib.hid b1
  obtain ⟨av, nv, cv, rfl⟩ := hv.shape
  obtain ⟨aq, nq, cq, rfl⟩ := hq.shape
  clear hv hq b1 L1
  go_wp2_with fail
  refine O1.out.mono ?_
  rintro e w2 ⟨rfl, b2⟩
  have hB2 := bt HB1.out b2
  have P1 := Lib.hid (lpow_x (gS ((n - 1) / 2)) (HU.out.below hB2) (HP.out.below hB2) (okS (half_lt hn)) ha hn (by omega))
  rw [gV_gS] at P1
  have HB2 := Lib.hid hB2
  clear b2 hB2 O1 HB1
  generalize gS ((n - 1) / 2) = hs at *
  go_wp2_with fail
  refine P1.out.mono ?_
  rintro e w3 ⟨x, rfl, hx, b3⟩
  have HB3 := Lib.hid (bt HB2.out b3)
  obtain ⟨X, hX⟩ : ∃ X, a ^ ((n - 1) / 2) % n = X := ⟨_, rfl⟩
  rw [hX] at hx
  have E0 : Hid (X = 0 → symN a n = 0) := fun h => by unfold symN; rw [hX, if_pos h]
  have E1 : Hid (X = 1 → symN a n = 1) := fun h => by unfold symN; rw [hX, if_neg (by omega), if_pos h]
  have E2 : Hid (X ≠ 0 → X ≠ 1 → symN a n = -1) := fun h h' => by unfold symN; rw [hX, if_neg h, if_neg h']
  obtain ⟨ax, nx, cx, rfl, z0, z1, z2, _⟩ := hx.form
  clear hX hx b3 P1 HB2
  by_cases hX0 : X = 0
  · have hn0 : nx = 0 := z0.2 hX0
    subst hn0
    have HE := Lib.hid (E0.out hX0)
    clear z0 z1 z2 hX0 E0 E1 E2
    go_wp2
    go_ret
    exact ⟨ret_int HE.out.symm, HB3.out⟩
  · have hn0 : 0 < nx := Nat.pos_of_ne_zero fun e => hX0 (z0.1 e)
    obtain ⟨g, c, rfl, hcell, hcv⟩ := z1 hn0
    have k0 : ((nx : Int) == 0) = false := by simp; omega
    by_cases hn1 : nx = 1
    · subst hn1
      have hlt := (z2.1 rfl).2
      rw [Nat.mod_eq_of_lt hlt] at hcv
      subst hcv
      by_cases h1' : c = 1
      · have hc1 : ((c : Int) == 1) = true := by rw [h1']; rfl
        have HE := Lib.hid (E1.out h1')
        clear z0 z1 z2 hX0 h1' E0 E1 E2
        go_wp2
        go_ret
        exact ⟨ret_int HE.out.symm, HB3.out⟩
      · have hc1 : ((c : Int) == 1) = false := by simp; omega
        have HE := Lib.hid (E2.out hX0 h1')
        clear z0 z1 z2 hX0 h1' E0 E1 E2
        go_wp2
        go_ret
        exact ⟨ret_int HE.out.symm, HB3.out⟩
    · have k1 : ((nx : Int) == 1) = false := by simp; omega
      have h1' : X ≠ 1 := fun e => hn1 (z2.2 (by omega))
      have HE := Lib.hid (E2.out hX0 h1')
      clear z0 z1 z2 hX0 h1' hn1 E0 E1 E2
      go_wp2
      go_ret
      exact ⟨ret_int HE.out.symm, HB3.out⟩
end Go.Proofs.YtkmmlfocidfghaaGreat
/-
  The contracts of spec's functions of chapter 6, second part: PrimeOk, SymbolOf, TwosIn, NoSquare, Greater.
-/
namespace Go.Proofs.YtkmmlfocidfghaaGreat
open Go.RowKit
def cvPk (k : Nat) : ByteArray := if k = 1 then cvP1 else if k = 2 then cvP2 else if k = 3 then cvP3 else cvP4
def cvRk (k : Nat) : ByteArray := if k = 1 then cvR1 else if k = 2 then cvR2 else if k = 3 then cvR3 else cvR4
theorem cvC_at {k : Nat} (h1 : 1 ≤ k) (h4 : k ≤ 4) : (cvC (k : Int))[1]? = some (.string (cvPk k)) ∧ (cvC (k : Int))[2]? = some (.string (cvRk k)) := by
  rcases (by omega : k = 1 ∨ k = 2 ∨ k = 3 ∨ k = 4) with rfl | rfl | rfl | rfl <;> exact ⟨rfl, rfl⟩
def curveAt (p : ByteArray) (k : Nat) : Bool := sameT p (cvPk k) || sameT p (cvRk k)
theorem curvePB_at (p : ByteArray) : curvePB p = ((curveAt p 1 || curveAt p 2) || (curveAt p 3 || curveAt p 4)) := rfl
theorem curvePB_yes {p : ByteArray} {k : Nat} (h1 : 1 ≤ k) (h4 : k ≤ 4) (h : curveAt p k = true) : curvePB p = true := by
  rw [curvePB_at]
  rcases (by omega : k = 1 ∨ k = 2 ∨ k = 3 ∨ k = 4) with rfl | rfl | rfl | rfl <;> rw [h] <;> simp
theorem curvePB_no {p : ByteArray} (h : ∀ k, 1 ≤ k → k < 5 → curveAt p k = false) : curvePB p = false := by
  rw [curvePB_at, h 1 (by omega) (by omega), h 2 (by omega) (by omega), h 3 (by omega) (by omega), h 4 (by omega) (by omega)]; rfl
set_option maxRecDepth 8000 in
set_option maxHeartbeats 2000000 in
theorem primeOk_any (p : ByteArray) (w : World) : Calls Tryz.prog 107 #[.string p] w fun e w' => e = .returned (.bool (primeB p)) ∧ Below w.heap.size w w' := by
  have HG := Lib.hid (greatInt_any p)
  unfold IntPost at HG
  unfold primeB
  cases ht : (okG p && decide (gV p < 10000)) with
  | true =>
    rw [if_pos rfl]
    simp only [Bool.and_eq_true, decide_eq_true_eq] at ht
    have hB : intB p = true := by unfold intB; rw [ht.1, decide_eq_true (by omega)]; rfl
    have hI : intG p = (gV p : Int) := by unfold intG; rw [hB]; rfl
    rw [hB, hI] at HG
    have HS := Lib.hid (small_any (gV p) ht.2)
    have hlt : (gV p : Int) < 10000 := by omega
    generalize gV p = n at *
    generalize smallB n = sb at *
    clear hB hI ht
    go_enter Tryz.func107, Tryz.ntmps107
    go_wp2_with fail
    refine (HG.out _).mono ?_
    rintro e w1 ⟨rfl, rfl⟩
    go_wp2_with fail
    refine (HS.out _).mono ?_
    rintro e w1 ⟨rfl, rfl⟩
    go_wp2
    go_ret
    exact ⟨rfl, Below.refl _ _⟩
  | false =>
    rw [if_neg (by decide)]
    have hcase : intB p = false ∨ (intB p = true ∧ ¬ intG p < 10000) := by
      cases hb : intB p with
      | false => exact .inl rfl
      | true =>
        refine .inr ⟨rfl, ?_⟩
        have hok : okG p = true := by unfold intB at hb; simp only [Bool.and_eq_true] at hb; exact hb.1
        have hI : intG p = (gV p : Int) := by unfold intG; rw [hb]; rfl
        rw [hok, Bool.true_and, decide_eq_false_iff_not] at ht
        rw [hI]; omega
    have HYes := Lib.hid (fun k h1 h4 (h : curveAt p k = true) => curvePB_yes (p := p) (k := k) h1 h4 h)
    have HNo := Lib.hid (fun h => curvePB_no (p := p) h)
    generalize curvePB p = cb at *
    generalize intG p = iv at *
    generalize intB p = ib at *
    clear ht
    rcases hcase with rfl | ⟨rfl, hge⟩
    all_goals (
      go_enter Tryz.func107, Tryz.ntmps107
      go_wp2_with fail
      refine (HG.out _).mono ?_
      rintro e w1 ⟨rfl, rfl⟩
      clear HG
      go_wp2
      go_loopw [5] (fun kv wr => ∃ (k : Nat), 1 ≤ k ∧ k ≤ 5 ∧ kv = .int .i64 (k : Int) ∧ Hid (∀ j, 1 ≤ j → j < k → curveAt p j = false) ∧ Hid (Below w.heap.size w wr)) (fun kv _ => 10 - (intOf kv).toNat)
      case atStart => exact ⟨1, by omega, by omega, rfl, fun j h1 h2 => by omega, Below.refl _ _⟩
      case round =>
        obtain ⟨k, k1, k5, rfl, hI, hB⟩ := hrel
        by_cases hk : k ≤ 4
        · have hk' : (k : Int) ≤ 4 := by omega
          have HC := Lib.hid (curveOf_any (k : Int))
          have HS := Lib.hid (And.intro (cvC_size (k : Int)) (cvC_one (k : Int)))
          have HA := Lib.hid (cvC_at k1 hk)
          generalize cvC (k : Int) = C at *
          generalize cvB (k : Int) = cbk at *
          go_wp2_with fail
          refine (HC.out _).mono ?_
          rintro e w2 ⟨rfl, b2⟩
          have V := Lib.hid (cv_var w2 C HS.out.1)
          have c1 := (cell_of_row _ w2.heap.size 1 _ _ _ V.out.2.1).trans HA.out.1
          have c2 := (cell_of_row _ w2.heap.size 2 _ _ _ V.out.2.1).trans HA.out.2
          have HB2 := Lib.hid (bt (bt hB.out b2) V.out.2.2.1)
          have hct : curveAt p k = (sameT p (cvPk k) || sameT p (cvRk k)) := rfl
          have HCT := Lib.hid hct
          clear b2 hB HC hct
          generalize cvPk k = cP at *
          generalize cvRk k = cR at *
          cases h1 : (p.toList == cP.toList) with
          | true =>
            have HE := Lib.hid (HYes.out k k1 hk (by rw [HCT.out]; unfold sameT; rw [h1]; rfl))
            clear HYes HNo hI
            go_wp2_with (first | refine cv_store rfl (.tmp 6) (.tmp 27) rfl w2.heap.size cv0 C rfl rfl V.out.1 rfl HS.out.1 HS.out.2 ?_)
            generalize (World.setRow (World.alloc _ _) _ _) = w4 at *
            go_ret
            exact ⟨by rw [HE.out] <;> rfl, HB2.out⟩
          | false =>
            cases h2 : (p.toList == cR.toList) with
            | true =>
              have HE := Lib.hid (HYes.out k k1 hk (by rw [HCT.out]; unfold sameT; rw [h1, h2]; rfl))
              clear HYes HNo hI
              go_wp2_with (first | refine cv_store rfl (.tmp 6) (.tmp 27) rfl w2.heap.size cv0 C rfl rfl V.out.1 rfl HS.out.1 HS.out.2 ?_)
              generalize (World.setRow (World.alloc _ _) _ _) = w4 at *
              go_ret
              exact ⟨by rw [HE.out] <;> rfl, HB2.out⟩
            | false =>
              have hI2 : Hid (∀ j, 1 ≤ j → j < k + 1 → curveAt p j = false) := fun j j1 j2 => by
                rcases Nat.lt_or_ge j k with h | h
                · exact hI.out j j1 h
                · obtain rfl : j = k := by omega
                  rw [HCT.out]; unfold sameT; rw [h1, h2]; rfl
              clear HYes HNo hI HCT
              go_wp2_with (first | refine cv_store rfl (.tmp 6) (.tmp 27) rfl w2.heap.size cv0 C rfl rfl V.out.1 rfl HS.out.1 HS.out.2 ?_)
              generalize (World.setRow (World.alloc _ _) _ _) = w4 at *
              go_roundw
              case rel => exact ⟨k + 1, by omega, by omega, by go_num, hI2, HB2⟩
              case measure => simp [intOf]; omega
        · obtain rfl : k = 5 := by omega
          have hk' : ¬ (((5 : Nat) : Int)) ≤ 4 := by omega
          have HE := Lib.hid (HNo.out (fun j h1 h2 => hI.out j h1 h2))
          go_wp2
          go_ret
          exact ⟨by rw [HE.out] <;> rfl, hB.out⟩)
set_option maxRecDepth 8000 in
set_option maxHeartbeats 2000000 in
theorem symbolOf_any (a p : ByteArray) (w : World) : Calls Tryz.prog 75 #[.string a, .string p] w (SymPost (symG a p) w) := by
  have HP := Lib.hid (primeOk_any p)
  have HR := Lib.hid (restOk_any a p)
  unfold symG
  cases hp : primeB p with
  | false =>
    rw [hp] at HP
    rw [Bool.false_and, if_neg (by decide)]
    go_enter Tryz.func75, Tryz.ntmps75
    go_wp2_with fail
    refine (HP.out _).mono ?_
    rintro e w1 ⟨rfl, b1⟩
    go_wp2
    go_ret
    exact ⟨rfl, b1⟩
  | true =>
    rw [hp] at HP
    rw [Bool.true_and]
    cases hr : restB a p with
    | false =>
      rw [hr] at HR
      rw [if_neg (by decide)]
      go_enter Tryz.func75, Tryz.ntmps75
      go_wp2_with fail
      refine (HP.out _).mono ?_
      rintro e w1 ⟨rfl, b1⟩
      go_wp2_with fail
      refine (HR.out _).mono ?_
      rintro e w2 ⟨rfl, b2⟩
      have bb := bt b1 b2
      clear b1 b2
      go_wp2
      go_ret
      exact ⟨rfl, bb⟩
    | true =>
      rw [hr] at HR
      rw [if_pos rfl]
      obtain ⟨okp, pp⟩ := primeB_p hp
      obtain ⟨oka, _, hap⟩ := restB_parts hr
      have sa := okG_size oka
      have sp := okG_size okp
      have hpG := gV_lt okp
      have h3 := pp.ge
      have IA := Lib.hid (fun w => in_x a w (by omega))
      have IP := Lib.hid (fun w => in_x p w (by omega))
      generalize gV a = x at *
      generalize gV p = n at *
      clear hp hr okp oka pp
      go_enter Tryz.func75, Tryz.ntmps75
      go_wp2_with fail
      refine (HP.out _).mono ?_
      rintro e w1 ⟨rfl, b1⟩
      go_wp2_with fail
      refine (HR.out _).mono ?_
      rintro e w2 ⟨rfl, b2⟩
      go_wp2_with fail
      refine (IA.out _).mono ?_
      rintro e w3 ⟨u, rfl, hu, b3⟩
      obtain ⟨au, nu, cu, rfl⟩ := hu.shape
      have HU := Lib.hid hu
      clear hu
      go_wp2_with fail
      refine (IP.out _).mono ?_
      rintro e w4 ⟨q, rfl, hq, b4⟩
      obtain ⟨aq, nq, cq, rfl⟩ := hq.shape
      have S1 := Lib.hid (symbol_x (HU.out.below b4) hq (by omega) hpG (by omega))
      have HB4 := Lib.hid (bt (bt (bt b1 b2) b3) b4)
      clear hq HU b1 b2 b3 b4 HP HR IA IP
      go_wp2_with fail
      refine S1.out.mono ?_
      rintro e w5 ⟨rfl, b5⟩
      have bb := bt HB4.out b5
      generalize symN x n = sv at *
      clear S1 HB4 b5
      go_wp2
      go_ret
      exact ⟨rfl, bb⟩
/-! TwosIn -/
theorem twos_1280 {n : Nat} (h : n < GB) (h1 : 1 < n) : twosN (n - 1) < 1280 := by
  obtain ⟨K, hK⟩ : ∃ K, K = 8 * 160 := ⟨_, rfl⟩
  have e2 : (2 : Nat) ^ K = (2 ^ 8) ^ 160 := (congrArg (fun k => (2 : Nat) ^ k) hK).trans (Nat.pow_mul 2 8 160)
  have h2 : n < 2 ^ K := by rw [e2]; exact h
  have := twosN_lt (n := n - 1) (k := K) (by omega) (by omega)
  omega
def TwosPost (p : ByteArray) (w : World) (e : Ending) (w' : World) : Prop := e = .returned (.tuple #[.int .i64 (twosG p : Int), .string (oddG p)]) ∧ Below w.heap.size w w'
set_option maxRecDepth 8000 in
set_option maxHeartbeats 2000000 in
theorem twosIn_any (p : ByteArray) (w : World) : Calls Tryz.prog 109 #[.string p] w (TwosPost p w) := by
  have HM := Lib.hid (mod_any p)
  unfold TwosPost twosG oddG
  cases hm : modB p with
  | false =>
    rw [hm] at HM
    rw [if_neg (by decide), if_neg (by decide)]
    go_enter Tryz.func109, Tryz.ntmps109
    go_wp2_with fail
    refine (HM.out _).mono ?_
    rintro e w1 ⟨rfl, rfl⟩
    go_wp2
    go_ret2
    exact ⟨rfl, Below.refl _ _⟩
  | true =>
    rw [hm] at HM
    rw [if_pos rfl, if_pos rfl]
    obtain ⟨okp, h1⟩ := modB_parts hm
    have sp := okG_size okp
    have hpG := gV_lt okp
    have IP := Lib.hid (fun w => in_x p w (by omega))
    have htw := twos_1280 hpG h1
    obtain ⟨n, hn⟩ : ∃ n, gV p = n := ⟨_, rfl⟩
    rw [hn] at IP h1 hpG htw ⊢
    clear hm okp hn sp
    go_enter Tryz.func109, Tryz.ntmps109
    go_wp2_with fail
    refine (HM.out _).mono ?_
    rintro e w1 ⟨rfl, rfl⟩
    clear HM
    go_wp2_with fail
    refine (IP.out _).mono ?_
    rintro e w1 ⟨q, rfl, hq, b1⟩
    have S1 := Lib.hid (sub_x (hq.below (below_one w1 ((1 : Nat) : Int))) (row_one w1 1 (by omega) (by omega)) (sm_one hpG) (by omega))
    obtain ⟨aq, nq, cq, rfl⟩ := hq.shape
    have HB1 := Lib.hid (bt b1 (below_one w1 ((1 : Nat) : Int)))
    clear hq b1 IP
    go_wp2_with fail
    refine S1.out.mono ?_
    rintro e w2 ⟨v, rfl, hv, b2⟩
    have HB2 := Lib.hid (bt HB1.out b2)
    have HV := Lib.hid hv
    obtain ⟨av, nv, cv, rfl⟩ := hv.shape
    clear hv b2 HB1 S1
    go_wp2
    go_loopg [4, 5] (n - 1) (fun gh v kv wr => ∃ (A k : Nat), A = gh ∧ 0 < A ∧ A < GB ∧ kv = .int .i64 (k : Int) ∧ Hid (k + twosN A = twosN (n - 1) ∧ oddN A = oddN (n - 1)) ∧ Hid (RowX wr v A) ∧ Hid (Below w.heap.size w wr))
    case atStart => exact ⟨n - 1, 0, rfl, by omega, by omega, rfl, ⟨by omega, rfl⟩, HV, HB2⟩
    case round =>
      clear HV HB2
      obtain ⟨A, k, rfl, hA, hAG, rfl, hI, hV, hB⟩ := hrel
      obtain ⟨aA, nA, cA, rfl, z0, z1, _, _⟩ := hV.out.form
      have hnA : 0 < nA := Nat.pos_of_ne_zero fun e => by have := z0.1 e; omega
      obtain ⟨g, c, rfl, hcell, hcv⟩ := z1 hnA
      have k4 : (0 : Int) < (nA : Int) := by omega
      have hk : k < 1280 := by have := hI.out.1; omega
      by_cases he : A % 2 = 0
      · have hc2 : (c : Int) % 2 = 0 := by omega
        have hI2 : Hid (k + 1 + twosN (A / 2) = twosN (n - 1) ∧ oddN (A / 2) = oddN (n - 1)) := by
          have h2 := hI.out
          rw [twosN_even hA he, oddN_even hA he] at h2
          exact ⟨by omega, h2.2⟩
        have D1 := Lib.hid (div_x (hV.out.below (below_one wr ((2 : Nat) : Int))) (row_one wr 2 (by omega) (by omega)) (sm_one hAG) (by omega))
        have HBr := Lib.hid (bt hB.out (below_one wr ((2 : Nat) : Int)))
        clear hV hB z0 z1 hI hcv
        go_wp2_with fail
        refine D1.out.mono ?_
        rintro e w3 ⟨q, t, rfl, hq, ht, b3⟩
        have HQ := Lib.hid hq
        have HB3 := Lib.hid (bt HBr.out b3)
        obtain ⟨aq, nq, cq, rfl⟩ := hq.shape
        obtain ⟨at0, nt, ct, rfl⟩ := ht.shape
        clear hq ht b3 D1 HBr hcell hc2
        go_wp2
        go_roundg (A / 2)
        case measure => omega
        case rel => exact ⟨A / 2, k + 1, rfl, by omega, by omega, by go_num, hI2, HQ, HB3⟩
      · have hc2 : (c : Int) % 2 = 1 := by omega
        have O1 := Lib.hid (out_x hV.out (sm_one hAG))
        have h2 := hI.out
        rw [twosN_odd (by omega : A % 2 = 1), oddN_odd (by omega : A % 2 = 1)] at h2
        have HBB := Lib.hid hB.out
        have HE : Hid (twosN (n - 1) = k ∧ oddN (n - 1) = A) := ⟨by omega, h2.2.symm⟩
        clear hV hB z0 z1 hI hcv h2
        go_wp2_with fail
        refine O1.out.mono ?_
        rintro e w3 ⟨rfl, b3⟩
        have bb := bt HBB.out b3
        clear O1 HBB b3 hcell hc2
        go_wp2
        go_ret2
        exact ⟨by rw [HE.out.1, HE.out.2] <;> rfl, bb⟩
set_option maxRecDepth 8000 in
set_option maxHeartbeats 2000000 in
theorem noSquare_any (p : ByteArray) (w : World) : Calls Tryz.prog 112 #[.string p] w fun e w' => e = .returned (.string (nosqG p)) ∧ Below w.heap.size w w' := by
  have HP := Lib.hid (primeOk_any p)
  unfold nosqG
  cases hp : primeB p with
  | false =>
    rw [hp] at HP
    rw [if_neg (by decide)]
    go_enter Tryz.func112, Tryz.ntmps112
    go_wp2_with fail
    refine (HP.out _).mono ?_
    rintro e w1 ⟨rfl, b1⟩
    go_wp2
    go_ret
    exact ⟨rfl, b1⟩
  | true =>
    rw [hp] at HP
    rw [if_pos rfl]
    obtain ⟨okp, pp⟩ := primeB_p hp
    have sp := okG_size okp
    have hpG := gV_lt okp
    have h3 := pp.ge
    obtain ⟨n1, n2, n3, n4⟩ := nosqN_spec pp
    have IP := Lib.hid (fun w => in_x p w (by omega))
    obtain ⟨n, hn⟩ : ∃ n, gV p = n := ⟨_, rfl⟩
    rw [hn] at IP hpG h3 n1 n2 n3 n4 ⊢
    obtain ⟨M, hM⟩ : ∃ M, nosqN n = M := ⟨_, rfl⟩
    rw [hM] at n1 n2 n3 n4 ⊢
    have HN := Lib.hid (And.intro n3 n4)
    clear hp okp pp sp hn hM n3 n4
    go_enter Tryz.func112, Tryz.ntmps112
    go_wp2_with fail
    refine (HP.out _).mono ?_
    rintro e w1 ⟨rfl, b1⟩
    clear HP
    go_wp2_with fail
    refine (IP.out _).mono ?_
    rintro e w2 ⟨q, rfl, hq, b2⟩
    have HQ := Lib.hid hq
    obtain ⟨aq, nq, cq, rfl⟩ := hq.shape
    have HB2 := Lib.hid (bt b1 b2)
    clear hq b1 b2 IP
    go_wp2
    go_loopw [4] (fun kv wr => ∃ (k : Nat), 2 ≤ k ∧ k ≤ M ∧ kv = .int .i64 (k : Int) ∧ Hid (RowX wr (.slice aq nq cq) n) ∧ Hid (Below w.heap.size w wr)) (fun kv _ => 100 - (intOf kv).toNat)
    case atStart => exact ⟨2, by omega, n1, rfl, HQ, HB2⟩
    case round =>
      clear HQ HB2
      obtain ⟨k, k2, kM, rfl, hQ, hB⟩ := hrel
      have S1 := Lib.hid (symbol_x (row_one wr k (by omega) (by omega)) (hQ.out.below (below_one wr (k : Int))) (Nat.lt_of_lt_of_le (show k < 256 ^ 1 by omega) (Nat.pow_le_pow_right (by omega) (by omega))) hpG (by omega))
      have hb := below_one wr (k : Int)
      have HB1 := Lib.hid (bt hB.out hb)
      have HQ1 := Lib.hid (hQ.out.below hb)
      clear hQ hB hb
      go_wp2_with fail
      refine S1.out.mono ?_
      rintro e w3 ⟨rfl, b3⟩
      have HB3 := Lib.hid (bt HB1.out b3)
      have HQ3 := Lib.hid (HQ1.out.below b3)
      clear b3 HB1 HQ1 S1
      by_cases hkM : k = M
      · subst hkM
        rw [HN.out.1]
        have G1 := Lib.hid (fun w => greatOf_any (k : Int) w (by omega))
        have hof : ofI (k : Int) = gS k := by unfold ofI gS; rw [Int.toNat_natCast]
        rw [hof] at G1
        clear hof
        go_wp2_with fail
        refine (G1.out _).mono ?_
        rintro e w4 ⟨rfl, b4⟩
        have bb := bt HB3.out b4
        clear G1 b4 HB3 HQ3
        go_wp2
        go_ret
        exact ⟨rfl, bb⟩
      · have hne : (symN k n == -1) = false := by
          have := HN.out.2 k k2 (by omega)
          simpa using this
        generalize symN k n = sv at *
        go_wp2
        go_roundw
        case rel => exact ⟨k + 1, by omega, by omega, by go_num, HQ3, HB3⟩
        case measure => simp [intOf]; omega
end Go.Proofs.YtkmmlfocidfghaaGreat
/-
  The contracts of spec's l06Root, l06Lesser, RootOf and Greater.
-/
namespace Go.Proofs.YtkmmlfocidfghaaGreat
open Go.RowKit
theorem modB_gS {n : Nat} (h : n < GB) (h1 : 1 < n) : modB (gS n) = true := by unfold modB; rw [okS h, gV_gS, decide_eq_true h1]; rfl
def RootTo (a n : Nat) (w : World) (e : Ending) (w' : World) : Prop := ∃ v x, e = .returned v ∧ RowX w' v x ∧ x < n ∧ x * x % n = a ∧ Below w.heap.size w w'
/-- What is needed of the numbers at the beginning. -/
theorem root_start {a n : Nat} (pp : PrimeP n) (hs : symN a n = 1) :
    1 ≤ twosN (n - 1) ∧ twosN (n - 1) < n ∧ oddN (n - 1) < n ∧ TS n a (a ^ ((oddN (n - 1) + 1) / 2) % n) (a ^ oddN (n - 1) % n) (nosqN n ^ oddN (n - 1) % n) (twosN (n - 1)) := by
  have h3 := pp.ge
  have hodd := pp.prm.odd h3
  obtain ⟨e1, e2⟩ := twos_all (n - 1) (by omega)
  have h1 : 1 ≤ twosN (n - 1) := by rw [twosN_even (by omega) (by omega)]; omega
  have h0 : ¬ n ∣ a := fun h => by have := (symN_zero (a := a) pp.prm h3).2 h; rw [this] at hs; cases hs
  have ha1 : a ^ ((n - 1) / 2) % n = 1 := by
    rcases symN_cases pp.prm h3 h0 with h | h
    · exact h.2
    · rw [h.1] at hs; cases hs
  obtain ⟨_, _, m3, _⟩ := nosqN_spec pp
  have hm0 : ¬ n ∣ nosqN n := fun h => by have := (symN_zero (a := nosqN n) pp.prm h3).2 h; rw [this] at m3; cases m3
  have hm1 : nosqN n ^ ((n - 1) / 2) % n = n - 1 := by
    rcases symN_cases pp.prm h3 hm0 with h | h
    · rw [h.1] at m3; cases m3
    · exact h.2
  have hlt : twosN (n - 1) < 2 ^ twosN (n - 1) := Nat.lt_two_pow_self
  have hpos : 0 < oddN (n - 1) := by omega
  have hle : 2 ^ twosN (n - 1) ≤ n - 1 := by
    have : 2 ^ twosN (n - 1) * 1 ≤ 2 ^ twosN (n - 1) * oddN (n - 1) := Nat.mul_le_mul_left _ hpos
    omega
  have hle2 : oddN (n - 1) ≤ n - 1 := by
    have : 1 * oddN (n - 1) ≤ 2 ^ twosN (n - 1) * oddN (n - 1) := Nat.mul_le_mul_right _ (Nat.pow_pos (by omega))
    omega
  exact ⟨h1, by omega, by omega, (TS.start h1 e1 e2 ha1 hm1).mod⟩
/-- The inner search: m squarings were no 1. -/
structure SqRel (n b m v : Nat) : Prop where
  val : v = b ^ (2 ^ m) % n
  no : ∀ j, j < m → b ^ (2 ^ j) % n ≠ 1
theorem SqRel.start {n b : Nat} (h : b < n) : SqRel n b 0 b := ⟨by rw [Nat.pow_zero, Nat.pow_one, Nat.mod_eq_of_lt h], fun j hj => by omega⟩
theorem SqRel.next {n b m v : Nat} (h : SqRel n b m v) (hv : v ≠ 1) : SqRel n b (m + 1) (v * v % n) := by
  refine ⟨?_, fun j hj => ?_⟩
  · have e := pow_two_up b (m + 1) (by omega)
    rw [Nat.add_sub_cancel] at e
    rw [h.val, ← Nat.mul_mod, e]
  · rcases Nat.lt_or_ge j m with h1 | h1
    · exact h.no j h1
    · obtain rfl : j = m := by omega
      rw [← h.val]; exact hv
theorem SqRel.lt {n a x b g t m v : Nat} (h : SqRel n b m v) (s : TS n a x b g t) : m < t := by
  rcases Nat.lt_or_ge m t with h1 | h1
  · exact h1
  · exact absurd s.one (h.no (t - 1) (by have := s.pos; omega))
theorem row_is_one {w : World} {v : Value} {x : Nat} (h : RowX w v x) : ∃ A n cap, v = .slice A n cap ∧ ((x = 1 ∧ n = 1 ∧ ∃ g, A = some ⟨g, 0, none⟩ ∧ w.cell? ⟨g, 0, none⟩ = some (.int .i64 1)) ∨ (x ≠ 1 ∧ n ≠ 1) ∨ (x ≠ 1 ∧ n = 1 ∧ ∃ g c, A = some ⟨g, 0, none⟩ ∧ w.cell? ⟨g, 0, none⟩ = some (.int .i64 ((c : Nat) : Int)) ∧ c ≠ 1)) := by
  obtain ⟨A, n, cap, rfl, z0, z1, z2, _⟩ := h.form
  refine ⟨A, n, cap, rfl, ?_⟩
  by_cases hn : n = 1
  · subst hn
    obtain ⟨g, c, rfl, hc, hcv⟩ := z1 (by omega)
    have hlt := (z2.1 rfl).2
    rw [Nat.mod_eq_of_lt hlt] at hcv
    subst hcv
    by_cases h1 : c = 1
    · subst h1; exact .inl ⟨rfl, rfl, g, rfl, hc⟩
    · exact .inr (.inr ⟨h1, rfl, g, c, rfl, hc, h1⟩)
  · exact .inr (.inl ⟨fun e => hn (z2.2 (by omega)), hn⟩)
theorem ts_step {n a x b g t m : Nat} (hp : Prm n) (h : TS n a x b g t) (h1 : 1 ≤ m) (hm : m < t) (sq : SqRel n b m 1) {G : Nat} (hG : G = g ^ (2 ^ (t - m - 1)) % n) :
    TS n a (x * G % n) (b * (G * G % n) % n) (G * G % n) m := by
  have e1 : b ^ (2 ^ m) % n = 1 := sq.val.symm
  have e2 := sq.no (m - 1) (by omega)
  have k := (TS.next hp h h1 hm e1 e2).mod
  obtain ⟨y, hy⟩ : ∃ y, g ^ (2 ^ (t - m - 1)) = y := ⟨_, rfl⟩
  rw [hy] at k hG
  have E1 : x * G % n = x * y % n := by rw [hG, Nat.mul_mod_mod]
  have E2 : G * G % n = y * y % n := by rw [hG, ← Nat.mul_mod]
  have E3 : b * (G * G % n) % n = b * (y * y) % n := by rw [E2, Nat.mul_mod_mod]
  rw [E1, E3, E2]
  exact k
theorem sq_up {n g G i : Nat} (h : G = g ^ (2 ^ i) % n) : G * G % n = g ^ (2 ^ (i + 1)) % n := by
  have e := pow_two_up g (i + 1) (by omega)
  rw [Nat.add_sub_cancel] at e
  rw [h, ← Nat.mul_mod, e]
set_option maxRecDepth 8000 in
set_option maxHeartbeats 8000000 in
theorem root_x {w : World} {u p : Value} {a n : Nat} (h : RowX w u a) (r : RowX w p n) (pb : primeB (gS n) = true) (ha : a < n) (hn : n < GB) (hsy : symN a n = 1) : Calls Tryz.prog 78 #[u, p] w (RootTo a n w) := by
  have pp := (primeB_p pb).2
  rw [gV_gS] at pp
  have h3 := pp.ge
  obtain ⟨s1, s2, s3, hTS⟩ := root_start pp hsy
  obtain ⟨nq1, nq2, _, _⟩ := nosqN_spec pp
  have HT := Lib.hid (twosIn_any (gS n))
  have ET : twosG (gS n) = twosN (n - 1) := by unfold twosG; rw [modB_gS hn (by omega), if_pos rfl, gV_gS]
  have EO : oddG (gS n) = gS (oddN (n - 1)) := by unfold oddG; rw [modB_gS hn (by omega), if_pos rfl, gV_gS]
  unfold TwosPost at HT
  rw [ET, EO] at HT
  have HN := Lib.hid (noSquare_any (gS n))
  have EN : nosqG (gS n) = gS (nosqN n) := by unfold nosqG; rw [pb, if_pos rfl, gV_gS]
  rw [EN] at HN
  have htG := twos_1280 hn (by omega)
  obtain ⟨t0, ht0⟩ : ∃ t, twosN (n - 1) = t := ⟨_, rfl⟩
  obtain ⟨q, hq⟩ : ∃ q, oddN (n - 1) = q := ⟨_, rfl⟩
  obtain ⟨M, hM⟩ : ∃ M, nosqN n = M := ⟨_, rfl⟩
  rw [ht0] at s1 s2 hTS HT htG
  rw [hq] at s3 hTS HT
  rw [hM] at hTS HN nq1 nq2
  have hMG : M < GB := Nat.lt_of_lt_of_le (show M < 256 ^ 1 by omega) (Nat.pow_le_pow_right (by omega) (by omega))
  have hqG : q < GB := by omega
  have hhG : (q + 1) / 2 < GB := by omega
  have I1 := Lib.hid (fun w => in_x (gS q) w (by have := gS_small hqG; omega))
  have I2 := Lib.hid (fun w => in_x (gS M) w (by have := gS_small hMG; omega))
  rw [gV_gS] at I1 I2
  have O1 := Lib.hid (out_x r (sm_one hn))
  have HU := Lib.hid h
  have HP := Lib.hid r
  have HTS := Lib.hid hTS
  have HPR := Lib.hid pp.prm
  have HQok := Lib.hid (And.intro (okS hqG) (okS hhG))
  obtain ⟨au, nu, cu, rfl⟩ := h.shape
  obtain ⟨ap, np, cp, rfl⟩ := r.shape
  clear h r pb pp hsy ET EO EN ht0 hq hM hTS
  generalize gS n = text at *
  go_enter Tryz.func78, Tryz.ntmps78
  go_wp2_with fail
  refine O1.out.mono ?_
  rintro e w1 ⟨rfl, b1⟩
  go_wp2_with fail
  refine (HT.out _).mono ?_
  rintro e w2 ⟨rfl, b2⟩
  have HB2 := Lib.hid (bt b1 b2)
  clear b1 b2 O1 HT
  go_wp2_with fail
  refine (I1.out _).mono ?_
  rintro e w3 ⟨v3, rfl, hv3, b3⟩
  have A1 := Lib.hid (add_x (hv3.below (below_one w3 ((1 : Nat) : Int))) (row_one w3 1 (by omega) (by omega)) (sm_one hqG) (sm_one GB_pos))
  obtain ⟨a3, n3, c3, rfl⟩ := hv3.shape
  have HB3 := Lib.hid (bt (bt HB2.out b3) (below_one w3 ((1 : Nat) : Int)))
  clear hv3 b3 I1 HB2
  go_wp2_with fail
  refine A1.out.mono ?_
  rintro e w4 ⟨v4, rfl, hv4, b4⟩
  have D1 := Lib.hid (div_x (hv4.below (below_one w4 ((2 : Nat) : Int))) (row_one w4 2 (by omega) (by omega)) (sm_add (x := q) (y := 1) (by omega) GB_pos) (by omega))
  obtain ⟨a4, n4, c4, rfl⟩ := hv4.shape
  have HB4 := Lib.hid (bt (bt HB3.out b4) (below_one w4 ((2 : Nat) : Int)))
  clear hv4 b4 A1 HB3
  go_wp2_with fail
  refine D1.out.mono ?_
  rintro e w5 ⟨v5, v6, rfl, hv5, hv6, b5⟩
  have O2 := Lib.hid (out_x hv5 (sm_one hhG))
  obtain ⟨a5, n5, c5, rfl⟩ := hv5.shape
  obtain ⟨a6, n6, c6, rfl⟩ := hv6.shape
  have HB5 := Lib.hid (bt HB4.out b5)
  clear hv5 hv6 b5 D1 HB4
  go_wp2_with fail
  refine O2.out.mono ?_
  rintro e w6 ⟨rfl, b6⟩
  have hB6 := bt HB5.out b6
  have P1 := Lib.hid (lpow_x (gS ((q + 1) / 2)) (HU.out.below hB6) (HP.out.below hB6) HQok.out.2 (by omega) hn (by omega))
  rw [gV_gS] at P1
  have HB6 := Lib.hid hB6
  clear b6 hB6 O2 HB5
  generalize gS ((q + 1) / 2) = tx at *
  go_wp2_with fail
  refine P1.out.mono ?_
  rintro e w7 ⟨v7, rfl, hv7, b7⟩
  have hB7 := bt HB6.out b7
  have P2 := Lib.hid (lpow_x (gS q) (HU.out.below hB7) (HP.out.below hB7) HQok.out.1 (by omega) hn (by omega))
  rw [gV_gS] at P2
  have HB7 := Lib.hid hB7
  have HX7 := Lib.hid hv7
  obtain ⟨a7, n7, c7, rfl⟩ := hv7.shape
  clear b7 hB7 HB6 hv7 P1
  go_wp2_with fail
  refine P2.out.mono ?_
  rintro e w8 ⟨v8, rfl, hv8, b8⟩
  have hB8 := bt HB7.out b8
  have HB8 := Lib.hid hB8
  have HX8 := Lib.hid (HX7.out.below b8)
  have HY8 := Lib.hid hv8
  obtain ⟨a8, n8, c8, rfl⟩ := hv8.shape
  clear b8 hB8 HB7 hv8 P2 HX7
  by_cases ht1 : t0 = 1
  · subst ht1
    have q1 : ((((1 : Nat) : Int)) == 1) = true := rfl
    have HL := Lib.hid HTS.out.last
    rw [Nat.mod_eq_of_lt ha] at HL
    have hlt : a ^ ((q + 1) / 2) % n < n := Nat.mod_lt _ (by omega)
    generalize a ^ ((q + 1) / 2) % n = X at *
    clear HTS
    go_wp2
    go_ret
    exact ⟨_, X, rfl, HX8.out, hlt, HL.out, HB8.out⟩
  have q1 : ((t0 : Int) == 1) = false := by simp; omega
  go_wp2_with fail
  refine (HN.out _).mono ?_
  rintro e w9 ⟨rfl, b9⟩
  have HB9 := Lib.hid (bt HB8.out b9)
  have HX9 := Lib.hid (HX8.out.below b9)
  have HY9 := Lib.hid (HY8.out.below b9)
  clear b9 HN HB8 HX8 HY8
  go_wp2_with fail
  refine (I2.out _).mono ?_
  rintro e w10 ⟨v10, rfl, hv10, b10⟩
  have hB10 := bt HB9.out b10
  have P3 := Lib.hid (lpow_x (gS q) hv10 (HP.out.below hB10) HQok.out.1 hMG hn (by omega))
  rw [gV_gS] at P3
  obtain ⟨a10, n10, c10, rfl⟩ := hv10.shape
  have HB10 := Lib.hid hB10
  have HX10 := Lib.hid (HX9.out.below b10)
  have HY10 := Lib.hid (HY9.out.below b10)
  clear b10 hB10 hv10 I2 HB9 HX9 HY9
  go_wp2_with fail
  refine P3.out.mono ?_
  rintro e w11 ⟨v11, rfl, hv11, b11⟩
  have HB11 := Lib.hid (bt HB10.out b11)
  have HX11 := Lib.hid (HX10.out.below b11)
  have HY11 := Lib.hid (HY10.out.below b11)
  have HG11 := Lib.hid hv11
  obtain ⟨a11, n11, c11, rfl⟩ := hv11.shape
  clear b11 hv11 P3 HB10 HX10 HY10
  have hx0 : a ^ ((q + 1) / 2) % n < n := Nat.mod_lt _ (by omega)
  have hb0 : a ^ q % n < n := Nat.mod_lt _ (by omega)
  have hg0 : M ^ q % n < n := Nat.mod_lt _ (by omega)
  generalize a ^ ((q + 1) / 2) % n = X0 at *
  generalize a ^ q % n = B0 at *
  generalize M ^ q % n = G0 at *
  clear q1 ht1
  go_wp2
  go_loopg [6, 11, 12, 13] t0 (fun gh tv xv bv gv wr => ∃ (t x b g : Nat), t = gh ∧ t < 1280 ∧ x < n ∧ b < n ∧ g < n ∧ tv = .int .i64 (t : Int) ∧ Hid (TS n a x b g t) ∧ Hid (RowX wr xv x) ∧ Hid (RowX wr bv b) ∧ Hid (RowX wr gv g) ∧ Hid (Below w.heap.size w wr))
  case atStart => exact ⟨t0, X0, B0, G0, rfl, htG, hx0, hb0, hg0, rfl, HTS, HX11, HY11, HG11, HB11⟩
  case round =>
    clear HTS HX11 HY11 HG11 HB11 hx0 hb0 hg0
    obtain ⟨t, x, b, g, rfl, ht, hx, hb, hg, rfl, hI, hX, hY, hG, hB⟩ := hrel
    obtain ⟨ax, nx, cx, rfl⟩ := hX.out.shape
    obtain ⟨ab, nb, cb, rfl⟩ := hY.out.shape
    obtain ⟨ag, ng, cg, rfl⟩ := hG.out.shape
    go_wp2
    go_loopg [14, 15] t (fun gh mv tv ws => ∃ (m v : Nat), t - m = gh ∧ m ≤ t ∧ v < n ∧ mv = .int .i64 (m : Int) ∧ Hid (SqRel n b m v) ∧ Hid (RowX ws tv v) ∧ Hid (Below wr.heap.size wr ws))
    case atStart => exact ⟨0, b, by omega, by omega, hb, rfl, SqRel.start hb, hY, Below.refl _ _⟩
    case round =>
      obtain ⟨m, v, rfl, hmt0, hvn, rfl, hS, hV, hD⟩ := hrel
      have hmlt := hS.out.lt hI.out
      obtain ⟨av, nv, cv, rfl, hcase⟩ := row_is_one hV.out
      rcases hcase with ⟨hv1, rfl, gv, rfl, hcell⟩ | ⟨hv1, hn1⟩ | ⟨hv1, rfl, gv, c, rfl, hcell, hc1⟩
      · subst hv1
        by_cases hm0 : m = 0
        · subst hm0
          have hb1 : b = 1 := by have := hS.out.val; rw [Nat.pow_zero, Nat.pow_one, Nat.mod_eq_of_lt hb] at this; exact this.symm
          have HE := Lib.hid (hI.out.done (by rw [hb1]; exact Nat.mod_eq_of_lt (by omega)))
          rw [Nat.mod_eq_of_lt ha] at HE
          have HXe := Lib.hid (hX.out.below hD.out)
          have HBe := Lib.hid (bt hB.out hD.out)
          clear hI hX hY hG hB hS hV hD hb1
          go_wp2
          go_ret
          exact ⟨_, x, rfl, HXe.out, hx, HE.out, HBe.out⟩
        · have m0 : ((m : Int) == 0) = false := by simp; omega
          have hmt : ¬ (t : Int) ≤ (m : Int) := by omega
          have hmt2 : (m : Int) < (t : Int) := by omega
          have HXs := Lib.hid (hX.out.below hD.out)
          have HYs := Lib.hid (hY.out.below hD.out)
          have HGs := Lib.hid (hG.out.below hD.out)
          have HBs := Lib.hid (bt hB.out hD.out)
          have HTS2 := Lib.hid (fun G hG => ts_step HPR.out hI.out (by omega) hmlt hS.out (G := G) hG)
          clear hI hX hY hG hB hS hV hD
          go_wp2
          clear hcell m0 hmt hmt2
          go_loopg [16, 13] (t - m - 1) (fun gh iv gv wz => ∃ (i G : Nat), t - m - 1 - i = gh ∧ i ≤ t - m - 1 ∧ G < n ∧ iv = .int .i64 (i : Int) ∧ Hid (G = g ^ (2 ^ i) % n) ∧ Hid (RowX wz gv G) ∧ Hid (Below wr.heap.size wr wz))
          case atStart => exact ⟨0, g, by omega, by omega, hg, rfl, by show g = _; rw [Nat.pow_zero, Nat.pow_one, Nat.mod_eq_of_lt hg], HGs, Below.refl _ _⟩
          case round =>
            clear HGs
            obtain ⟨i, G, rfl, hi, hGn, rfl, hP, hR, hE⟩ := hrel
            obtain ⟨aG, nG, cG, rfl⟩ := hR.out.shape
            by_cases hlt : i < t - m - 1
            · have hlt' : (i : Int) < (t : Int) - (m : Int) - 1 := by omega
              have M1 := Lib.hid (lmul_x hR.out hR.out (HP.out.below (bt HBs.out hE.out)) (by omega) (by omega) (by omega))
              have HPn := Lib.hid (sq_up hP.out)
              have hltn : G * G % n < n := Nat.mod_lt _ (by omega)
              have HEs := hE
              clear hP hR hE
              go_wp2_with fail
              refine M1.out.mono ?_
              rintro e w3 ⟨z, rfl, hz, b3⟩
              have HZ := Lib.hid hz
              have HE3 := Lib.hid (bt HEs.out b3)
              obtain ⟨az, nz, cz, rfl⟩ := hz.shape
              clear hz b3 M1 HEs
              go_wp2
              go_roundg (t - m - 1 - (i + 1))
              case measure => omega
              case rel => exact ⟨i + 1, G * G % n, rfl, by omega, hltn, by go_num, HPn, HZ, HE3⟩
            · obtain rfl : i = t - m - 1 := by omega
              have hlt' : ¬ ((t - m - 1 : Nat) : Int) < (t : Int) - (m : Int) - 1 := by omega
              have HTSn := Lib.hid (HTS2.out G hP.out)
              have hBz := bt HBs.out hE.out
              have M1 := Lib.hid (lmul_x (HXs.out.below hE.out) hR.out (HP.out.below hBz) (by omega) (by omega) (by omega))
              have HYz := Lib.hid (HYs.out.below hE.out)
              have HRz := Lib.hid hR.out
              have HBz := Lib.hid hBz
              clear hP hR hE hBz HXs HYs HBs HTS2
              generalize ((t - m - 1 : Nat) : Int) = ii at *
              go_wp2_with fail
              refine M1.out.mono ?_
              rintro e w3 ⟨z, rfl, hz, b3⟩
              have hB3 := bt HBz.out b3
              have M2 := Lib.hid (lmul_x (HRz.out.below b3) (HRz.out.below b3) (HP.out.below hB3) (by omega) (by omega) (by omega))
              have HX3 := Lib.hid hz
              have HY3 := Lib.hid (HYz.out.below b3)
              have HB3 := Lib.hid hB3
              obtain ⟨az, nz, cz, rfl⟩ := hz.shape
              clear hz b3 hB3 M1 HRz HYz HBz
              go_wp2_with fail
              refine M2.out.mono ?_
              rintro e w4 ⟨y, rfl, hy, b4⟩
              have hB4 := bt HB3.out b4
              have hltG : G * G % n < n := Nat.mod_lt _ (by omega)
              have M3 := Lib.hid (lmul_x (HY3.out.below b4) hy (HP.out.below hB4) (by omega) (by omega) (by omega))
              have HX4 := Lib.hid (HX3.out.below b4)
              have HG4 := Lib.hid hy
              have HB4 := Lib.hid hB4
              obtain ⟨ay, ny, cy, rfl⟩ := hy.shape
              clear hy b4 hB4 M2 HX3 HY3 HB3
              go_wp2_with fail
              refine M3.out.mono ?_
              rintro e w5 ⟨bz, rfl, hbz, b5⟩
              have HX5 := Lib.hid (HX4.out.below b5)
              have HG5 := Lib.hid (HG4.out.below b5)
              have HY5 := Lib.hid hbz
              have HB5 := Lib.hid (bt HB4.out b5)
              have hltX : x * G % n < n := Nat.mod_lt _ (by omega)
              have hltB : b * (G * G % n) % n < n := Nat.mod_lt _ (by omega)
              obtain ⟨abz, nbz, cbz, rfl⟩ := hbz.shape
              clear hbz b5 M3 HX4 HG4 HB4
              go_wp2
              go_roundg m
              case measure => exact hmlt
              case rel => exact ⟨m, _, _, _, rfl, by omega, hltX, hltB, hltG, rfl, HTSn, HX5, HY5, HG5, HB5⟩
      · have k1 : ((nv : Int) == 1) = false := by simp; omega
        clear hn1
        have hmt : (m : Int) < (t : Int) := by omega
        have M1 := Lib.hid (lmul_x hV.out hV.out (HP.out.below (bt hB.out hD.out)) (by omega) (by omega) (by omega))
        have HSn := Lib.hid (hS.out.next hv1)
        have hltn : v * v % n < n := Nat.mod_lt _ (by omega)
        have HDs := hD
        clear hV hS hv1
        go_wp2_with fail
        refine M1.out.mono ?_
        rintro e w3 ⟨z, rfl, hz, b3⟩
        have HZ := Lib.hid hz
        have HD3 := Lib.hid (bt HDs.out b3)
        obtain ⟨az, nz, cz, rfl⟩ := hz.shape
        clear hz b3 M1 HDs hD
        go_wp2
        go_roundg (t - (m + 1))
        case measure => omega
        case rel => exact ⟨m + 1, v * v % n, rfl, by omega, hltn, by go_num, HSn, HZ, HD3⟩
      · have k1 : ((c : Int) == 1) = false := by simp; omega
        have hmt : (m : Int) < (t : Int) := by omega
        have M1 := Lib.hid (lmul_x hV.out hV.out (HP.out.below (bt hB.out hD.out)) (by omega) (by omega) (by omega))
        have HSn := Lib.hid (hS.out.next hv1)
        have hltn : v * v % n < n := Nat.mod_lt _ (by omega)
        have HDs := hD
        clear hV hS hv1
        go_wp2_with fail
        refine M1.out.mono ?_
        rintro e w3 ⟨z, rfl, hz, b3⟩
        have HZ := Lib.hid hz
        have HD3 := Lib.hid (bt HDs.out b3)
        obtain ⟨az, nz, cz, rfl⟩ := hz.shape
        clear hz b3 M1 HDs hD
        go_wp2
        go_roundg (t - (m + 1))
        case measure => omega
        case rel => exact ⟨m + 1, v * v % n, rfl, by omega, hltn, by go_num, HSn, HZ, HD3⟩
set_option maxRecDepth 8000 in
set_option maxHeartbeats 2000000 in
theorem lesser_x {w : World} {u p : Value} {x n : Nat} (h : RowX w u x) (r : RowX w p n) (hx : x < n) (hn : n < GB) : Calls Tryz.prog 77 #[u, p] w (RowTo (if (0 + n - x) % n < x then (0 + n - x) % n else x) w) := by
  obtain ⟨R, hR⟩ : ∃ R, (if (0 + n - x) % n < x then (0 + n - x) % n else x) = R := ⟨_, rfl⟩
  rw [hR]
  have R1 : Hid ((0 + n - x) % n < x → R = (0 + n - x) % n) := fun h => by rw [← hR, if_pos h]
  have R2 : Hid (¬ (0 + n - x) % n < x → R = x) := fun h => by rw [← hR, if_neg h]
  clear hR
  have hb0 : Below w.heap.size w (w.alloc (.cells #[] 3)) := (Below.refl _ _).alloc (Nat.le_refl _) _
  have L1 := Lib.hid (lsub_x (row_none w) (h.below hb0) (r.below hb0) (by omega) hx hn)
  have HU := Lib.hid (h.below hb0)
  have HB0 := Lib.hid hb0
  obtain ⟨au, nu, cu, rfl⟩ := h.shape
  obtain ⟨ap, np, cp, rfl⟩ := r.shape
  clear h r hb0
  go_enter Tryz.func77, Tryz.ntmps77
  go_wp2_with fail
  refine L1.out.mono ?_
  rintro e w1 ⟨v, rfl, hv, b1⟩
  have hlt : (0 + n - x) % n < n := Nat.mod_lt _ (by omega)
  have C1 := Lib.hid (cmp_x hv (HU.out.below b1) (sm_one (Nat.lt_trans hlt hn)))
  have HV := Lib.hid hv
  have HU1 := Lib.hid (HU.out.below b1)
  have HB1 := Lib.hid (bt HB0.out b1)
  obtain ⟨av, nv, cv, rfl⟩ := hv.shape
  clear hv b1 L1 HU HB0
  generalize (0 + n - x) % n = y at *
  go_wp2_with fail
  refine C1.out.mono ?_
  rintro e w2 ⟨rfl, b2⟩
  have HV2 := Lib.hid (HV.out.below b2)
  have HU2 := Lib.hid (HU1.out.below b2)
  have HB2 := Lib.hid (bt HB1.out b2)
  clear b2 C1 HV HU1 HB1
  by_cases hyx : y < x
  · have HE := R1.out hyx
    subst HE
    have hc := cmp_lt.2 hyx
    generalize cmpI R x = kk at *
    clear hyx R1 R2
    go_wp2
    go_ret
    exact ⟨_, rfl, HV2.out, HB2.out⟩
  · have HE := R2.out hyx
    subst HE
    have hc : ¬ cmpI y R < 0 := fun h => hyx (cmp_lt.1 h)
    generalize cmpI y R = kk at *
    clear hyx R1 R2
    go_wp2
    go_ret
    exact ⟨_, rfl, HU2.out, HB2.out⟩
def RootPost (a p : ByteArray) (w : World) (e : Ending) (w' : World) : Prop := e = .returned (.tuple #[.string (rootG a p), .bool (rootB a p)]) ∧ Below w.heap.size w w'
set_option maxRecDepth 8000 in
set_option maxHeartbeats 2000000 in
theorem rootOf_any (a p : ByteArray) (w : World) : Calls Tryz.prog 43 #[.string a, .string p] w (RootPost a p w) := by
  have HS := Lib.hid (symbolOf_any a p)
  unfold SymPost at HS
  unfold RootPost rootG rootB
  by_cases h0 : symG a p = 0
  · rw [h0] at HS ⊢
    go_enter Tryz.func43, Tryz.ntmps43
    go_wp2_with fail
    refine (HS.out _).mono ?_
    rintro e w1 ⟨rfl, b1⟩
    go_wp2
    go_ret2
    exact ⟨rfl, b1⟩
  by_cases h1 : symG a p = 1
  · have hsy := h1
    unfold symG at hsy
    have hc : (primeB p && restB a p) = true := by
      cases h : (primeB p && restB a p) with
      | true => rfl
      | false => rw [h] at hsy; cases hsy
    rw [hc, if_pos rfl] at hsy
    obtain ⟨hp, hr⟩ := (by simpa using hc : primeB p = true ∧ restB a p = true)
    obtain ⟨okp, pp⟩ := primeB_p hp
    obtain ⟨oka, _, hap⟩ := restB_parts hr
    have hpG := gV_lt okp
    have sa := okG_size oka
    have sp := okG_size okp
    have pb : primeB (gS (gV p)) = true := by rw [gS_gV okp]; exact hp
    have ha0 : 0 < gV a := by
      rcases Nat.eq_zero_or_pos (gV a) with e | e
      · exfalso
        have := (symN_zero (a := gV a) pp.prm pp.ge).2 (by rw [e]; exact Nat.dvd_zero _)
        rw [this] at hsy; cases hsy
      · exact e
    have IA := Lib.hid (fun w => in_x a w (by omega))
    have IP := Lib.hid (fun w => in_x p w (by omega))
    rw [h1] at HS ⊢
    rw [if_pos rfl]
    have HPP := Lib.hid pp
    have HPB := Lib.hid pb
    have HSY := Lib.hid hsy
    generalize gV a = x at *
    generalize gV p = n at *
    clear h0 h1 hc hp hr okp oka pp sa sp pb hsy
    go_enter Tryz.func43, Tryz.ntmps43
    go_wp2_with fail
    refine (HS.out _).mono ?_
    rintro e w1 ⟨rfl, b1⟩
    clear HS
    go_wp2_with fail
    refine (IP.out _).mono ?_
    rintro e w2 ⟨q, rfl, hq, b2⟩
    have HQ := Lib.hid hq
    have HB2 := Lib.hid (bt b1 b2)
    obtain ⟨aq, nq, cq, rfl⟩ := hq.shape
    clear hq b1 b2 IP
    go_wp2_with fail
    refine (IA.out _).mono ?_
    rintro e w3 ⟨u, rfl, hu, b3⟩
    have R1 := Lib.hid (root_x hu (HQ.out.below b3) HPB.out hap hpG HSY.out)
    have HQ3 := Lib.hid (HQ.out.below b3)
    have HB3 := Lib.hid (bt HB2.out b3)
    obtain ⟨au, nu, cu, rfl⟩ := hu.shape
    clear hu b3 IA HQ HB2
    go_wp2_with fail
    refine R1.out.mono ?_
    rintro e w4 ⟨v, y, rfl, hv, hyn, hyy, b4⟩
    have L1 := Lib.hid (lesser_x hv (HQ3.out.below b4) hyn hpG)
    rw [← lesser_root HPP.out.prm hyn hyy ha0] at L1
    have hrn : rootN x n < n := by
      rw [lesser_root HPP.out.prm hyn hyy ha0]
      split
      · exact Nat.mod_lt _ (by omega)
      · exact hyn
    have HB4 := Lib.hid (bt HB3.out b4)
    obtain ⟨av, nv, cv, rfl⟩ := hv.shape
    clear hv hyy b4 R1 HQ3 HB3
    go_wp2_with fail
    refine L1.out.mono ?_
    rintro e w5 ⟨z, rfl, hz, b5⟩
    have O1 := Lib.hid (out_x hz (sm_one (Nat.lt_trans hrn hpG)))
    have HB5 := Lib.hid (bt HB4.out b5)
    obtain ⟨az, nz, cz, rfl⟩ := hz.shape
    clear hz b5 L1 HB4
    go_wp2_with fail
    refine O1.out.mono ?_
    rintro e w6 ⟨rfl, b6⟩
    have bb := bt HB5.out b6
    clear O1 HB5 b6
    go_wp2
    go_ret2
    exact ⟨rfl, bb⟩
  · have q0 : (symG a p == 0) = false := by simpa using h0
    have q1 : (symG a p != 1) = true := by simpa using h1
    have d0 : decide (symG a p = 0) = false := decide_eq_false h0
    have d1 : decide (symG a p = 1) = false := decide_eq_false h1
    rw [if_neg h1, d0, d1]
    generalize symG a p = sv at *
    clear h0 h1 d0 d1
    go_enter Tryz.func43, Tryz.ntmps43
    go_wp2_with fail
    refine (HS.out _).mono ?_
    rintro e w1 ⟨rfl, b1⟩
    go_wp2
    go_ret2
    exact ⟨rfl, b1⟩
end Go.Proofs.YtkmmlfocidfghaaGreat

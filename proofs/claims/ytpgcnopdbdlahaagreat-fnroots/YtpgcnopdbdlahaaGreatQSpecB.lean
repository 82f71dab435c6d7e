/-
  The contracts of spec's functions of chapter 6, second part: PrimeOk, SymbolOf, TwosIn, NoSquare, Greater.
-/
import Derived.Test.YtpgcnopdbdlahaaGreatQSpec
namespace Go.Proofs.YtpgcnopdbdlahaaGreat
open Go.RowKit

def cvPk (k : Nat) : ByteArray := if k = 1 then cvP1 else if k = 2 then cvP2 else if k = 3 then cvP3 else cvP4
def cvRk (k : Nat) : ByteArray := if k = 1 then cvR1 else if k = 2 then cvR2 else if k = 3 then cvR3 else cvR4
theorem cvC_at {k : Nat} (h1 : 1 ≤ k) (h4 : k ≤ 4) : (cvC (k : Int))[1]? = some (.string (cvPk k)) ∧ (cvC (k : Int))[2]? = some (.string (cvRk k)) := by
  rcases (by omega : k = 1 ∨ k = 2 ∨ k = 3 ∨ k = 4) with rfl | rfl | rfl | rfl <;> exact ⟨rfl, rfl⟩
def curveAt (p : ByteArray) (k : Nat) : Bool := sameT p (cvPk k) || sameT p (cvRk k)
theorem curvePB_at (p : ByteArray) : curvePB p = ((curveAt p 1 || curveAt p 2) || (curveAt p 3 || curveAt p 4)) := rfl
theorem curvePB_yes {p : ByteArray} {k : Nat} (h1 : 1 ≤ k) (h4 : k ≤ 4) (h : curveAt p k = true) : curvePB p = true := by
  rw [curvePB_at]
  rcases (by omega : k = 1 ∨ k = 2 ∨ k = 3 ∨ k = 4) with rfl | rfl | rfl | rfl <;> rw [h] <;> simp
theorem curvePB_no {p : ByteArray} (h : ∀ k, 1 ≤ k → k < 5 → curveAt p k = false) : curvePB p = false := by
  rw [curvePB_at, h 1 (by omega) (by omega), h 2 (by omega) (by omega), h 3 (by omega) (by omega), h 4 (by omega) (by omega)]; rfl
set_option maxRecDepth 8000 in
set_option maxHeartbeats 2000000 in
theorem primeOk_any (p : ByteArray) (w : World) : Calls Tryz.prog 36 #[.string p] w fun e w' => e = .returned (.bool (primeB p)) ∧ Below w.heap.size w w' := by
  have HG := Lib.hid (greatInt_any p)
  unfold IntPost at HG
  unfold primeB
  cases ht : (okG p && decide (gV p < 10000)) with
  | true =>
    rw [if_pos rfl]
    simp only [Bool.and_eq_true, decide_eq_true_eq] at ht
    have hB : intB p = true := by unfold intB; rw [ht.1, decide_eq_true (by omega)]; rfl
    have hI : intG p = (gV p : Int) := by unfold intG; rw [hB]; rfl
    rw [hB, hI] at HG
    have HS := Lib.hid (small_any (gV p) ht.2)
    have hlt : (gV p : Int) < 10000 := by omega
    generalize gV p = n at *
    generalize smallB n = sb at *
    clear hB hI ht
    go_enter Tryz.func36, Tryz.ntmps36
    go_wp2_with fail
    refine (HG.out _).mono ?_
    rintro e w1 ⟨rfl, rfl⟩
    go_wp2_with fail
    refine (HS.out _).mono ?_
    rintro e w1 ⟨rfl, rfl⟩
    go_wp2
    go_ret
    exact ⟨rfl, Below.refl _ _⟩
  | false =>
    rw [if_neg (by decide)]
    have hcase : intB p = false ∨ (intB p = true ∧ ¬ intG p < 10000) := by
      cases hb : intB p with
      | false => exact .inl rfl
      | true =>
        refine .inr ⟨rfl, ?_⟩
        have hok : okG p = true := by unfold intB at hb; simp only [Bool.and_eq_true] at hb; exact hb.1
        have hI : intG p = (gV p : Int) := by unfold intG; rw [hb]; rfl
        rw [hok, Bool.true_and, decide_eq_false_iff_not] at ht
        rw [hI]; omega
    have HYes := Lib.hid (fun k h1 h4 (h : curveAt p k = true) => curvePB_yes (p := p) (k := k) h1 h4 h)
    have HNo := Lib.hid (fun h => curvePB_no (p := p) h)
    generalize curvePB p = cb at *
    generalize intG p = iv at *
    generalize intB p = ib at *
    clear ht
    rcases hcase with rfl | ⟨rfl, hge⟩
    all_goals (
      go_enter Tryz.func36, Tryz.ntmps36
      go_wp2_with fail
      refine (HG.out _).mono ?_
      rintro e w1 ⟨rfl, rfl⟩
      clear HG
      go_wp2
      go_loopw [5] (fun kv wr => ∃ (k : Nat), 1 ≤ k ∧ k ≤ 5 ∧ kv = .int .i64 (k : Int) ∧ Hid (∀ j, 1 ≤ j → j < k → curveAt p j = false) ∧ Hid (Below w.heap.size w wr)) (fun kv _ => 10 - (intOf kv).toNat)
      case atStart => exact ⟨1, by omega, by omega, rfl, fun j h1 h2 => by omega, Below.refl _ _⟩
      case round =>
        obtain ⟨k, k1, k5, rfl, hI, hB⟩ := hrel
        by_cases hk : k ≤ 4
        · have hk' : (k : Int) ≤ 4 := by omega
          have HC := Lib.hid (curveOf_any (k : Int))
          have HS := Lib.hid (And.intro (cvC_size (k : Int)) (cvC_one (k : Int)))
          have HA := Lib.hid (cvC_at k1 hk)
          generalize cvC (k : Int) = C at *
          generalize cvB (k : Int) = cbk at *
          go_wp2_with fail
          refine (HC.out _).mono ?_
          rintro e w2 ⟨rfl, b2⟩
          have V := Lib.hid (cv_var w2 C HS.out.1)
          have c1 := (cell_of_row _ w2.heap.size 1 _ _ _ V.out.2.1).trans HA.out.1
          have c2 := (cell_of_row _ w2.heap.size 2 _ _ _ V.out.2.1).trans HA.out.2
          have HB2 := Lib.hid (bt (bt hB.out b2) V.out.2.2.1)
          have hct : curveAt p k = (sameT p (cvPk k) || sameT p (cvRk k)) := rfl
          have HCT := Lib.hid hct
          clear b2 hB HC hct
          generalize cvPk k = cP at *
          generalize cvRk k = cR at *
          cases h1 : (p.toList == cP.toList) with
          | true =>
            have HE := Lib.hid (HYes.out k k1 hk (by rw [HCT.out]; unfold sameT; rw [h1]; rfl))
            clear HYes HNo hI
            go_wp2_with (first | refine cv_store rfl (.tmp 6) (.tmp 27) rfl w2.heap.size cv0 C rfl rfl V.out.1 rfl HS.out.1 HS.out.2 ?_)
            generalize (World.setRow (World.alloc _ _) _ _) = w4 at *
            go_ret
            exact ⟨by rw [HE.out] <;> rfl, HB2.out⟩
          | false =>
            cases h2 : (p.toList == cR.toList) with
            | true =>
              have HE := Lib.hid (HYes.out k k1 hk (by rw [HCT.out]; unfold sameT; rw [h1, h2]; rfl))
              clear HYes HNo hI
              go_wp2_with (first | refine cv_store rfl (.tmp 6) (.tmp 27) rfl w2.heap.size cv0 C rfl rfl V.out.1 rfl HS.out.1 HS.out.2 ?_)
              generalize (World.setRow (World.alloc _ _) _ _) = w4 at *
              go_ret
              exact ⟨by rw [HE.out] <;> rfl, HB2.out⟩
            | false =>
              have hI2 : Hid (∀ j, 1 ≤ j → j < k + 1 → curveAt p j = false) := fun j j1 j2 => by
                rcases Nat.lt_or_ge j k with h | h
                · exact hI.out j j1 h
                · obtain rfl : j = k := by omega
                  rw [HCT.out]; unfold sameT; rw [h1, h2]; rfl
              clear HYes HNo hI HCT
              go_wp2_with (first | refine cv_store rfl (.tmp 6) (.tmp 27) rfl w2.heap.size cv0 C rfl rfl V.out.1 rfl HS.out.1 HS.out.2 ?_)
              generalize (World.setRow (World.alloc _ _) _ _) = w4 at *
              go_roundw
              case rel => exact ⟨k + 1, by omega, by omega, by go_num, hI2, HB2⟩
              case measure => simp [intOf]; omega
        · obtain rfl : k = 5 := by omega
          have hk' : ¬ (((5 : Nat) : Int)) ≤ 4 := by omega
          have HE := Lib.hid (HNo.out (fun j h1 h2 => hI.out j h1 h2))
          go_wp2
          go_ret
          exact ⟨by rw [HE.out] <;> rfl, hB.out⟩)
set_option maxRecDepth 8000 in
set_option maxHeartbeats 2000000 in
theorem symbolOf_any (a p : ByteArray) (w : World) : Calls Tryz.prog 15 #[.string a, .string p] w (SymPost (symG a p) w) := by
  have HP := Lib.hid (primeOk_any p)
  have HR := Lib.hid (restOk_any a p)
  unfold symG
  cases hp : primeB p with
  | false =>
    rw [hp] at HP
    rw [Bool.false_and, if_neg (by decide)]
    go_enter Tryz.func15, Tryz.ntmps15
    go_wp2_with fail
    refine (HP.out _).mono ?_
    rintro e w1 ⟨rfl, b1⟩
    go_wp2
    go_ret
    exact ⟨rfl, b1⟩
  | true =>
    rw [hp] at HP
    rw [Bool.true_and]
    cases hr : restB a p with
    | false =>
      rw [hr] at HR
      rw [if_neg (by decide)]
      go_enter Tryz.func15, Tryz.ntmps15
      go_wp2_with fail
      refine (HP.out _).mono ?_
      rintro e w1 ⟨rfl, b1⟩
      go_wp2_with fail
      refine (HR.out _).mono ?_
      rintro e w2 ⟨rfl, b2⟩
      have bb := bt b1 b2
      clear b1 b2
      go_wp2
      go_ret
      exact ⟨rfl, bb⟩
    | true =>
      rw [hr] at HR
      rw [if_pos rfl]
      obtain ⟨okp, pp⟩ := primeB_p hp
      obtain ⟨oka, _, hap⟩ := restB_parts hr
      have sa := okG_size oka
      have sp := okG_size okp
      have hpG := gV_lt okp
      have h3 := pp.ge
      have IA := Lib.hid (fun w => in_x a w (by omega))
      have IP := Lib.hid (fun w => in_x p w (by omega))
      generalize gV a = x at *
      generalize gV p = n at *
      clear hp hr okp oka pp
      go_enter Tryz.func15, Tryz.ntmps15
      go_wp2_with fail
      refine (HP.out _).mono ?_
      rintro e w1 ⟨rfl, b1⟩
      go_wp2_with fail
      refine (HR.out _).mono ?_
      rintro e w2 ⟨rfl, b2⟩
      go_wp2_with fail
      refine (IA.out _).mono ?_
      rintro e w3 ⟨u, rfl, hu, b3⟩
      obtain ⟨au, nu, cu, rfl⟩ := hu.shape
      have HU := Lib.hid hu
      clear hu
      go_wp2_with fail
      refine (IP.out _).mono ?_
      rintro e w4 ⟨q, rfl, hq, b4⟩
      obtain ⟨aq, nq, cq, rfl⟩ := hq.shape
      have S1 := Lib.hid (symbol_x (HU.out.below b4) hq (by omega) hpG (by omega))
      have HB4 := Lib.hid (bt (bt (bt b1 b2) b3) b4)
      clear hq HU b1 b2 b3 b4 HP HR IA IP
      go_wp2_with fail
      refine S1.out.mono ?_
      rintro e w5 ⟨rfl, b5⟩
      have bb := bt HB4.out b5
      generalize symN x n = sv at *
      clear S1 HB4 b5
      go_wp2
      go_ret
      exact ⟨rfl, bb⟩

/-! TwosIn -/
theorem twos_1280 {n : Nat} (h : n < GB) (h1 : 1 < n) : twosN (n - 1) < 1280 := by
  obtain ⟨K, hK⟩ : ∃ K, K = 8 * 160 := ⟨_, rfl⟩
  have e2 : (2 : Nat) ^ K = (2 ^ 8) ^ 160 := (congrArg (fun k => (2 : Nat) ^ k) hK).trans (Nat.pow_mul 2 8 160)
  have h2 : n < 2 ^ K := by rw [e2]; exact h
  have := twosN_lt (n := n - 1) (k := K) (by omega) (by omega)
  omega
def TwosPost (p : ByteArray) (w : World) (e : Ending) (w' : World) : Prop := e = .returned (.tuple #[.int .i64 (twosG p : Int), .string (oddG p)]) ∧ Below w.heap.size w w'
set_option maxRecDepth 8000 in
set_option maxHeartbeats 2000000 in
theorem twosIn_any (p : ByteArray) (w : World) : Calls Tryz.prog 42 #[.string p] w (TwosPost p w) := by
  have HM := Lib.hid (mod_any p)
  unfold TwosPost twosG oddG
  cases hm : modB p with
  | false =>
    rw [hm] at HM
    rw [if_neg (by decide), if_neg (by decide)]
    go_enter Tryz.func42, Tryz.ntmps42
    go_wp2_with fail
    refine (HM.out _).mono ?_
    rintro e w1 ⟨rfl, rfl⟩
    go_wp2
    go_ret2
    exact ⟨rfl, Below.refl _ _⟩
  | true =>
    rw [hm] at HM
    rw [if_pos rfl, if_pos rfl]
    obtain ⟨okp, h1⟩ := modB_parts hm
    have sp := okG_size okp
    have hpG := gV_lt okp
    have IP := Lib.hid (fun w => in_x p w (by omega))
    have htw := twos_1280 hpG h1
    obtain ⟨n, hn⟩ : ∃ n, gV p = n := ⟨_, rfl⟩
    rw [hn] at IP h1 hpG htw ⊢
    clear hm okp hn sp
    go_enter Tryz.func42, Tryz.ntmps42
    go_wp2_with fail
    refine (HM.out _).mono ?_
    rintro e w1 ⟨rfl, rfl⟩
    clear HM
    go_wp2_with fail
    refine (IP.out _).mono ?_
    rintro e w1 ⟨q, rfl, hq, b1⟩
    have S1 := Lib.hid (sub_x (hq.below (below_one w1 ((1 : Nat) : Int))) (row_one w1 1 (by omega) (by omega)) (sm_one hpG) (by omega))
    obtain ⟨aq, nq, cq, rfl⟩ := hq.shape
    have HB1 := Lib.hid (bt b1 (below_one w1 ((1 : Nat) : Int)))
    clear hq b1 IP
    go_wp2_with fail
    refine S1.out.mono ?_
    rintro e w2 ⟨v, rfl, hv, b2⟩
    have HB2 := Lib.hid (bt HB1.out b2)
    have HV := Lib.hid hv
    obtain ⟨av, nv, cv, rfl⟩ := hv.shape
    clear hv b2 HB1 S1
    go_wp2
    go_loopg [4, 5] (n - 1) (fun gh v kv wr => ∃ (A k : Nat), A = gh ∧ 0 < A ∧ A < GB ∧ kv = .int .i64 (k : Int) ∧ Hid (k + twosN A = twosN (n - 1) ∧ oddN A = oddN (n - 1)) ∧ Hid (RowX wr v A) ∧ Hid (Below w.heap.size w wr))
    case atStart => exact ⟨n - 1, 0, rfl, by omega, by omega, rfl, ⟨by omega, rfl⟩, HV, HB2⟩
    case round =>
      clear HV HB2
      obtain ⟨A, k, rfl, hA, hAG, rfl, hI, hV, hB⟩ := hrel
      obtain ⟨aA, nA, cA, rfl, z0, z1, _, _⟩ := hV.out.form
      have hnA : 0 < nA := Nat.pos_of_ne_zero fun e => by have := z0.1 e; omega
      obtain ⟨g, c, rfl, hcell, hcv⟩ := z1 hnA
      have k4 : (0 : Int) < (nA : Int) := by omega
      have hk : k < 1280 := by have := hI.out.1; omega
      by_cases he : A % 2 = 0
      · have hc2 : (c : Int) % 2 = 0 := by omega
        have hI2 : Hid (k + 1 + twosN (A / 2) = twosN (n - 1) ∧ oddN (A / 2) = oddN (n - 1)) := by
          have h2 := hI.out
          rw [twosN_even hA he, oddN_even hA he] at h2
          exact ⟨by omega, h2.2⟩
        have D1 := Lib.hid (div_x (hV.out.below (below_one wr ((2 : Nat) : Int))) (row_one wr 2 (by omega) (by omega)) (sm_one hAG) (by omega))
        have HBr := Lib.hid (bt hB.out (below_one wr ((2 : Nat) : Int)))
        clear hV hB z0 z1 hI hcv
        go_wp2_with fail
        refine D1.out.mono ?_
        rintro e w3 ⟨q, t, rfl, hq, ht, b3⟩
        have HQ := Lib.hid hq
        have HB3 := Lib.hid (bt HBr.out b3)
        obtain ⟨aq, nq, cq, rfl⟩ := hq.shape
        obtain ⟨at0, nt, ct, rfl⟩ := ht.shape
        clear hq ht b3 D1 HBr hcell hc2
        go_wp2
        go_roundg (A / 2)
        case measure => omega
        case rel => exact ⟨A / 2, k + 1, rfl, by omega, by omega, by go_num, hI2, HQ, HB3⟩
      · have hc2 : (c : Int) % 2 = 1 := by omega
        have O1 := Lib.hid (out_x hV.out (sm_one hAG))
        have h2 := hI.out
        rw [twosN_odd (by omega : A % 2 = 1), oddN_odd (by omega : A % 2 = 1)] at h2
        have HBB := Lib.hid hB.out
        have HE : Hid (twosN (n - 1) = k ∧ oddN (n - 1) = A) := ⟨by omega, h2.2.symm⟩
        clear hV hB z0 z1 hI hcv h2
        go_wp2_with fail
        refine O1.out.mono ?_
        rintro e w3 ⟨rfl, b3⟩
        have bb := bt HBB.out b3
        clear O1 HBB b3 hcell hc2
        go_wp2
        go_ret2
        exact ⟨by rw [HE.out.1, HE.out.2] <;> rfl, bb⟩
set_option maxRecDepth 8000 in
set_option maxHeartbeats 2000000 in
theorem noSquare_any (p : ByteArray) (w : World) : Calls Tryz.prog 46 #[.string p] w fun e w' => e = .returned (.string (nosqG p)) ∧ Below w.heap.size w w' := by
  have HP := Lib.hid (primeOk_any p)
  unfold nosqG
  cases hp : primeB p with
  | false =>
    rw [hp] at HP
    rw [if_neg (by decide)]
    go_enter Tryz.func46, Tryz.ntmps46
    go_wp2_with fail
    refine (HP.out _).mono ?_
    rintro e w1 ⟨rfl, b1⟩
    go_wp2
    go_ret
    exact ⟨rfl, b1⟩
  | true =>
    rw [hp] at HP
    rw [if_pos rfl]
    obtain ⟨okp, pp⟩ := primeB_p hp
    have sp := okG_size okp
    have hpG := gV_lt okp
    have h3 := pp.ge
    obtain ⟨n1, n2, n3, n4⟩ := nosqN_spec pp
    have IP := Lib.hid (fun w => in_x p w (by omega))
    obtain ⟨n, hn⟩ : ∃ n, gV p = n := ⟨_, rfl⟩
    rw [hn] at IP hpG h3 n1 n2 n3 n4 ⊢
    obtain ⟨M, hM⟩ : ∃ M, nosqN n = M := ⟨_, rfl⟩
    rw [hM] at n1 n2 n3 n4 ⊢
    have HN := Lib.hid (And.intro n3 n4)
    clear hp okp pp sp hn hM n3 n4
    go_enter Tryz.func46, Tryz.ntmps46
    go_wp2_with fail
    refine (HP.out _).mono ?_
    rintro e w1 ⟨rfl, b1⟩
    clear HP
    go_wp2_with fail
    refine (IP.out _).mono ?_
    rintro e w2 ⟨q, rfl, hq, b2⟩
    have HQ := Lib.hid hq
    obtain ⟨aq, nq, cq, rfl⟩ := hq.shape
    have HB2 := Lib.hid (bt b1 b2)
    clear hq b1 b2 IP
    go_wp2
    go_loopw [4] (fun kv wr => ∃ (k : Nat), 2 ≤ k ∧ k ≤ M ∧ kv = .int .i64 (k : Int) ∧ Hid (RowX wr (.slice aq nq cq) n) ∧ Hid (Below w.heap.size w wr)) (fun kv _ => 100 - (intOf kv).toNat)
    case atStart => exact ⟨2, by omega, n1, rfl, HQ, HB2⟩
    case round =>
      clear HQ HB2
      obtain ⟨k, k2, kM, rfl, hQ, hB⟩ := hrel
      have S1 := Lib.hid (symbol_x (row_one wr k (by omega) (by omega)) (hQ.out.below (below_one wr (k : Int))) (Nat.lt_of_lt_of_le (show k < 256 ^ 1 by omega) (Nat.pow_le_pow_right (by omega) (by omega))) hpG (by omega))
      have hb := below_one wr (k : Int)
      have HB1 := Lib.hid (bt hB.out hb)
      have HQ1 := Lib.hid (hQ.out.below hb)
      clear hQ hB hb
      go_wp2_with fail
      refine S1.out.mono ?_
      rintro e w3 ⟨rfl, b3⟩
      have HB3 := Lib.hid (bt HB1.out b3)
      have HQ3 := Lib.hid (HQ1.out.below b3)
      clear b3 HB1 HQ1 S1
      by_cases hkM : k = M
      · subst hkM
        rw [HN.out.1]
        have G1 := Lib.hid (fun w => greatOf_any (k : Int) w (by omega))
        have hof : ofI (k : Int) = gS k := by unfold ofI gS; rw [Int.toNat_natCast]
        rw [hof] at G1
        clear hof
        go_wp2_with fail
        refine (G1.out _).mono ?_
        rintro e w4 ⟨rfl, b4⟩
        have bb := bt HB3.out b4
        clear G1 b4 HB3 HQ3
        go_wp2
        go_ret
        exact ⟨rfl, bb⟩
      · have hne : (symN k n == -1) = false := by
          have := HN.out.2 k k2 (by omega)
          simpa using this
        generalize symN k n = sv at *
        go_wp2
        go_roundw
        case rel => exact ⟨k + 1, by omega, by omega, by go_num, HQ3, HB3⟩
        case measure => simp [intOf]; omega
end Go.Proofs.YtpgcnopdbdlahaaGreat

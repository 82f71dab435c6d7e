import Derived.Test.YtmbhodhghgdbhaaQMath
import Derived.Deep.LoopGhost
/-
  The contracts of spec's functions of chapter 6, first part: primes, symbols, twos, what is no square.
-/
namespace Go.Proofs.Ytmbhodhghgdbhaa
open Go.RowKit
set_option maxRecDepth 8000 in
set_option maxHeartbeats 1000000 in
theorem small_any (n : Nat) (hn : n < 10000) (w : World) : Calls Try.prog 56 #[.int .i64 (n : Int)] w fun e w' => e = .returned (.bool (smallB n)) ∧ w = w' := by
  by_cases h3 : n < 3
  · have d : decide ((n : Int) < 3) = true := by simp; omega
    have h3' : (n : Int) < 3 := by omega
    rw [smallB_less (.inl h3)]
    go_enter Try.func56, Try.ntmps56
    go_wp2
    go_ret
    exact ⟨rfl, rfl⟩
  have h3' : ¬ (n : Int) < 3 := by omega
  have d3 : decide ((n : Int) < 3) = false := by simp; omega
  by_cases he : n % 2 = 0
  · have e1 : (n : Int) % 2 = 0 := by omega
    have e2 : ((n : Int) % 2 == 0) = true := by simpa using e1
    rw [smallB_less (.inr he)]
    clear he
    go_enter Try.func56, Try.ntmps56
    go_wp2
    go_ret
    exact ⟨rfl, rfl⟩
  have e1 : (n : Int) % 2 = 1 := by omega
  have e2 : ((n : Int) % 2 == 0) = false := by rw [e1]; rfl
  have HN := Lib.hid (fun k (h3 : 3 ≤ k) (ho : k % 2 = 1) (hk : k * k ≤ n) (hd : n % k = 0) => smallB_no hn h3 ho hk hd)
  have HY := Lib.hid (fun k (hk : n < k * k) (h : ∀ j, 3 ≤ j → j % 2 = 1 → j < k → n % j ≠ 0) => smallB_yes (by omega : 3 ≤ n) (by omega) hk h)
  clear he
  go_enter Try.func56, Try.ntmps56
  go_wp2
  clear e1 e2 d3
  go_loop [3] (fun kv => ∃ k : Nat, 3 ≤ k ∧ k % 2 = 1 ∧ k ≤ 101 ∧ kv = .int .i64 (k : Int) ∧ Hid (∀ j, 3 ≤ j → j % 2 = 1 → j < k → n % j ≠ 0)) (fun kv => 200 - (intOf kv).toNat)
  case atStart => exact ⟨3, by omega, by omega, by omega, rfl, fun j h1 h2 h3 => by omega⟩
  case round =>
    obtain ⟨k, k3, ko, k101, rfl, hI⟩ := hrel
    obtain ⟨q, hq⟩ : ∃ q, k * k = q := ⟨_, rfl⟩
    have hqI : (k : Int) * (k : Int) = (q : Int) := by rw [← hq]; simp
    have hq2 : q ≤ 101 * 101 := by rw [← hq]; exact Nat.mul_le_mul k101 k101
    by_cases hle : q ≤ n
    · have hle' : (q : Int) ≤ (n : Int) := by omega
      have hk100 : k < 100 := by
        rcases Nat.lt_or_ge k 100 with h | h
        · exact h
        · have : 100 * 100 ≤ k * k := Nat.mul_le_mul h h; omega
      have k0 : ((k : Int) == 0) = false := by simp; omega
      have k0' : ¬ (k : Int) = 0 := by omega
      by_cases hd : n % k = 0
      · have hd' : (n : Int) % (k : Int) = 0 := by exact_mod_cast hd
        have hd2 : ((n : Int) % (k : Int) == 0) = true := by simpa using hd'
        have E := Lib.hid (HN.out k k3 ko (by omega) hd)
        clear HN HY hI hd hq
        go_wp2
        go_ret
        exact ⟨by rw [E.out]; rfl, rfl⟩
      · have hd' : ¬ (n : Int) % (k : Int) = 0 := by exact_mod_cast hd
        have hd2 : ((n : Int) % (k : Int) == 0) = false := by simpa using hd'
        have hI2 : Hid (∀ j, 3 ≤ j → j % 2 = 1 → j < k + 2 → n % j ≠ 0) := fun j h1 h2 h3 => by
          rcases Nat.lt_or_ge j k with h | h
          · exact hI.out j h1 h2 h
          · obtain rfl : j = k := by omega
            exact hd
        clear hI hq hd
        go_wp2
        go_round
        case rel => exact ⟨k + 2, by omega, by omega, by omega, by go_num, hI2⟩
        case measure => simp [intOf]; omega
    · have hle' : ¬ (q : Int) ≤ (n : Int) := by omega
      have E := Lib.hid (HY.out k (by omega) hI.out)
      clear HN HY hI hq
      go_wp2
      go_ret
      exact ⟨by rw [E.out]; rfl, rfl⟩
end Go.Proofs.Ytmbhodhghgdbhaa
/-
  The contracts of spec's functions of chapter 6, second part: PrimeOk, SymbolOf, TwosIn, NoSquare, Greater.
-/
namespace Go.Proofs.Ytmbhodhghgdbhaa
open Go.RowKit
def cvPk (k : Nat) : ByteArray := if k = 1 then cvP1 else if k = 2 then cvP2 else if k = 3 then cvP3 else cvP4
def cvRk (k : Nat) : ByteArray := if k = 1 then cvR1 else if k = 2 then cvR2 else if k = 3 then cvR3 else cvR4
theorem cvC_at {k : Nat} (h1 : 1 ≤ k) (h4 : k ≤ 4) : (cvC (k : Int))[1]? = some (.string (cvPk k)) ∧ (cvC (k : Int))[2]? = some (.string (cvRk k)) := by
  rcases (by omega : k = 1 ∨ k = 2 ∨ k = 3 ∨ k = 4) with rfl | rfl | rfl | rfl <;> exact ⟨rfl, rfl⟩
def curveAt (p : ByteArray) (k : Nat) : Bool := sameT p (cvPk k) || sameT p (cvRk k)
theorem curvePB_at (p : ByteArray) : curvePB p = ((curveAt p 1 || curveAt p 2) || (curveAt p 3 || curveAt p 4)) := rfl
theorem curvePB_yes {p : ByteArray} {k : Nat} (h1 : 1 ≤ k) (h4 : k ≤ 4) (h : curveAt p k = true) : curvePB p = true := by
  rw [curvePB_at]
  rcases (by omega : k = 1 ∨ k = 2 ∨ k = 3 ∨ k = 4) with rfl | rfl | rfl | rfl <;> rw [h] <;> simp
theorem curvePB_no {p : ByteArray} (h : ∀ k, 1 ≤ k → k < 5 → curveAt p k = false) : curvePB p = false := by
  rw [curvePB_at, h 1 (by omega) (by omega), h 2 (by omega) (by omega), h 3 (by omega) (by omega), h 4 (by omega) (by omega)]; rfl
set_option maxRecDepth 8000 in
set_option maxHeartbeats 2000000 in
theorem primeOk_any (p : ByteArray) (w : World) : Calls Try.prog 25 #[.string p] w fun e w' => e = .returned (.bool (primeB p)) ∧ Below w.heap.size w w' := by
  have HG := Lib.hid (greatInt_any p)
  unfold IntPost at HG
  unfold primeB
  cases ht : (okG p && decide (gV p < 10000)) with
  | true =>
    rw [if_pos rfl]
    simp only [Bool.and_eq_true, decide_eq_true_eq] at ht
    have hB : intB p = true := by unfold intB; rw [ht.1, decide_eq_true (by omega)]; rfl
    have hI : intG p = (gV p : Int) := by unfold intG; rw [hB]; rfl
    rw [hB, hI] at HG
    have HS := Lib.hid (small_any (gV p) ht.2)
    have hlt : (gV p : Int) < 10000 := by omega
    generalize gV p = n at *
    generalize smallB n = sb at *
    clear hB hI ht
    go_enter Try.func25, Try.ntmps25
    go_wp2_with fail
    refine (HG.out _).mono ?_
    rintro e w1 ⟨rfl, rfl⟩
    go_wp2_with fail
    refine (HS.out _).mono ?_
    rintro e w1 ⟨rfl, rfl⟩
    go_wp2
    go_ret
    exact ⟨rfl, Below.refl _ _⟩
  | false =>
    rw [if_neg (by decide)]
    have hcase : intB p = false ∨ (intB p = true ∧ ¬ intG p < 10000) := by
      cases hb : intB p with
      | false => exact .inl rfl
      | true =>
        refine .inr ⟨rfl, ?_⟩
        have hok : okG p = true := by unfold intB at hb; simp only [Bool.and_eq_true] at hb; exact hb.1
        have hI : intG p = (gV p : Int) := by unfold intG; rw [hb]; rfl
        rw [hok, Bool.true_and, decide_eq_false_iff_not] at ht
        rw [hI]; omega
    have HYes := Lib.hid (fun k h1 h4 (h : curveAt p k = true) => curvePB_yes (p := p) (k := k) h1 h4 h)
    have HNo := Lib.hid (fun h => curvePB_no (p := p) h)
    generalize curvePB p = cb at *
    generalize intG p = iv at *
    generalize intB p = ib at *
    clear ht
    rcases hcase with rfl | ⟨rfl, hge⟩
    all_goals (
      go_enter Try.func25, Try.ntmps25
      go_wp2_with fail
      refine (HG.out _).mono ?_
      rintro e w1 ⟨rfl, rfl⟩
      clear HG
      go_wp2
      go_loopw [5] (fun kv wr => ∃ (k : Nat), 1 ≤ k ∧ k ≤ 5 ∧ kv = .int .i64 (k : Int) ∧ Hid (∀ j, 1 ≤ j → j < k → curveAt p j = false) ∧ Hid (Below w.heap.size w wr)) (fun kv _ => 10 - (intOf kv).toNat)
      case atStart => exact ⟨1, by omega, by omega, rfl, fun j h1 h2 => by omega, Below.refl _ _⟩
      case round =>
        obtain ⟨k, k1, k5, rfl, hI, hB⟩ := hrel
        by_cases hk : k ≤ 4
        · have hk' : (k : Int) ≤ 4 := by omega
          have HC := Lib.hid (curveOf_any (k : Int))
          have HS := Lib.hid (And.intro (cvC_size (k : Int)) (cvC_one (k : Int)))
          have HA := Lib.hid (cvC_at k1 hk)
          generalize cvC (k : Int) = C at *
          generalize cvB (k : Int) = cbk at *
          go_wp2_with fail
          refine (HC.out _).mono ?_
          rintro e w2 ⟨rfl, b2⟩
          have V := Lib.hid (cv_var w2 C HS.out.1)
          have c1 := (cell_of_row _ w2.heap.size 1 _ _ _ V.out.2.1).trans HA.out.1
          have c2 := (cell_of_row _ w2.heap.size 2 _ _ _ V.out.2.1).trans HA.out.2
          have HB2 := Lib.hid (bt (bt hB.out b2) V.out.2.2.1)
          have hct : curveAt p k = (sameT p (cvPk k) || sameT p (cvRk k)) := rfl
          have HCT := Lib.hid hct
          clear b2 hB HC hct
          generalize cvPk k = cP at *
          generalize cvRk k = cR at *
          cases h1 : (p.toList == cP.toList) with
          | true =>
            have HE := Lib.hid (HYes.out k k1 hk (by rw [HCT.out]; unfold sameT; rw [h1]; rfl))
            clear HYes HNo hI
            go_wp2_with (first | refine cv_store rfl (.tmp 6) (.tmp 27) rfl w2.heap.size cv0 C rfl rfl V.out.1 rfl HS.out.1 HS.out.2 ?_)
            generalize (World.setRow (World.alloc _ _) _ _) = w4 at *
            go_ret
            exact ⟨by rw [HE.out] <;> rfl, HB2.out⟩
          | false =>
            cases h2 : (p.toList == cR.toList) with
            | true =>
              have HE := Lib.hid (HYes.out k k1 hk (by rw [HCT.out]; unfold sameT; rw [h1, h2]; rfl))
              clear HYes HNo hI
              go_wp2_with (first | refine cv_store rfl (.tmp 6) (.tmp 27) rfl w2.heap.size cv0 C rfl rfl V.out.1 rfl HS.out.1 HS.out.2 ?_)
              generalize (World.setRow (World.alloc _ _) _ _) = w4 at *
              go_ret
              exact ⟨by rw [HE.out] <;> rfl, HB2.out⟩
            | false =>
              have hI2 : Hid (∀ j, 1 ≤ j → j < k + 1 → curveAt p j = false) := fun j j1 j2 => by
                rcases Nat.lt_or_ge j k with h | h
                · exact hI.out j j1 h
                · obtain rfl : j = k := by omega
                  rw [HCT.out]; unfold sameT; rw [h1, h2]; rfl
              clear HYes HNo hI HCT
              go_wp2_with (first | refine cv_store rfl (.tmp 6) (.tmp 27) rfl w2.heap.size cv0 C rfl rfl V.out.1 rfl HS.out.1 HS.out.2 ?_)
              generalize (World.setRow (World.alloc _ _) _ _) = w4 at *
              go_roundw
              case rel => exact ⟨k + 1, by omega, by omega, by go_num, hI2, HB2⟩
              case measure => simp [intOf]; omega
        · obtain rfl : k = 5 := by omega
          have hk' : ¬ (((5 : Nat) : Int)) ≤ 4 := by omega
          have HE := Lib.hid (HNo.out (fun j h1 h2 => hI.out j h1 h2))
          go_wp2
          go_ret
          exact ⟨by rw [HE.out] <;> rfl, hB.out⟩)
end Go.Proofs.Ytmbhodhghgdbhaa
/-
  The contracts of spec's l06Root, l06Lesser, RootOf and Greater.
-/
namespace Go.Proofs.Ytmbhodhghgdbhaa
open Go.RowKit
end Go.Proofs.Ytmbhodhghgdbhaa

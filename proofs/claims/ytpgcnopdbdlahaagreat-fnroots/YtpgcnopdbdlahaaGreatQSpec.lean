/-
  The contracts of spec's functions of chapter 6, first part: primes, symbols, twos, what is no square.
-/
import Derived.Test.YtpgcnopdbdlahaaGreatQMath
import Derived.Deep.LoopGhost
namespace Go.Proofs.YtpgcnopdbdlahaaGreat
open Go.RowKit

set_option maxRecDepth 8000 in
set_option maxHeartbeats 1000000 in
theorem small_any (n : Nat) (hn : n < 10000) (w : World) : Calls Tryz.prog 76 #[.int .i64 (n : Int)] w fun e w' => e = .returned (.bool (smallB n)) ∧ w = w' := by
  by_cases h3 : n < 3
  · have d : decide ((n : Int) < 3) = true := by simp; omega
    have h3' : (n : Int) < 3 := by omega
    rw [smallB_less (.inl h3)]
    go_enter Tryz.func76, Tryz.ntmps76
    go_wp2
    go_ret
    exact ⟨rfl, rfl⟩
  have h3' : ¬ (n : Int) < 3 := by omega
  have d3 : decide ((n : Int) < 3) = false := by simp; omega
  by_cases he : n % 2 = 0
  · have e1 : (n : Int) % 2 = 0 := by omega
    have e2 : ((n : Int) % 2 == 0) = true := by simpa using e1
    rw [smallB_less (.inr he)]
    clear he
    go_enter Tryz.func76, Tryz.ntmps76
    go_wp2
    go_ret
    exact ⟨rfl, rfl⟩
  have e1 : (n : Int) % 2 = 1 := by omega
  have e2 : ((n : Int) % 2 == 0) = false := by rw [e1]; rfl
  have HN := Lib.hid (fun k (h3 : 3 ≤ k) (ho : k % 2 = 1) (hk : k * k ≤ n) (hd : n % k = 0) => smallB_no hn h3 ho hk hd)
  have HY := Lib.hid (fun k (hk : n < k * k) (h : ∀ j, 3 ≤ j → j % 2 = 1 → j < k → n % j ≠ 0) => smallB_yes (by omega : 3 ≤ n) (by omega) hk h)
  clear he
  go_enter Tryz.func76, Tryz.ntmps76
  go_wp2
  clear e1 e2 d3
  go_loop [3] (fun kv => ∃ k : Nat, 3 ≤ k ∧ k % 2 = 1 ∧ k ≤ 101 ∧ kv = .int .i64 (k : Int) ∧ Hid (∀ j, 3 ≤ j → j % 2 = 1 → j < k → n % j ≠ 0)) (fun kv => 200 - (intOf kv).toNat)
  case atStart => exact ⟨3, by omega, by omega, by omega, rfl, fun j h1 h2 h3 => by omega⟩
  case round =>
    obtain ⟨k, k3, ko, k101, rfl, hI⟩ := hrel
    obtain ⟨q, hq⟩ : ∃ q, k * k = q := ⟨_, rfl⟩
    have hqI : (k : Int) * (k : Int) = (q : Int) := by rw [← hq]; simp
    have hq2 : q ≤ 101 * 101 := by rw [← hq]; exact Nat.mul_le_mul k101 k101
    by_cases hle : q ≤ n
    · have hle' : (q : Int) ≤ (n : Int) := by omega
      have hk100 : k < 100 := by
        rcases Nat.lt_or_ge k 100 with h | h
        · exact h
        · have : 100 * 100 ≤ k * k := Nat.mul_le_mul h h; omega
      have k0 : ((k : Int) == 0) = false := by simp; omega
      have k0' : ¬ (k : Int) = 0 := by omega
      by_cases hd : n % k = 0
      · have hd' : (n : Int) % (k : Int) = 0 := by exact_mod_cast hd
        have hd2 : ((n : Int) % (k : Int) == 0) = true := by simpa using hd'
        have E := Lib.hid (HN.out k k3 ko (by omega) hd)
        clear HN HY hI hd hq
        go_wp2
        go_ret
        exact ⟨by rw [E.out]; rfl, rfl⟩
      · have hd' : ¬ (n : Int) % (k : Int) = 0 := by exact_mod_cast hd
        have hd2 : ((n : Int) % (k : Int) == 0) = false := by simpa using hd'
        have hI2 : Hid (∀ j, 3 ≤ j → j % 2 = 1 → j < k + 2 → n % j ≠ 0) := fun j h1 h2 h3 => by
          rcases Nat.lt_or_ge j k with h | h
          · exact hI.out j h1 h2 h
          · obtain rfl : j = k := by omega
            exact hd
        clear hI hq hd
        go_wp2
        go_round
        case rel => exact ⟨k + 2, by omega, by omega, by omega, by go_num, hI2⟩
        case measure => simp [intOf]; omega
    · have hle' : ¬ (q : Int) ≤ (n : Int) := by omega
      have E := Lib.hid (HY.out k (by omega) hI.out)
      clear HN HY hI hq
      go_wp2
      go_ret
      exact ⟨by rw [E.out]; rfl, rfl⟩

/-! l06Less, l06Symbol -/
theorem below_one (w : World) (k : Int) : Below w.heap.size w (w.alloc (.cells #[.int .i64 k] 3)) := (Below.refl _ _).alloc (Nat.le_refl _) _
set_option maxRecDepth 8000 in
set_option maxHeartbeats 1000000 in
theorem less_x {w : World} {p : Value} {n : Nat} (r : RowX w p n) (hn : n < SM) (h1 : 1 ≤ n) : Calls Tryz.prog 78 #[p] w (RowTwo (n - 1) ((n - 1) / 2) w) := by
  have S1 := Lib.hid (sub_x (r.below (below_one w ((1 : Nat) : Int))) (row_one w 1 (by omega) (by omega)) hn h1)
  obtain ⟨ap, np, cp, rfl⟩ := r.shape
  clear r
  go_enter Tryz.func78, Tryz.ntmps78
  go_wp2_with fail
  refine S1.out.mono ?_
  rintro e w1 ⟨v, rfl, hv, b1⟩
  have D1 := Lib.hid (div_x (hv.below (below_one w1 ((2 : Nat) : Int))) (row_one w1 2 (by omega) (by omega)) (by omega) (by omega))
  have HB1 := Lib.hid (bt (below_one w ((1 : Nat) : Int)) b1)
  have HV := Lib.hid (hv.below (below_one w1 ((2 : Nat) : Int)))
  obtain ⟨av, nv, cv, rfl⟩ := hv.shape
  clear hv b1 S1
  go_wp2_with fail
  refine D1.out.mono ?_
  rintro e w2 ⟨q, t, rfl, hq, ht, b2⟩
  have HV2 := Lib.hid (HV.out.below b2)
  have HQ := Lib.hid hq
  have HB2 := Lib.hid (bt (bt HB1.out (below_one w1 ((2 : Nat) : Int))) b2)
  obtain ⟨aq, nq, cq, rfl⟩ := hq.shape
  obtain ⟨at0, nt, ct, rfl⟩ := ht.shape
  clear hq ht b2 D1 HV HB1
  go_wp2
  go_ret2
  exact ⟨_, _, rfl, HV2.out, HQ.out, HB2.out⟩
def SymPost (s : Int) (w : World) (e : Ending) (w' : World) : Prop := e = .returned (.int .i64 s) ∧ Below w.heap.size w w'
theorem half_lt {n : Nat} (h : n < GB) : (n - 1) / 2 < GB := by omega
set_option maxRecDepth 8000 in
set_option maxHeartbeats 2000000 in
theorem symbol_x {w : World} {u p : Value} {a n : Nat} (h : RowX w u a) (r : RowX w p n) (ha : a < GB) (hn : n < GB) (h1 : 1 ≤ n) : Calls Tryz.prog 38 #[u, p] w (SymPost (symN a n) w) := by
  have L1 := Lib.hid (less_x r (sm_one hn) h1)
  have HU := Lib.hid h
  have HP := Lib.hid r
  obtain ⟨au, nu, cu, rfl⟩ := h.shape
  obtain ⟨ap, np, cp, rfl⟩ := r.shape
  clear h r
  go_enter Tryz.func38, Tryz.ntmps38
  go_wp2_with fail
  refine L1.out.mono ?_
  rintro e w1 ⟨v, q, rfl, hv, hq, b1⟩
  have O1 := Lib.hid (out_x hq (sm_one (half_lt hn)))
  have HB1 := Lib.hid b1
  obtain ⟨av, nv, cv, rfl⟩ := hv.shape
  obtain ⟨aq, nq, cq, rfl⟩ := hq.shape
  clear hv hq b1 L1
  go_wp2_with fail
  refine O1.out.mono ?_
  rintro e w2 ⟨rfl, b2⟩
  have hB2 := bt HB1.out b2
  have P1 := Lib.hid (lpow_x (gS ((n - 1) / 2)) (HU.out.below hB2) (HP.out.below hB2) (okS (half_lt hn)) ha hn (by omega))
  rw [gV_gS] at P1
  have HB2 := Lib.hid hB2
  clear b2 hB2 O1 HB1
  generalize gS ((n - 1) / 2) = hs at *
  go_wp2_with fail
  refine P1.out.mono ?_
  rintro e w3 ⟨x, rfl, hx, b3⟩
  have HB3 := Lib.hid (bt HB2.out b3)
  obtain ⟨X, hX⟩ : ∃ X, a ^ ((n - 1) / 2) % n = X := ⟨_, rfl⟩
  rw [hX] at hx
  have E0 : Hid (X = 0 → symN a n = 0) := fun h => by unfold symN; rw [hX, if_pos h]
  have E1 : Hid (X = 1 → symN a n = 1) := fun h => by unfold symN; rw [hX, if_neg (by omega), if_pos h]
  have E2 : Hid (X ≠ 0 → X ≠ 1 → symN a n = -1) := fun h h' => by unfold symN; rw [hX, if_neg h, if_neg h']
  obtain ⟨ax, nx, cx, rfl, z0, z1, z2, _⟩ := hx.form
  clear hX hx b3 P1 HB2
  by_cases hX0 : X = 0
  · have hn0 : nx = 0 := z0.2 hX0
    subst hn0
    have HE := Lib.hid (E0.out hX0)
    clear z0 z1 z2 hX0 E0 E1 E2
    go_wp2
    go_ret
    exact ⟨ret_int HE.out.symm, HB3.out⟩
  · have hn0 : 0 < nx := Nat.pos_of_ne_zero fun e => hX0 (z0.1 e)
    obtain ⟨g, c, rfl, hcell, hcv⟩ := z1 hn0
    have k0 : ((nx : Int) == 0) = false := by simp; omega
    by_cases hn1 : nx = 1
    · subst hn1
      have hlt := (z2.1 rfl).2
      rw [Nat.mod_eq_of_lt hlt] at hcv
      subst hcv
      by_cases h1' : c = 1
      · have hc1 : ((c : Int) == 1) = true := by rw [h1']; rfl
        have HE := Lib.hid (E1.out h1')
        clear z0 z1 z2 hX0 h1' E0 E1 E2
        go_wp2
        go_ret
        exact ⟨ret_int HE.out.symm, HB3.out⟩
      · have hc1 : ((c : Int) == 1) = false := by simp; omega
        have HE := Lib.hid (E2.out hX0 h1')
        clear z0 z1 z2 hX0 h1' E0 E1 E2
        go_wp2
        go_ret
        exact ⟨ret_int HE.out.symm, HB3.out⟩
    · have k1 : ((nx : Int) == 1) = false := by simp; omega
      have h1' : X ≠ 1 := fun e => hn1 (z2.2 (by omega))
      have HE := Lib.hid (E2.out hX0 h1')
      clear z0 z1 z2 hX0 h1' hn1 E0 E1 E2
      go_wp2
      go_ret
      exact ⟨ret_int HE.out.symm, HB3.out⟩
end Go.Proofs.YtpgcnopdbdlahaaGreat

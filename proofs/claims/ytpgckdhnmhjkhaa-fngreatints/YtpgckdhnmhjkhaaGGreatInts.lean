/-
  The walk of laws.FnGreatInts: at every bytes of a draw.
-/
import Derived.Test.YtpgckdhnmhjkhaaGDraw
import Derived.Test.YtpgckdhnmhjkhaaICmp
import Derived.Test.YtpgckdhnmhjkhaaIOf
namespace Go.Proofs.Ytpgckdhnmhjkhaa
open Go.RowKit

theorem big_h (A : Option Addr) (n cap : Nat) (w : World) (_hn : n ≤ maxLen) : Calls Try.prog 15 #[.slice A n cap] w fun e w' => e = .returned (.bool (decide ((1048576 : Int) < (n : Int)))) ∧ w = w' := by
  go_enter Try.func15, Try.ntmps15
  go_wp2
  go_ret
  exact ⟨rfl, rfl⟩
theorem drawCmp_c (A : Option Addr) (n cap : Nat) (w : World) (hd : DrawIn w w.heap.size A n) : Calls Try.prog 28 #[.slice A n cap] w (TwoPost w) := by
  have H := Lib.hid (two_c A n cap w hd)
  clear hd
  go_enter Try.func28, Try.ntmps28
  go_wp2_with fail
  refine H.out.mono ?_
  rintro e w1 ⟨a, b, rfl, hb⟩
  go_wp2
  go_ret2
  exact ⟨a, b, rfl, hb⟩

/-! Plain facts. -/
theorem Small.at_h {n : Nat} {zs : List Int} (h : Small n zs) (k : Nat) (hk : k < n) : 0 ≤ zs.getD k 0 ∧ zs.getD k 0 < 10000 := by
  have hl : k < zs.length := by rw [h.1]; exact hk
  rw [List.getD_eq_getElem?_getD, List.getElem?_eq_getElem hl]
  exact h.2 _ (List.getElem_mem _)
theorem gS_ok {m : Nat} (h : m < 1000000000000) : okG (gS m) = true := by
  rw [okG_gS]
  have : (1000000000000 : Nat) ≤ 256 ^ 5 := by decide
  have h2 : 256 ^ 5 ≤ 256 ^ 160 := Nat.pow_le_pow_right (by omega) (by omega)
  have : m < GB := by unfold GB; omega
  simpa using this
theorem gS_int {m : Nat} (h : m < 1000000000000) : intB (gS m) = true ∧ intG (gS m) = (m : Int) := by
  have hB : intB (gS m) = true := by unfold intB; rw [gS_ok h, gV_gS]; simp; omega
  exact ⟨hB, by unfold intG; rw [hB, gV_gS]; rfl⟩
theorem bitLen_lt40 {m : Nat} (h : m < 1000000000000) : bitLen m ≤ 40 := by
  unfold bitLen
  split
  · omega
  · rename_i h0; have := (Nat.log2_lt h0 (k := 40)).2 (Nat.lt_of_lt_of_le h (by decide)); omega
theorem lt_bitLen (m : Nat) : m < 2 ^ bitLen m := by
  rcases Nat.eq_zero_or_pos m with rfl | h
  · decide
  · have h0 : m ≠ 0 := by omega
    unfold bitLen; rw [if_neg h0]
    exact (Nat.log2_lt h0).1 (Nat.lt_succ_self _)
theorem bit_in {m i : Nat} (h : m < 1000000000000) (hi : i < bitLen m) : bitG (gS m) (i : Int) = ((m / 2 ^ i % 2 : Nat) : Int) := by
  have hs : i / 8 < (gS m).size := by
    rcases Nat.lt_or_ge (i / 8) (gS m).size with h1 | h1
    · exact h1
    · exfalso
      have hv := gV_size (gS m)
      rw [gV_gS] at hv
      have e : (256 : Nat) ^ (gS m).size ≤ 2 ^ i := by
        rw [show (256 : Nat) = 2 ^ 8 from rfl, ← Nat.pow_mul]; exact Nat.pow_le_pow_right (by omega) (by omega)
      have hm0 : m ≠ 0 := fun e0 => by rw [e0] at hi; exact absurd hi (Nat.not_lt_zero _)
      have : 2 ^ (bitLen m - 1) ≤ m := by
        unfold bitLen; rw [if_neg hm0, Nat.add_sub_cancel]; exact (Nat.le_log2 hm0).1 (Nat.le_refl _)
      have e2 : 2 ^ i ≤ 2 ^ (bitLen m - 1) := Nat.pow_le_pow_right (by omega) (by omega)
      omega
  unfold bitG
  rw [gS_ok h, gV_gS, Int.toNat_natCast]
  have d1 : decide (0 ≤ (i : Int)) = true := by simp
  have d2 : decide (i / 8 < (gS m).size) = true := by simpa using hs
  rw [d1, d2]; rfl
theorem half_step (m j : Nat) : 2 * (m / 2 ^ (j + 1)) + m / 2 ^ j % 2 = m / 2 ^ j := by
  rw [Nat.pow_succ, ← Nat.div_div_eq_div_mul]; omega
theorem cmp_neg (a b : ByteArray) : cmpG a b = -(cmpG b a) := by
  unfold cmpG okT
  rw [Bool.and_comm (okG b)]
  split
  · unfold cmpI
    rcases Nat.lt_trichotomy (gV a) (gV b) with h | h | h
    · rw [if_pos h, if_neg (by omega), if_neg (by omega)]
    · rw [if_neg (by omega), if_pos h, if_neg (by omega), if_pos h.symm]; rfl
    · rw [if_neg (by omega), if_neg (by omega), if_pos h]; rfl
  · rfl
theorem cmp_bd (a b : ByteArray) : -1 ≤ cmpG a b ∧ cmpG a b ≤ 1 := by
  unfold cmpG cmpI
  split
  · split
    · omega
    · split <;> omega
  · omega
theorem cmp_bits {a b : ByteArray} (h : cmpG a b = 1) : bitsG b ≤ bitsG a := by
  unfold cmpG okT at h
  cases ha : okG a with
  | false => rw [ha] at h; cases h
  | true =>
    cases hb : okG b with
    | false => rw [ha, hb] at h; cases h
    | true =>
      rw [ha, hb] at h
      have hlt : gV b < gV a := by
        simp only [Bool.and_self, if_true] at h
        unfold cmpI at h
        split at h
        · cases h
        · split at h
          · cases h
          · omega
      unfold bitsG
      rw [ha, hb]
      simp only [if_true]
      have h1 : bitLen (gV b) ≤ bitLen (gV a) := by
        rcases Nat.lt_or_ge (bitLen (gV a)) (bitLen (gV b)) with h2 | h2
        · exfalso
          have la := lt_bitLen (gV a)
          have hb0 : gV b ≠ 0 := fun e0 => by rw [e0] at h2; exact absurd h2 (by simp [bitLen])
          have lb : 2 ^ (bitLen (gV b) - 1) ≤ gV b := by
            unfold bitLen; rw [if_neg hb0, Nat.add_sub_cancel]; exact (Nat.le_log2 hb0).1 (Nat.le_refl _)
          have : 2 ^ bitLen (gV a) ≤ 2 ^ (bitLen (gV b) - 1) := Nat.pow_le_pow_right (by omega) (by omega)
          omega
        · exact h2
      omega
theorem bits128 : bitsG ⟨#[128]⟩ = 8 := by
  have h1 : okG ⟨#[128]⟩ = true := by unfold okG; rfl
  unfold bitsG
  rw [h1]
  have : gV ⟨#[128]⟩ = 128 := rfl
  rw [this]; rfl

theorem DrawIn.mono_ {w : World} {B B' n : Nat} {A : Option Addr} (h : DrawIn w B A n) (hb : B ≤ B') : DrawIn w B' A n :=
  ⟨h.1, fun k hk => by obtain ⟨b, off, c, e, hB, r⟩ := h.2 k hk; exact ⟨b, off, c, e, by omega, r⟩⟩
set_option maxRecDepth 8000 in
set_option maxHeartbeats 4000000 in
theorem ints_walk (a0 : Option Addr) (len0 cap0 : Nat) (z0 : List Int) (w : World) (w0 : IsRow .u8 w a0 len0 cap0 z0) :
    Calls Try.prog 4 #[.slice a0 len0 cap0] w fun e w' => e = .returned (.bool true) ∧ Below w.heap.size w w' := by
  have hlen : len0 ≤ maxLen := by rcases w0 with ⟨_, rfl, _⟩ | ⟨_, _, h1, h2, _⟩ <;> unfold maxLen at * <;> omega
  have HBig := Lib.hid (big_h a0 len0 cap0 w hlen)
  by_cases h1 : 1048576 < len0
  · have hd : decide ((1048576 : Int) < (len0 : Int)) = true := by simp; omega
    clear w0 hlen
    go_enter Try.func4, Try.ntmps4
    go_wp2_with fail
    refine HBig.out.mono ?_
    rintro e w' ⟨rfl, rfl⟩
    go_wp2
    go_ret
    exact ⟨rfl, Below.refl _ _⟩
  have hd : decide ((1048576 : Int) < (len0 : Int)) = false := by simp; omega
  have HDr := Lib.hid (w0.draw (by omega))
  have HP := Lib.hid (places_any a0 len0 cap0 w HDr.out)
  clear w0 hlen h1
  go_enter Try.func4, Try.ntmps4
  go_wp2_with fail
  refine HBig.out.mono ?_
  rintro e w' ⟨rfl, rfl⟩
  go_wp2_with fail
  refine HP.out.mono ?_
  rintro e w1 ⟨v, zs, rfl, hS, hown, hb⟩
  obtain ⟨g, cap, hv, _, _⟩ := hown.form (by omega)
  subst hv
  have hcell : ∀ k, k < 12 → w1.cell? ⟨g, k, none⟩ = some (.int .i64 (zs.getD k 0)) := fun k hk => by
    rw [hown.cellAt k (by omega)]
    have hl : zs.length = 12 := hS.1
    simp [intV, List.getElem?_eq_getElem (show k < zs.length by omega)]
  have c0 := hcell 0 (by omega)
  have c1 := hcell 1 (by omega)
  have c2 := hcell 2 (by omega)
  obtain ⟨l0, u0⟩ := hS.at_h 0 (by omega)
  obtain ⟨l1, u1⟩ := hS.at_h 1 (by omega)
  obtain ⟨l2, u2⟩ := hS.at_h 2 (by omega)
  generalize zs.getD 0 0 = p0 at *
  generalize zs.getD 1 0 = p1 at *
  generalize zs.getD 2 0 = p2 at *
  have q1 : IntKind.i64.wrap (p0 * 100000000) = p0 * 100000000 := IntWalk.i64_in _ (by omega)
  have q2 : IntKind.i64.wrap (p1 * 10000) = p1 * 10000 := IntWalk.i64_in _ (by omega)
  have q3 : IntKind.i64.wrap (p0 * 100000000 + p1 * 10000) = p0 * 100000000 + p1 * 10000 := IntWalk.i64_in _ (by omega)
  obtain ⟨m, hm⟩ : ∃ m : Nat, p0 * 100000000 + p1 * 10000 + p2 = (m : Int) := ⟨(p0 * 100000000 + p1 * 10000 + p2).toNat, by omega⟩
  have q4 : IntKind.i64.wrap (p0 * 100000000 + p1 * 10000 + p2) = (m : Int) := by rw [IntWalk.i64_in _ (by omega)]; exact hm
  have hm12 : m < 1000000000000 := by omega
  have HBw := Lib.hid hb
  clear hcell hown hS hb HP HBig hd hm
  go_wp2_with fail
  go_quiet (fail)
  have HBn := Lib.hid (bd HBw.out nq)
  clear c0 c1 c2 q1 q2 q3 q4 HBw
  generalize w1.drewN nq = w2 at *
  have hof : ofI (m : Int) = gS m := by unfold ofI; rw [Int.toNat_natCast]
  have HOf : Hid (∀ w, Calls Try.prog 24 #[.int .i64 (m : Int)] w fun e w' => e = .returned (.string (gS m)) ∧ Below w.heap.size w w') := fun w => by
    have := greatOf_i (m : Int) w (by omega)
    rw [hof] at this; exact this
  obtain ⟨i1, i2⟩ := gS_int hm12
  have HIn : Hid (∀ w, Calls Try.prog 25 #[.string (gS m)] w fun e w' => e = .returned (.tuple #[.int .i64 (m : Int), .bool true]) ∧ w = w') := fun w => by
    have := greatInt_i (gS m) w
    unfold IntPost at this
    rw [i1, i2] at this; exact this
  have hok := gS_ok hm12
  have hbl : bitsG (gS m) = (bitLen m : Int) := by unfold bitsG; rw [hok, gV_gS]; rfl
  have HBi : Hid (∀ w, Calls Try.prog 26 #[.string (gS m)] w fun e w' => e = .returned (.int .i64 (bitLen m : Int)) ∧ w = w') := fun w => by
    have := bitsOf_i (gS m) w
    rw [hbl] at this; exact this
  have HOk : Hid (∀ w, Calls Try.prog 30 #[.string (gS m)] w fun e w' => e = .returned (.bool true) ∧ w = w') := fun w => by
    have := greatOk_i (gS m) w
    rw [hok] at this; exact this
  have hl40 := bitLen_lt40 hm12
  have HBt : Hid (∀ (i : Nat), i < bitLen m → ∀ w, Calls Try.prog 27 #[.string (gS m), .int .i64 (i : Int)] w fun e w' => e = .returned (.int .i64 ((m / 2 ^ i % 2 : Nat) : Int)) ∧ w = w') := fun i hi w => by
    have := bitOf_i (gS m) (i : Int) (by omega) w
    rw [bit_in hm12 hi] at this; exact this
  have hzero : m / 2 ^ bitLen m = 0 := Nat.div_eq_of_lt (lt_bitLen m)
  have HZ := Lib.hid hzero
  obtain ⟨L, hL⟩ : ∃ L, bitLen m = L := ⟨_, rfl⟩
  rw [hL] at HBi hl40 HBt HZ
  clear hof i1 i2 hok hbl hzero hL
  generalize hs : gS m = S at *
  clear hs
  go_wp2_with fail
  refine (HOf.out _).mono ?_
  rintro e w3 ⟨rfl, b3⟩
  have B3 := Lib.hid (bt HBn.out b3)
  clear b3 HBn HOf
  go_wp2_with fail
  refine (HIn.out _).mono ?_
  rintro e w4 ⟨rfl, rfl⟩
  go_wp2_with fail
  refine (HBi.out _).mono ?_
  rintro e w4 ⟨rfl, rfl⟩
  clear HIn
  go_wp2
  go_loop [8, 9] (fun sv iv => ∃ j : Nat, j ≤ L ∧ iv = .int .i64 ((j : Int) - 1) ∧ sv = .int .i64 ((m / 2 ^ j : Nat) : Int)) (fun _ iv => (intOf iv + 1).toNat)
  case atStart => exact ⟨L, Nat.le_refl _, rfl, by rw [HZ.out]; rfl⟩
  case round =>
    obtain ⟨j, hj, rfl, rfl⟩ := hrel
    by_cases h0 : 0 < j
    · obtain ⟨k, rfl⟩ : ∃ k, j = k + 1 := ⟨j - 1, by omega⟩
      have hji : (((k + 1 : Nat) : Int) - 1) = (k : Int) := by omega
      rw [hji]
      have k1 : (0 : Int) ≤ (k : Int) := by omega
      have k2 : (k : Int) < 64 := by omega
      have hst := half_step m k
      have hle : m / 2 ^ k ≤ m := Nat.div_le_self _ _
      have HB1 := Lib.hid (HBt.out k (by omega))
      obtain ⟨x, hx⟩ : ∃ x, m / 2 ^ (k + 1) = x := ⟨_, rfl⟩
      obtain ⟨y, hy⟩ : ∃ y, m / 2 ^ k % 2 = y := ⟨_, rfl⟩
      obtain ⟨z, hz⟩ : ∃ z, m / 2 ^ k = z := ⟨_, rfl⟩
      rw [hx, hy, hz] at hst
      rw [hz] at hle
      rw [hy] at HB1
      rw [hx]
      have HZ2 := Lib.hid hz
      have e1 : 2 * (x : Int) + (y : Int) = (z : Int) := by omega
      clear hx hy hz hji hst
      go_wp2_with fail
      refine (HB1.out _).mono ?_
      rintro e w5 ⟨rfl, rfl⟩
      go_wp2
      go_round
      case rel => exact ⟨k, by omega, by go_num, by rw [HZ2.out]⟩
      case measure => simp [intOf]
    · obtain rfl : j = 0 := by omega
      have hneg : ¬ (0 : Int) ≤ ((0 : Nat) : Int) - 1 := by omega
      have e0 : m / 2 ^ 0 = m := by simp
      rw [e0]
      have HDr2 := Lib.hid (drawCmp_c a0 len0 cap0 w3 ((HDr.out.below B3.out).mono_ B3.out.size))
      clear e0 HBt HBi HZ
      go_wp2_with fail
      refine HDr2.out.mono ?_
      rintro e w5 ⟨a, b, rfl, b5⟩
      have B5 := Lib.hid (bt B3.out b5)
      clear b5 HDr2 B3 HDr
      obtain ⟨y, hy⟩ : ∃ y, cmpG b a = y := ⟨_, rfl⟩
      have hx : cmpG a b = -y := by rw [← hy]; exact cmp_neg a b
      have hbd := cmp_bd b a
      rw [hy] at hbd
      have HC1 : Hid (∀ w, Calls Try.prog 20 #[.string a, .string b] w fun e w' => e = .returned (.int .i64 (-y)) ∧ w = w') := fun w => by
        have := compareGreat_i a b w
        rw [hx] at this; exact this
      have HC2 : Hid (∀ w, Calls Try.prog 29 #[.string a, .string b] w fun e w' => e = .returned (.int .i64 (-y)) ∧ Below w.heap.size w w') := fun w => by
        have := compareGreat_any a b w
        rw [hx] at this; exact this
      have HC3 : Hid (∀ w, Calls Try.prog 20 #[.string b, .string a] w fun e w' => e = .returned (.int .i64 y) ∧ w = w') := fun w => by
        have := compareGreat_i b a w
        rw [hy] at this; exact this
      have H8 : Hid (∀ w, Calls Try.prog 26 #[.string ⟨#[128]⟩] w fun e w' => e = .returned (.int .i64 8) ∧ w = w') := fun w => by
        have := bitsOf_i ⟨#[128]⟩ w
        rw [bits128] at this; exact this
      have HGi := Lib.hid (greatOk_i a)
      have HGs := Lib.hid (greatOk_any a)
      have HCb : Hid (-y = 1 → bitsG b ≤ bitsG a) := fun h => cmp_bits (by rw [hx]; exact h)
      have hbd1 := hbd.1
      have hbd2 := hbd.2
      clear hbd hx hy
      generalize okG a = ga at *
      have qq : ((-y) != (-y)) = false := by simp
      have qm : ((m : Int) == (m : Int)) = true := by simp
      have qg : (ga == ga) = true := by simp
      go_wp2_with fail
      refine (HC1.out _).mono ?_
      rintro e w6 ⟨rfl, rfl⟩
      go_wp2_with fail
      refine (HC2.out _).mono ?_
      rintro e w6 ⟨rfl, b6⟩
      have B6 := Lib.hid (bt B5.out b6)
      clear b6 B5
      go_wp2_with fail
      refine (HC3.out _).mono ?_
      rintro e w7 ⟨rfl, rfl⟩
      by_cases h1 : y = -1
      · subst h1
        have hle := HCb.out rfl
        have Hba := Lib.hid (bitsOf_i a)
        have Hbb := Lib.hid (bitsOf_i b)
        generalize bitsG a = ba at *
        generalize bitsG b = bbb at *
        have hnl : ¬ ba < bbb := by omega
        clear HC1 HC2 HC3 HCb
        go_wp2_with fail
        refine (Hba.out _).mono ?_
        rintro e w7 ⟨rfl, rfl⟩
        go_wp2_with fail
        refine (Hbb.out _).mono ?_
        rintro e w7 ⟨rfl, rfl⟩
        go_wp2_with fail
        refine (HOk.out _).mono ?_
        rintro e w7 ⟨rfl, rfl⟩
        go_wp2_with fail
        refine (H8.out _).mono ?_
        rintro e w7 ⟨rfl, rfl⟩
        go_wp2_with fail
        refine (HGi.out _).mono ?_
        rintro e w7 ⟨rfl, rfl⟩
        go_wp2_with fail
        refine (HGs.out _).mono ?_
        rintro e w7 ⟨rfl, rfl⟩
        go_wp2
        go_ret
        exact ⟨rfl, B6.out⟩
      · have hn1 : ((-y) == 1) = false := by simp; omega
        clear HC1 HC2 HC3 HCb
        go_wp2_with fail
        refine (HOk.out _).mono ?_
        rintro e w7 ⟨rfl, rfl⟩
        go_wp2_with fail
        refine (H8.out _).mono ?_
        rintro e w7 ⟨rfl, rfl⟩
        go_wp2_with fail
        refine (HGi.out _).mono ?_
        rintro e w7 ⟨rfl, rfl⟩
        go_wp2_with fail
        refine (HGs.out _).mono ?_
        rintro e w7 ⟨rfl, rfl⟩
        go_wp2
        go_ret
        exact ⟨rfl, B6.out⟩
end Go.Proofs.Ytpgckdhnmhjkhaa

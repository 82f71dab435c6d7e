/-
  The contracts of impl.GreatOk, GreatInt, BitsOf, BitOf.
-/
import Derived.Test.YtpgckdhnmhjkhaaILen
namespace Go.Proofs.Ytpgckdhnmhjkhaa
open Go.RowKit

theorem greatOk_i (s : ByteArray) (w : World) : Calls Try.prog 30 #[.string s] w fun e w' => e = .returned (.bool (okG s)) ∧ w = w' := by
  by_cases h1 : 160 < s.size
  · have hd : decide ((s.size : Int) ≤ 160) = false := by simp; omega
    rw [okG_long h1]
    go_enter Try.func30, Try.ntmps30
    go_wp2
    go_ret
    exact ⟨rfl, rfl⟩
  have hd : decide ((s.size : Int) ≤ 160) = true := by simp; omega
  by_cases h2 : s.size = 0
  · have he : s.toList = [] := by have := isEmpty_size (s := s); rw [h2] at this; simpa using this
    rw [okG_empty h2]
    clear h2
    go_enter Try.func30, Try.ntmps30
    go_wp2
    go_ret
    exact ⟨rfl, rfl⟩
  · have he : s.toList.isEmpty = false := by rw [isEmpty_size]; simpa using h2
    have h3 : 0 < s.size := by omega
    have h4 : (0 : Int) < (s.size : Int) := by omega
    rw [okG_head h3 (by omega)]
    clear h2
    go_enter Try.func30, Try.ntmps30
    go_wp2
    go_ret
    exact ⟨rfl, rfl⟩

theorem okG_size' {s : ByteArray} (h : okG s = true) : s.size ≤ 160 := by
  simp only [okG, Bool.and_eq_true, decide_eq_true_eq] at h; exact h.1
/-! BitsOf -/
theorem bits_first {s : ByteArray} (ok : okG s = true) (h : 0 < s.size) : bitLen (gV s) = 8 * (s.size - 1) + bitLen s[0].toNat := by
  have hv := head_val h
  have hlt := gV_size s
  have hge := gV_ge ok h
  have hd : gV s / 256 ^ (s.size - 1) < 256 := by
    rw [Nat.div_lt_iff_lt_mul (Nat.pow_pos (by omega)), ← Nat.pow_succ', show (s.size - 1).succ = s.size from by omega]; exact hlt
  rw [Nat.mod_eq_of_lt hd] at hv
  have e : (256 : Nat) ^ (s.size - 1) = 2 ^ (8 * (s.size - 1)) := by rw [show (256 : Nat) = 2 ^ 8 from rfl, ← Nat.pow_mul]
  rw [e] at hv hge
  rw [bitLen_shift hge, hv]; omega
set_option maxHeartbeats 1000000 in
theorem bitsOf_i (s : ByteArray) (w : World) : Calls Try.prog 26 #[.string s] w fun e w' => e = .returned (.int .i64 (bitsG s)) ∧ w = w' := by
  have HG := greatOk_i s
  unfold bitsG
  cases ok : okG s with
  | false =>
    rw [ok] at HG
    go_enter Try.func26, Try.ntmps26
    go_wp2_with fail
    refine (HG _).mono ?_
    rintro e w1 ⟨rfl, rfl⟩
    go_wp2
    go_ret
    exact ⟨rfl, rfl⟩
  | true =>
    rw [ok] at HG
    have hs := okG_size' ok
    by_cases h0 : s.size = 0
    · have he : s.toList = [] := by have := isEmpty_size (s := s); rw [h0] at this; simpa using this
      have E : Hid (bitLen (gV s) = 0) := by
        show _ = _
        have : s.data.toList = [] := List.eq_nil_of_length_eq_zero (by simpa using h0)
        unfold gV; rw [this]; rfl
      clear h0
      go_enter Try.func26, Try.ntmps26
      go_wp2_with fail
      refine (HG _).mono ?_
      rintro e w1 ⟨rfl, rfl⟩
      go_wp2
      go_ret
      exact ⟨by rw [E.out]; rfl, rfl⟩
    · have he : s.toList.isEmpty = false := by rw [isEmpty_size]; simpa using h0
      have hp : 0 < s.size := by omega
      have h4 : (0 : Int) < (s.size : Int) := by omega
      have E := Lib.hid (bits_first ok hp)
      have hc := s[0].toNat_lt
      have H := Lib.hid (len8_any s[0].toNat hc)
      have hb := bitLen_small hc
      obtain ⟨b, hb2⟩ : ∃ b, bitLen s[0].toNat = b := ⟨_, rfl⟩
      rw [hb2] at H hb E
      clear hb2 h0 ok
      go_enter Try.func26, Try.ntmps26
      go_wp2_with fail
      refine (HG _).mono ?_
      rintro e w1 ⟨rfl, rfl⟩
      go_wp2_with fail
      refine (H.out _).mono ?_
      rintro e w1 ⟨rfl, rfl⟩
      go_wp2
      go_ret
      exact ⟨ret_int (by rw [E.out]; show _ = ((8 * (s.size - 1) + b : Nat) : Int); omega), rfl⟩

/-! GreatInt -/
set_option maxHeartbeats 1000000 in
theorem greatInt_i (s : ByteArray) (w : World) : Calls Try.prog 25 #[.string s] w (IntPost s w) := by
  have HG := greatOk_i s
  have HB := bitsOf_i s
  cases ok : okG s with
  | false =>
    rw [ok] at HG
    have N := Lib.hid (int_no (s := s) (by unfold intB; rw [ok]; rfl))
    go_enter Try.func25, Try.ntmps25
    go_wp2_with fail
    refine (HG _).mono ?_
    rintro e w1 ⟨rfl, rfl⟩
    go_wp2
    go_ret2
    exact N.out _
  | true =>
    rw [ok] at HG
    have hbg : bitsG s = (bitLen (gV s) : Int) := by unfold bitsG; rw [ok]; rfl
    rw [hbg] at HB
    have hs := okG_size' ok
    have hiff : intB s = decide (bitLen (gV s) ≤ 63) := by
      unfold intB
      rw [ok, Bool.true_and, Bool.eq_iff_iff]
      simp only [decide_eq_true_eq]
      unfold bitLen
      by_cases hz : gV s = 0
      · rw [if_pos hz, hz]; simp
      · rw [if_neg hz]
        have := Nat.log2_lt hz (k := 63)
        constructor
        · intro h; have := this.2 (by omega); omega
        · intro h; have := this.1 (by omega); omega
    cases hB : intB s with
    | false =>
      have N := Lib.hid (int_no hB)
      rw [hB] at hiff
      have h63 : (63 : Int) < (bitLen (gV s) : Int) := by have := hiff.symm; simp at this; omega
      clear hiff hB hbg ok
      generalize bitLen (gV s) = bl at *
      go_enter Try.func25, Try.ntmps25
      go_wp2_with fail
      refine (HG _).mono ?_
      rintro e w1 ⟨rfl, rfl⟩
      go_wp2_with fail
      refine (HB _).mono ?_
      rintro e w1 ⟨rfl, rfl⟩
      go_wp2
      go_ret2
      exact N.out _
    | true =>
      have Y : Hid (∀ w, IntPost s w (.returned (.tuple #[.int .i64 (gV s : Int), .bool true])) w) := fun w => ⟨by unfold intG; rw [hB]; rfl, rfl⟩
      have hV : Hid (gV s < 9223372036854775808) := by
        have := hB
        unfold intB at this
        rw [ok, Bool.true_and] at this
        show gV s < 9223372036854775808
        simpa using this
      rw [hB] at hiff
      have h63 : ¬ (63 : Int) < (bitLen (gV s) : Int) := by have := hiff.symm; simp at this; omega
      clear hiff hB hbg ok
      generalize bitLen (gV s) = bl at *
      go_enter Try.func25, Try.ntmps25
      go_wp2_with fail
      refine (HG _).mono ?_
      rintro e w1 ⟨rfl, rfl⟩
      go_wp2_with fail
      refine (HB _).mono ?_
      rintro e w1 ⟨rfl, rfl⟩
      clear HG HB
      go_wp2
      go_loop [4, 16] (fun nv iv => ∃ i : Nat, i ≤ s.size ∧ iv = .int .i64 i ∧ nv = .int .i64 (bN (s.data.toList.take i) : Int)) (fun _ iv => s.size - (intOf iv).toNat)
      case atStart => exact ⟨0, by omega, rfl, by simp [bN]⟩
      case round =>
        obtain ⟨i, his, rfl, rfl⟩ := hrel
        by_cases hlt : i < s.size
        · have hlt' : (i : Int) < (s.size : Int) := by omega
          have e := take_snoc s i hlt
          have hle := bN_take_le s.data.toList (i + 1)
          rw [e, bN_snoc] at hle
          have hle2 := Nat.lt_of_le_of_lt hle hV.out
          have hc := s[i].toNat_lt
          have E : Hid (bN (s.data.toList.take (i + 1)) = 256 * bN (s.data.toList.take i) + s[i].toNat) := by rw [e, bN_snoc]; exact rfl
          obtain ⟨n, hn⟩ : ∃ n, bN (s.data.toList.take i) = n := ⟨_, rfl⟩
          rw [hn] at hle2 E ⊢
          have ho := orL8 n s[i].toNat hc hle2
          have q1 : IntKind.i64.wrap (256 * (n : Int)) = 256 * (n : Int) := IntWalk.i64_in _ (by omega)
          have q2 : IntKind.i64.wrap ((n : Int) * 256) = 256 * (n : Int) := by rw [IntWalk.i64_in _ (by omega)]; omega
          clear hn hle hle2 e
          go_wp2
          go_round
          case rel => exact ⟨i + 1, by omega, by go_num, by rw [E.out]; simp⟩
          case measure => simp [intOf]; omega
        · obtain rfl : i = s.size := by omega
          rw [take_all]
          go_wp2
          go_ret2
          exact Y.out _

/-! BitOf -/
set_option maxHeartbeats 1000000 in
theorem bitOf_i (s : ByteArray) (i : Int) (hi : -9223372036854775808 ≤ i ∧ i ≤ 9223372036854775807) (w : World) : Calls Try.prog 27 #[.string s, .int .i64 i] w fun e w' => e = .returned (.int .i64 (bitG s i)) ∧ w = w' := by
  have HG := greatOk_i s
  unfold bitG
  cases ok : okG s with
  | false =>
    rw [ok] at HG
    go_enter Try.func27, Try.ntmps27
    go_wp2_with fail
    refine (HG _).mono ?_
    rintro e w1 ⟨rfl, rfl⟩
    go_wp2
    go_ret
    exact ⟨rfl, rfl⟩
  | true =>
    rw [ok] at HG
    have hs := okG_size' ok
    by_cases h0 : i < 0
    · have hd : decide (0 ≤ i) = false := by simpa using h0
      rw [hd]
      clear hd
      go_enter Try.func27, Try.ntmps27
      go_wp2_with fail
      refine (HG _).mono ?_
      rintro e w1 ⟨rfl, rfl⟩
      go_wp2
      go_ret
      exact ⟨rfl, rfl⟩
    · obtain ⟨k, rfl⟩ : ∃ k : Nat, i = (k : Int) := ⟨i.toNat, by omega⟩
      have hd : decide (0 ≤ (k : Int)) = true := by simp
      rw [hd, Int.toNat_natCast]
      by_cases h1 : k / 8 < s.size
      · have hd1 : decide (k / 8 < s.size) = true := by simpa using h1
        have h2 : ¬ 8 * (s.size : Int) ≤ (k : Int) := by omega
        rw [hd1]
        have B := bit_at h1
        obtain ⟨j, hj⟩ : ∃ j, s.size - 1 - k / 8 = j := ⟨_, rfl⟩
        obtain ⟨r, hr⟩ : ∃ r, k % 8 = r := ⟨_, rfl⟩
        have hjs : j < s.size := by omega
        simp only [hj, hr] at B
        have j1 : (s.size : Int) - 1 - (k : Int) / 8 = (j : Int) := by omega
        have j2 : (k : Int) % 8 = (r : Int) := by omega
        have j3 : (j : Int) < (s.size : Int) := by omega
        have j4 : (r : Int) ≤ 8 := by omega
        obtain ⟨y, hy⟩ : ∃ y, s[j].toNat / 2 ^ r = y := ⟨_, rfl⟩
        have hy2 : (s[j].toNat : Int) / 2 ^ r = (y : Int) := by rw [← hy]; simp
        have hy3 : y < 256 := by rw [← hy]; exact Nat.lt_of_le_of_lt (Nat.div_le_self _ _) s[j].toNat_lt
        have hand : bits .and .i64 (y : Int) 1 = ((y % 2 : Nat) : Int) := by
          have h255 : (BitVec.ofInt 64 1).toNat = 2 ^ 1 - 1 := by decide
          have key : (BitVec.ofInt 64 (y : Int) &&& BitVec.ofInt 64 1).toNat = ((y : Int) % ((2 ^ 64 : Nat) : Int)).toNat % 2 ^ 1 := by
            rw [BitVec.toNat_and, BitVec.toNat_ofInt, h255, Nat.and_two_pow_sub_one_eq_mod]
          show IntKind.i64.wrap ((BitVec.ofInt 64 (y : Int) &&& BitVec.ofInt 64 1).toNat : Nat) = _
          rw [key, IntKind.wrap_i64]
          omega
        rw [hy] at B
        rw [← B]
        obtain ⟨z, hz⟩ : ∃ z, y % 2 = z := ⟨_, rfl⟩
        rw [hz] at hand ⊢
        clear B hj hr hy hz h1 hd hd1
        go_enter Try.func27, Try.ntmps27
        go_wp2_with fail
        refine (HG _).mono ?_
        rintro e w1 ⟨rfl, rfl⟩
        go_wp2
        go_ret
        exact ⟨rfl, rfl⟩
      · have hd1 : decide (k / 8 < s.size) = false := by simpa using h1
        have h2 : 8 * (s.size : Int) ≤ (k : Int) := by omega
        rw [hd1]
        clear hd hd1
        go_enter Try.func27, Try.ntmps27
        go_wp2_with fail
        refine (HG _).mono ?_
        rintro e w1 ⟨rfl, rfl⟩
        go_wp2
        go_ret
        exact ⟨rfl, rfl⟩
end Go.Proofs.Ytpgckdhnmhjkhaa

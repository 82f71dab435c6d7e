/-
  The contracts of spec.GreatInt, BitsOf, BitOf.
-/
import Derived.Test.YtpgckdhnmhjkhaaNBits
namespace Go.Proofs.Ytpgckdhnmhjkhaa
open Go.RowKit

/-- A lower part put under a higher one. -/
theorem orL (k a c : Nat) (hc : c < 2 ^ k) (h : 2 ^ k * a + c < 9223372036854775808) : bits .or .i64 (((2 ^ k * a : Nat) : Int)) (c : Int) = ((2 ^ k * a + c : Nat) : Int) := by
  show IntKind.i64.wrap ((BitVec.ofInt 64 ((2 ^ k * a : Nat) : Int) ||| BitVec.ofInt 64 (c : Int)).toNat : Nat) = _
  rw [BitVec.toNat_or, BitVec.toNat_ofInt, BitVec.toNat_ofInt]
  have e1 : (((2 ^ k * a : Nat) : Int) % ((2 ^ 64 : Nat) : Int)).toNat = 2 ^ k * a := by
    generalize 2 ^ k * a = y at *; omega
  have e2 : ((c : Int) % ((2 ^ 64 : Nat) : Int)).toNat = c := by
    generalize 2 ^ k * a = y at *; omega
  rw [e1, e2, ← Nat.two_pow_add_eq_or_of_lt hc]
  generalize 2 ^ k * a + c = y at *
  rw [IntKind.wrap_i64]; omega
theorem orL8 (a c : Nat) (hc : c < 256) (h : 256 * a + c < 9223372036854775808) : bits .or .i64 (256 * (a : Int)) (c : Int) = 256 * (a : Int) + (c : Int) := by
  have := orL 8 a c hc h
  simpa using this
theorem orL24 (a c : Nat) (hc : c < 16777216) (h : 16777216 * a + c < 9223372036854775808) : bits .or .i64 (16777216 * (a : Int)) (c : Int) = 16777216 * (a : Int) + (c : Int) := by
  have := orL 24 a c hc h
  simpa using this
theorem bN_take_le (l : List UInt8) (k : Nat) : bN (l.take k) ≤ bN l := by
  have e := List.take_append_drop k l
  conv => rhs; rw [← e]
  rw [bN_append]
  have : bN (l.take k) * 1 ≤ bN (l.take k) * 256 ^ (l.drop k).length := Nat.mul_le_mul_left _ (Nat.pow_pos (by omega))
  omega
theorem bN_at {l : List UInt8} {k : Nat} (h : k < l.length) : bN l / 256 ^ (l.length - 1 - k) % 256 = l[k].toNat := by
  have e : l = l.take k ++ [l[k]] ++ l.drop (k + 1) := by
    rw [← List.take_succ_eq_append_getElem h, List.take_append_drop]
  have hd : (l.drop (k + 1)).length = l.length - 1 - k := by rw [List.length_drop]; omega
  have hv : bN l = bN (l.take k ++ [l[k]]) * 256 ^ (l.length - 1 - k) + bN (l.drop (k + 1)) := by
    conv => lhs; rw [e]
    rw [bN_append, hd]
  have hlt := bN_lt (l.drop (k + 1))
  rw [hd] at hlt
  rw [hv, Nat.add_comm, Nat.add_mul_div_right _ _ (Nat.pow_pos (by omega)), Nat.div_eq_of_lt hlt, bN_snoc]
  have := l[k].toNat_lt
  omega

/-! GreatInt -/
def intB (s : ByteArray) : Bool := okG s && decide (gV s < 9223372036854775808)
def intG (s : ByteArray) : Int := if intB s then (gV s : Int) else 0
theorem head_val {s : ByteArray} (h : 0 < s.size) : s[0].toNat = gV s / 256 ^ (s.size - 1) % 256 := by
  have hl : 0 < s.data.toList.length := by simpa using h
  have := bN_at (l := s.data.toList) (k := 0) hl
  have e : s.data.toList.length = s.size := by simp
  rw [e] at this
  unfold gV
  rw [show s.size - 1 = s.size - 1 - 0 from by omega, this]
  rfl
theorem gV_size (s : ByteArray) : gV s < 256 ^ s.size := by
  have := bN_lt s.data.toList
  have e : s.data.toList.length = s.size := by simp
  rw [e] at this; exact this
theorem gV_ge {s : ByteArray} (ok : okG s = true) (h : 0 < s.size) : 256 ^ (s.size - 1) ≤ gV s := by
  simp only [okG, Bool.and_eq_true] at ok
  have e : s.data.toList.length = s.size := by simp
  have hne : s.data.toList ≠ [] := by intro e2; rw [e2] at e; simp at e; omega
  have := headOk_pos ok.2 hne
  rw [e] at this; exact this
theorem intB_long {s : ByteArray} (ok : okG s = true) (h : 8 < s.size) : intB s = false := by
  unfold intB
  have := gV_ge ok (by omega)
  have : 256 ^ 8 ≤ 256 ^ (s.size - 1) := Nat.pow_le_pow_right (by omega) (by omega)
  have : decide (gV s < 9223372036854775808) = false := by simp only [decide_eq_false_iff_not]; omega
  rw [this]; simp
theorem intB_eight {s : ByteArray} (ok : okG s = true) (h : s.size = 8) : intB s = decide (s[0].toNat ≤ 127) := by
  have h1 := head_val (s := s) (by omega)
  have h2 := gV_size s
  have e1 : 256 ^ (s.size - 1) = 256 ^ 7 := by rw [h]
  rw [e1] at h1
  rw [h] at h2
  unfold intB
  rw [ok, Bool.true_and, Bool.eq_iff_iff]
  simp only [decide_eq_true_eq]
  omega
theorem intB_short {s : ByteArray} (ok : okG s = true) (h : s.size < 8) : intB s = true := by
  have h2 := gV_size s
  have : 256 ^ s.size ≤ 256 ^ 7 := Nat.pow_le_pow_right (by omega) (by omega)
  unfold intB
  rw [ok, Bool.true_and]
  simp only [decide_eq_true_eq]
  omega
def IntPost (s : ByteArray) (w : World) (e : Ending) (w' : World) : Prop := e = .returned (.tuple #[.int .i64 (intG s), .bool (intB s)]) ∧ w = w'
theorem int_no {s : ByteArray} (h : intB s = false) (w : World) : IntPost s w (.returned (.tuple #[.int .i64 0, .bool false])) w := ⟨by unfold intG; rw [h]; rfl, rfl⟩
set_option maxHeartbeats 1000000 in
theorem greatInt_any (s : ByteArray) (w : World) : Calls Try.prog 32 #[.string s] w (IntPost s w) := by
  have HG := greatOk_any s
  cases ok : okG s with
  | false =>
    rw [ok] at HG
    have N := Lib.hid (int_no (s := s) (by unfold intB; rw [ok]; rfl))
    go_enter Try.func32, Try.ntmps32
    go_wp2_with fail
    refine (HG _).mono ?_
    rintro e w1 ⟨rfl, rfl⟩
    go_wp2
    go_ret2
    exact N.out _
  | true =>
    rw [ok] at HG
    by_cases h9 : 8 < s.size
    · have N := Lib.hid (int_no (intB_long ok h9))
      have h9' : (8 : Int) < (s.size : Int) := by omega
      go_enter Try.func32, Try.ntmps32
      go_wp2_with fail
      refine (HG _).mono ?_
      rintro e w1 ⟨rfl, rfl⟩
      go_wp2
      go_ret2
      exact N.out _
    have h9' : ¬ (8 : Int) < (s.size : Int) := by omega
    cases hB : intB s with
    | false =>
      have h8 : s.size = 8 := by
        rcases Nat.lt_or_ge s.size 8 with h | h
        · rw [intB_short ok h] at hB; cases hB
        · omega
      have N := Lib.hid (int_no hB)
      rw [intB_eight ok h8] at hB
      simp only [decide_eq_false_iff_not] at hB
      have h0 : 0 < s.size := by omega
      have q1 : ((s.size : Int) == 8) = true := by simp [h8]
      have q2 : (127 : Int) < (s[0].toNat : Int) := by omega
      have q3 : (0 : Int) < (s.size : Int) := by omega
      clear h8 hB
      go_enter Try.func32, Try.ntmps32
      go_wp2_with fail
      refine (HG _).mono ?_
      rintro e w1 ⟨rfl, rfl⟩
      go_wp2
      go_ret2
      exact N.out _
    | true =>
      have Y : Hid (∀ w, IntPost s w (.returned (.tuple #[.int .i64 (gV s : Int), .bool true])) w) := fun w => ⟨by unfold intG; rw [hB]; rfl, rfl⟩
      have hV : Hid (gV s < 9223372036854775808) := by
        have := hB
        unfold intB at this
        rw [ok, Bool.true_and] at this
        show gV s < 9223372036854775808
        simpa using this
      have hq : ((s.size : Int) == 8) = false ∨ (((s.size : Int) == 8) = true ∧ ∃ h : 0 < s.size, ¬ (127 : Int) < (s[0].toNat : Int)) := by
        by_cases h8 : s.size = 8
        · refine .inr ⟨by simp [h8], by omega, ?_⟩
          rw [intB_eight ok h8] at hB
          simp at hB
          omega
        · exact .inl (by simp; omega)
      have hs8 : s.size ≤ 8 := by omega
      clear hB ok h9
      go_enter Try.func32, Try.ntmps32
      go_wp2_with fail
      refine (HG _).mono ?_
      rintro e w1 ⟨rfl, rfl⟩
      clear HG
      rcases hq with hq | ⟨hq, h0, hq2⟩
      all_goals (
        go_wp2
        go_loop [4, 5] (fun nv iv => ∃ i : Nat, i ≤ s.size ∧ iv = .int .i64 i ∧ nv = .int .i64 (bN (s.data.toList.take i) : Int)) (fun _ iv => s.size - (intOf iv).toNat)
        case atStart => exact ⟨0, by omega, rfl, by simp [bN]⟩
        case round =>
          obtain ⟨i, his, rfl, rfl⟩ := hrel
          by_cases hlt : i < s.size
          · have hlt' : (i : Int) < (s.size : Int) := by omega
            have e := take_snoc s i hlt
            have hle := bN_take_le s.data.toList (i + 1)
            rw [e, bN_snoc] at hle
            have hle2 := Nat.lt_of_le_of_lt hle hV.out
            have hc := s[i].toNat_lt
            have E : Hid (bN (s.data.toList.take (i + 1)) = 256 * bN (s.data.toList.take i) + s[i].toNat) := by rw [e, bN_snoc]; exact rfl
            obtain ⟨n, hn⟩ : ∃ n, bN (s.data.toList.take i) = n := ⟨_, rfl⟩
            rw [hn] at hle2 E ⊢
            have ho := orL8 n s[i].toNat hc hle2
            have q1 : IntKind.i64.wrap (256 * (n : Int)) = 256 * (n : Int) := IntWalk.i64_in _ (by omega)
            have q2 : IntKind.i64.wrap ((n : Int) * 256) = 256 * (n : Int) := by rw [IntWalk.i64_in _ (by omega)]; omega
            clear hn hle hle2 e
            go_wp2
            go_round
            case rel => exact ⟨i + 1, by omega, by go_num, by rw [E.out]; simp⟩
            case measure => simp [intOf]; omega
          · obtain rfl : i = s.size := by omega
            rw [take_all]
            have Y2 := Lib.hid (Y.out)
            go_wp2
            go_ret2
            exact Y.out _)

/-! BitsOf -/
def bitLen (v : Nat) : Nat := if v = 0 then 0 else v.log2 + 1
theorem bitLen_eq {v b : Nat} (h1 : 2 ^ b ≤ v) (h2 : v < 2 ^ (b + 1)) : bitLen v = b + 1 := by
  have hv : v ≠ 0 := by have := Nat.pow_pos (n := b) (show 0 < 2 by omega); omega
  unfold bitLen
  rw [if_neg hv]
  have a1 := (Nat.le_log2 hv).2 h1
  have a2 := (Nat.log2_lt hv).2 h2
  omega
def bitsG (s : ByteArray) : Int := if okG s then (bitLen (gV s) : Int) else -1
/-- A text's bits, by its first byte. -/
theorem bits_head {s : ByteArray} (h : 0 < s.size) {k x : Nat} (hk : k ≤ 7) (hx : x = s[0].toNat * 2 ^ k) (h1 : 128 ≤ x) (h2 : x < 256) : bitLen (gV s) + k = 8 * s.size := by
  have hv := head_val h
  have hlt := gV_size s
  obtain ⟨n, hn⟩ : ∃ n, s.size = n + 1 := ⟨s.size - 1, by omega⟩
  have e1 : 256 ^ (s.size - 1) = 256 ^ n := by rw [hn]; rfl
  have e2 : 256 ^ s.size = 256 * 256 ^ n := by rw [hn, Nat.pow_succ, Nat.mul_comm]
  rw [e1] at hv
  rw [e2] at hlt
  obtain ⟨p, hp⟩ : ∃ p, 256 ^ n = p := ⟨_, rfl⟩
  have hp0 : 0 < p := by rw [← hp]; exact Nat.pow_pos (by omega)
  have hp2 : p = 2 ^ (8 * n) := by rw [← hp, show (256 : Nat) = 2 ^ 8 from rfl, ← Nat.pow_mul]
  rw [hp] at hv hlt
  have hq : gV s / p < 256 := (Nat.div_lt_iff_lt_mul hp0).2 (by omega)
  have hv2 : s[0].toNat = gV s / p := by rw [hv]; exact Nat.mod_eq_of_lt hq
  obtain ⟨d, hd⟩ : ∃ d, gV s / p = d := ⟨_, rfl⟩
  rw [hd] at hv2 hq
  have hdm := Nat.div_add_mod (gV s) p
  rw [hd] at hdm
  have hr := Nat.mod_lt (gV s) hp0
  rw [hv2] at hx
  have hkk : (2 : Nat) ^ 7 = 2 ^ (7 - k) * 2 ^ k := by rw [← Nat.pow_add]; congr 1; omega
  have hkk2 : (2 : Nat) ^ 8 = 2 ^ (8 - k) * 2 ^ k := by rw [← Nat.pow_add]; congr 1; omega
  have d1 : 2 ^ (7 - k) ≤ d := by
    rcases Nat.lt_or_ge d (2 ^ (7 - k)) with h | h
    · have := Nat.mul_lt_mul_of_pos_right h (Nat.pow_pos (n := k) (show 0 < 2 by omega)); omega
    · exact h
  have d2 : d < 2 ^ (8 - k) := by
    rcases Nat.lt_or_ge d (2 ^ (8 - k)) with h | h
    · exact h
    · have := Nat.mul_le_mul_right (2 ^ k) h; omega
  have hb : bitLen (gV s) = 7 - k + 8 * n + 1 := by
    refine bitLen_eq ?_ ?_
    · rw [Nat.pow_add, ← hp2]
      have := Nat.mul_le_mul_right p d1
      rw [Nat.mul_comm d p] at this; omega
    · rw [show 7 - k + 8 * n + 1 = 8 - k + 8 * n from by omega, Nat.pow_add, ← hp2]
      have := Nat.mul_le_mul_right p (show d + 1 ≤ 2 ^ (8 - k) from d2)
      rw [Nat.add_mul, Nat.mul_comm d p] at this; omega
  rw [hb, hn]; omega
set_option maxHeartbeats 1000000 in
theorem bitsOf_any (s : ByteArray) (w : World) : Calls Try.prog 37 #[.string s] w fun e w' => e = .returned (.int .i64 (bitsG s)) ∧ w = w' := by
  have HG := greatOk_any s
  unfold bitsG
  cases ok : okG s with
  | false =>
    rw [ok] at HG
    go_enter Try.func37, Try.ntmps37
    go_wp2_with fail
    refine (HG _).mono ?_
    rintro e w1 ⟨rfl, rfl⟩
    go_wp2
    go_ret
    exact ⟨rfl, rfl⟩
  | true =>
    rw [ok] at HG
    have hs := okG_size ok
    by_cases h0 : s.size = 0
    · have E : Hid (bitLen (gV s) = 0) := by
        show _ = _
        have : s.data.toList = [] := List.eq_nil_of_length_eq_zero (by simpa using h0)
        unfold gV; rw [this]; rfl
      have h0' : ¬ (0 : Int) < (s.size : Int) := by omega
      have h0'' : (s.size : Int) = 0 := by omega
      go_enter Try.func37, Try.ntmps37
      go_wp2_with fail
      refine (HG _).mono ?_
      rintro e w1 ⟨rfl, rfl⟩
      go_wp2
      go_ret
      exact ⟨by rw [E.out]; rfl, rfl⟩
    · have hp : 0 < s.size := by omega
      have h0' : (0 : Int) < (s.size : Int) := by omega
      have hne : Hid (0 < s[0].toNat) := by
        show 0 < s[0].toNat
        have := okG_head hp hs
        rw [ok] at this
        have : s[0].toNat ≠ 0 := by simpa using this.symm
        omega
      have hc := s[0].toNat_lt
      clear ok h0
      go_enter Try.func37, Try.ntmps37
      go_wp2_with fail
      refine (HG _).mono ?_
      rintro e w1 ⟨rfl, rfl⟩
      go_wp2
      go_loop [3, 4] (fun nv xv => ∃ k x : Nat, k ≤ 7 ∧ x < 256 ∧ Hid (x = s[0].toNat * 2 ^ k) ∧ xv = .int .u8 x ∧ nv = .int .i64 (8 * (s.size : Int) - k)) (fun _ xv => 256 - (intOf xv).toNat)
      case atStart => exact ⟨0, s[0].toNat, by omega, hc, by show _ = _; simp, rfl, by simp⟩
      case round =>
        obtain ⟨k, x, hk, hx, hX, rfl, rfl⟩ := hrel
        by_cases hlt : x < 128
        · have hlt' : (x : Int) < 128 := by omega
          have hk6 : k < 7 := by
            rcases Nat.lt_or_ge k 7 with h | h
            · exact h
            · exfalso
              have e : k = 7 := by omega
              have a := hX.out
              have b := hne.out
              rw [e] at a; omega
          have hx0 : 0 < x := by
            rw [hX.out]; exact Nat.mul_pos hne.out (Nat.pow_pos (by omega))
          have hX2 : Hid (2 * x = s[0].toNat * 2 ^ (k + 1)) := by show _ = _; rw [Nat.pow_succ, ← Nat.mul_assoc, ← hX.out]; omega
          have q1 : IntKind.u8.wrap ((x : Int) * 2) = 2 * (x : Int) := by rw [IntKind.wrap_u8]; omega
          have q2 : IntKind.u8.wrap (2 * (x : Int)) = 2 * (x : Int) := by rw [IntKind.wrap_u8]; omega
          clear hX
          go_wp2
          go_round
          case rel => exact ⟨k + 1, 2 * x, by omega, by omega, hX2, by go_num, by go_num⟩
          case measure => simp [intOf]; omega
        · have hlt' : ¬ (x : Int) < 128 := by omega
          have E := Lib.hid (bits_head hp hk hX.out (by omega) hx)
          clear hX
          go_wp2
          go_ret
          refine ⟨?_, rfl⟩
          have e := E.out
          have : (bitLen (gV s) : Int) = 8 * (s.size : Int) - k := by omega
          rw [this]; rfl

/-! BitOf -/
def bitG (s : ByteArray) (i : Int) : Int := if okG s && decide (0 ≤ i) && decide (i.toNat / 8 < s.size) then ((gV s / 2 ^ i.toNat % 2 : Nat) : Int) else 0
theorem bit_at {s : ByteArray} {i : Nat} (h : i / 8 < s.size) : (s[s.size - 1 - i / 8]'(by omega)).toNat / 2 ^ (i % 8) % 2 = gV s / 2 ^ i % 2 := by
  have hl : s.size - 1 - i / 8 < s.data.toList.length := by simp; show _ < s.size; omega
  have := bN_at hl
  have e : s.data.toList.length = s.size := by simp
  rw [e, show s.size - 1 - (s.size - 1 - i / 8) = i / 8 from by omega] at this
  have e2 : (s[s.size - 1 - i / 8]'(by omega)).toNat = gV s / 256 ^ (i / 8) % 256 := by unfold gV; rw [this]; rfl
  rw [e2]
  have e3 : (2 : Nat) ^ i = 256 ^ (i / 8) * 2 ^ (i % 8) := by
    rw [show (256 : Nat) = 2 ^ 8 from rfl, ← Nat.pow_mul, ← Nat.pow_add]; congr 1; omega
  rw [e3, ← Nat.div_div_eq_div_mul]
  generalize gV s / 256 ^ (i / 8) = v
  have hr : i % 8 < 8 := Nat.mod_lt _ (by omega)
  have e4 : (256 : Nat) = 2 ^ (i % 8) * (2 * 2 ^ (7 - i % 8)) := by
    rw [show (256 : Nat) = 2 ^ 8 from rfl, ← Nat.pow_succ', ← Nat.pow_add]; congr 1; omega
  rw [e4, Nat.mod_mul_right_div_self]
  exact Nat.mod_mul_right_mod _ _ _
theorem andOne (n : Int) : bits .and .i64 n 1 = n % 2 := by
  have h1 : (BitVec.ofInt 64 1).toNat = 2 ^ 1 - 1 := by decide
  have key : (BitVec.ofInt 64 n &&& BitVec.ofInt 64 1).toNat = (n % ((2 ^ 64 : Nat) : Int)).toNat % 2 ^ 1 := by
    rw [BitVec.toNat_and, BitVec.toNat_ofInt, h1, Nat.and_two_pow_sub_one_eq_mod]
  show IntKind.i64.wrap ((BitVec.ofInt 64 n &&& BitVec.ofInt 64 1).toNat : Nat) = n % 2
  rw [key, IntKind.wrap_i64]
  omega
set_option maxHeartbeats 1000000 in
theorem bitOf_any (s : ByteArray) (i : Int) (w : World) (hi : i < 9223372036854775808) : Calls Try.prog 38 #[.string s, .int .i64 i] w fun e w' => e = .returned (.int .i64 (bitG s i)) ∧ w = w' := by
  have HG := greatOk_any s
  unfold bitG
  cases ok : okG s with
  | false =>
    rw [ok] at HG
    clear hi
    go_enter Try.func38, Try.ntmps38
    go_wp2_with fail
    refine (HG _).mono ?_
    rintro e w1 ⟨rfl, rfl⟩
    go_wp2
    go_ret
    exact ⟨rfl, rfl⟩
  | true =>
    rw [ok] at HG
    have hs := okG_size ok
    by_cases h0 : i < 0
    · have E : Hid ((if (true && decide (0 ≤ i) && decide (i.toNat / 8 < s.size)) = true then ((gV s / 2 ^ i.toNat % 2 : Nat) : Int) else 0) = 0) := by
        show _ = _
        have : decide (0 ≤ i) = false := by simp; omega
        rw [this]; rfl
      rw [E.out]
      clear hi
      go_enter Try.func38, Try.ntmps38
      go_wp2_with fail
      refine (HG _).mono ?_
      rintro e w1 ⟨rfl, rfl⟩
      go_wp2
      go_ret
      exact ⟨rfl, rfl⟩
    obtain ⟨m, rfl⟩ : ∃ m : Nat, i = (m : Int) := ⟨i.toNat, by omega⟩
    by_cases h8 : m / 8 < s.size
    · have E : (if (true && decide (0 ≤ (m : Int)) && decide ((m : Int).toNat / 8 < s.size)) = true then ((gV s / 2 ^ (m : Int).toNat % 2 : Nat) : Int) else 0) = ((gV s / 2 ^ m % 2 : Nat) : Int) := by
        have a1 : decide (0 ≤ (m : Int)) = true := by simp
        have a2 : decide ((m : Int).toNat / 8 < s.size) = true := by simpa using h8
        rw [a1, a2, Int.toNat_natCast]; rfl
      rw [E, ← bit_at h8]
      obtain ⟨q, hq⟩ : ∃ q, m / 8 = q := ⟨_, rfl⟩
      obtain ⟨r, hr⟩ : ∃ r, m % 8 = r := ⟨_, rfl⟩
      obtain ⟨p, hp⟩ : ∃ p, s.size - 1 - q = p := ⟨_, rfl⟩
      have hps : p < s.size := by omega
      have hX : (s[s.size - 1 - m / 8]'(by omega)).toNat = s[p].toNat := by congr 2; omega
      have i1 : (m : Int) / 8 = (q : Int) := by omega
      have i1' : Int.tdiv (m : Int) 8 = (q : Int) := by rw [Int.tdiv_eq_ediv_of_nonneg (by omega)]; omega
      have i2 : (m : Int) % 8 = (r : Int) := by omega
      have i2' : Int.tmod (m : Int) 8 = (r : Int) := by rw [Int.tmod_eq_emod_of_nonneg (by omega)]; omega
      have i3 : (s.size : Int) - 1 - (q : Int) = (p : Int) := by omega
      have i4 : ¬ (s.size : Int) ≤ (q : Int) := by omega
      have i5 : (p : Int) < (s.size : Int) := by omega
      have i6 : IntKind.u64.wrap (r : Int) = (r : Int) := by rw [IntKind.wrap_u64]; omega
      have hr8 : r < 8 := by omega
      have i7 : Hid (((s[p].toNat : Int) / 2 ^ r) % 2 = ((s[p].toNat / 2 ^ r % 2 : Nat) : Int)) := by show _ = _; simp
      have i8 : decide ((m : Int) < 0) = false := by simp
      have i9 : decide ((s.size : Int) ≤ (q : Int)) = false := by simpa using i4
      have hand := andOne
      rw [hr, hX]
      have hc := s[p].toNat_lt
      rw [← i7.out]
      clear E hX hq hr hp hi ok h8 h0 i7
      go_enter Try.func38, Try.ntmps38
      go_wp2_with fail
      refine (HG _).mono ?_
      rintro e w1 ⟨rfl, rfl⟩
      go_wp2
      go_ret
      exact ⟨rfl, rfl⟩
    · have E : Hid ((if (true && decide (0 ≤ (m : Int)) && decide ((m : Int).toNat / 8 < s.size)) = true then ((gV s / 2 ^ (m : Int).toNat % 2 : Nat) : Int) else 0) = 0) := by
        show _ = _
        have a2 : decide ((m : Int).toNat / 8 < s.size) = false := by simpa using h8
        rw [a2, Bool.and_false]; rfl
      rw [E.out]
      obtain ⟨q, hq⟩ : ∃ q, m / 8 = q := ⟨_, rfl⟩
      have i1 : (m : Int) / 8 = (q : Int) := by omega
      have i1' : Int.tdiv (m : Int) 8 = (q : Int) := by rw [Int.tdiv_eq_ediv_of_nonneg (by omega)]; omega
      have i4 : (s.size : Int) ≤ (q : Int) := by omega
      have i5 : IntKind.i64.wrap (q : Int) = (q : Int) := IntWalk.i64_in _ (by omega)
      have i6 : decide ((m : Int) < 0) = false := by simp
      have i7 : decide ((s.size : Int) ≤ (q : Int)) = true := by simpa using i4
      clear E hq hi ok h8 h0
      go_enter Try.func38, Try.ntmps38
      go_wp2_with fail
      refine (HG _).mono ?_
      rintro e w1 ⟨rfl, rfl⟩
      go_wp2
      go_ret
      exact ⟨rfl, rfl⟩
end Go.Proofs.Ytpgckdhnmhjkhaa

/-
  The contract of impl's TwosIn.
-/
import Derived.Test.YtpgcnopdbdlahaaGreatJRootA
import Derived.Test.YtpgcnopdbdlahaaGreatISubGreat
namespace Go.Proofs.YtpgcnopdbdlahaaGreat
open Go.RowKit

theorem bN_take (l : List UInt8) (k : Nat) : bN (l.take k) = bN l / 256 ^ (l.length - k) := by
  have e := bN_append (l.take k) (l.drop k)
  rw [List.take_append_drop, List.length_drop] at e
  have hl := bN_lt (l.drop k)
  rw [List.length_drop] at hl
  rw [e, Nat.mul_comm, Nat.mul_add_div (Nat.pow_pos (by omega)), Nat.div_eq_of_lt hl, Nat.add_zero]
theorem gV_cut (s : ByteArray) {k : Nat} (h : k ≤ s.size) : gV (s.extract 0 (s.size - k)) = gV s / 256 ^ k := by
  have hl : s.data.toList.length = s.size := by rw [Array.length_toList]; rfl
  have e : (s.extract 0 (s.size - k)).data.toList = s.data.toList.take (s.size - k) := by
    simp [ByteArray.data_extract]
  unfold gV
  rw [e, bN_take, hl, show s.size - (s.size - k) = k by omega]
theorem cut_size (s : ByteArray) (k : Nat) : (s.extract 0 (s.size - k)).size = s.size - k := by
  simp [ByteArray.size_extract]
/-- A number's bits below its twos are 0, the one behind them is 1. -/
theorem twos_bit {N t : Nat} (h0 : 0 < N) (h : t ≤ twosN N) : N / 2 ^ t % 2 = (if t < twosN N then 0 else 1) ∧ t < bitLen N := by
  obtain ⟨e1, e2⟩ := twos_all N h0
  have hle : 2 ^ t ≤ N := by
    have h1 : 2 ^ t ≤ 2 ^ twosN N := Nat.pow_le_pow_right (by omega) h
    have hpos : 0 < oddN N := by omega
    have h2 : 2 ^ twosN N * 1 ≤ 2 ^ twosN N * oddN N := Nat.mul_le_mul_left _ hpos
    omega
  refine ⟨?_, ?_⟩
  · by_cases ht : t < twosN N
    · rw [if_pos ht]
      obtain ⟨k, hk⟩ : ∃ k, twosN N = t + (k + 1) := ⟨twosN N - t - 1, by omega⟩
      obtain ⟨q, hq⟩ : ∃ q, oddN N = q := ⟨_, rfl⟩
      rw [hk, hq, Nat.pow_add, Nat.mul_assoc] at e1
      rw [e1, Nat.mul_div_cancel_left _ (Nat.pow_pos (by omega)), Nat.pow_succ, Nat.mul_comm (2 ^ k) 2, Nat.mul_assoc, Nat.mul_mod_right]
    · rw [if_neg ht]
      obtain rfl : t = twosN N := by omega
      exact e2
  · have hb := (bitLen_bounds h0).2.1
    rcases Nat.lt_or_ge t (bitLen N) with h3 | h3
    · exact h3
    · exfalso
      have := Nat.pow_le_pow_right (n := 2) (by omega) h3
      omega
theorem twos_size {s : ByteArray} {t : Nat} (h : 2 ^ t ≤ gV s) : t / 8 < s.size := by
  rcases Nat.lt_or_ge (t / 8) s.size with h1 | h1
  · exact h1
  · exfalso
    have h2 := gV_size s
    have h3 : 256 ^ s.size ≤ 256 ^ (t / 8) := Nat.pow_le_pow_right (by omega) h1
    have h4 : (256 : Nat) ^ (t / 8) = 2 ^ (8 * (t / 8)) := by rw [Nat.pow_mul]
    have h5 : (2 : Nat) ^ (8 * (t / 8)) ≤ 2 ^ t := Nat.pow_le_pow_right (by omega) (by omega)
    omega
theorem twos_down (N t : Nat) : N / 256 ^ (t / 8) / 2 ^ (t % 8) = N / 2 ^ t := by
  rw [show (256 : Nat) ^ (t / 8) = 2 ^ (8 * (t / 8)) from by rw [Nat.pow_mul], Nat.div_div_eq_div_mul, ← Nat.pow_add, Nat.div_add_mod]

theorem twos_pow_le {N : Nat} (h0 : 0 < N) : 2 ^ twosN N ≤ N := by
  obtain ⟨e1, e2⟩ := twos_all N h0
  have hpos : 0 < oddN N := by omega
  have h2 : 2 ^ twosN N * 1 ≤ 2 ^ twosN N * oddN N := Nat.mul_le_mul_left _ hpos
  omega
theorem sub_one {p : ByteArray} (hm : modB p = true) : subB p ⟨#[1]⟩ = true ∧ subG p ⟨#[1]⟩ = gS (gV p - 1) := by
  obtain ⟨okp, h1⟩ := modB_parts hm
  have hb : subB p ⟨#[1]⟩ = true := by
    unfold subB okT
    rw [okp, show okG ⟨#[1]⟩ = true from by decide, show gV ⟨#[1]⟩ = 1 from by decide, decide_eq_true (by omega)]; rfl
  refine ⟨hb, ?_⟩
  unfold subG
  rw [hb, if_pos rfl, show gV ⟨#[1]⟩ = 1 from by decide]
theorem bitOf_num {N t b : Nat} (hN : N < GB) (ht : t < bitLen N) (hb : N / 2 ^ t % 2 = b) (h64 : t < 1280) (w : World) : Calls Tryz.prog 69 #[.string (gS N), .int .i64 (t : Int)] w fun e w' => e = .returned (.int .i64 (b : Int)) ∧ w = w' := by
  have e := bit_pow (okS hN) (i := t) (by rw [gV_gS]; exact ht)
  rw [gV_gS, hb] at e
  rw [← e]
  exact bitOf_i (gS N) (t : Int) (by omega) w
set_option maxRecDepth 8000 in
set_option maxHeartbeats 4000000 in
theorem twosIn_i (p : ByteArray) (w : World) : Calls Tryz.prog 30 #[.string p] w (TwosPost p w) := by
  have HM := Lib.hid (leaves_s p)
  unfold TwosPost twosG oddG
  cases hm : modB p with
  | false =>
    rw [hm] at HM
    rw [if_neg (by decide), if_neg (by decide)]
    go_enter Tryz.func30, Tryz.ntmps30
    go_wp2_with fail
    refine (HM.out _).mono ?_
    rintro e w1 ⟨rfl, rfl⟩
    go_wp2
    go_ret2
    exact ⟨rfl, Below.refl _ _⟩
  | true =>
    rw [hm] at HM
    rw [if_pos rfl, if_pos rfl]
    obtain ⟨okp, h1⟩ := modB_parts hm
    have hG := gV_lt okp
    have HS := Lib.hid (subGreat_i p ⟨#[1]⟩)
    rw [(sub_one hm).1, (sub_one hm).2] at HS
    have htw := twos_1280 hG h1
    obtain ⟨N, hN⟩ : ∃ N, gV p - 1 = N := ⟨_, rfl⟩
    rw [hN] at HS htw ⊢
    have hN0 : 0 < N := by omega
    have hNG : N < GB := by omega
    have hsz := twos_size (s := gS N) (t := twosN N) (by rw [gV_gS]; exact twos_pow_le hN0)
    have hs160 := okG_size (okS hNG)
    obtain ⟨T, hT⟩ : ∃ T, twosN N = T := ⟨_, rfl⟩
    have hodd : N / 256 ^ (T / 8) / 2 ^ (T % 8) = oddN N := by rw [twos_down, ← hT]; rfl
    have hoG : oddN N < GB := by rw [← hodd]; exact Nat.lt_of_le_of_lt (Nat.le_trans (Nat.div_le_self _ _) (Nat.div_le_self _ _)) hNG
    have HB0 : Hid (∀ t w, t < T → Calls Tryz.prog 69 #[.string (gS N), .int .i64 ((t : Nat) : Int)] w fun e w' => e = .returned (.int .i64 ((0 : Nat) : Int)) ∧ w = w') := fun t w ht => by
      obtain ⟨q1, q2⟩ := twos_bit hN0 (t := t) (by omega)
      rw [if_pos (by omega)] at q1
      exact bitOf_num hNG q2 q1 (by omega) w
    have HB1 : Hid (∀ w, Calls Tryz.prog 69 #[.string (gS N), .int .i64 (T : Int)] w fun e w' => e = .returned (.int .i64 ((1 : Nat) : Int)) ∧ w = w') := fun w => by
      obtain ⟨q1, q2⟩ := twos_bit hN0 (t := T) (by omega)
      rw [if_neg (by omega)] at q1
      exact bitOf_num hNG q2 q1 (by omega) w
    rw [hT] at hsz htw ⊢
    have hcut := gV_cut (gS N) (k := T / 8) (by omega)
    have hcs := cut_size (gS N) (T / 8)
    have hcutG : gV (gS N) / 256 ^ (T / 8) < GB := Nat.lt_of_le_of_lt (Nat.div_le_self _ _) (by rw [gV_gS]; exact hNG)
    have HR := Lib.hid (fun w => rowOf_any ((gS N).extract 0 ((gS N).size - T / 8)) w (by omega))
    rw [hcut, gV_gS] at HR
    rw [gV_gS] at hcutG
    obtain ⟨V, hV⟩ : ∃ V, N / 256 ^ (T / 8) = V := ⟨_, rfl⟩
    rw [hV] at HR hcutG hodd
    generalize gS N = S at *
    obtain ⟨z, hz0⟩ : ∃ z, S.size = z := ⟨_, rfl⟩
    rw [hz0] at hsz hs160 HR
    obtain ⟨K, hK⟩ : ∃ K, z - T / 8 = K := ⟨_, rfl⟩
    rw [hK] at HR
    obtain ⟨m8, hm8⟩ : ∃ m8, T % 8 = m8 := ⟨_, rfl⟩
    rw [hm8] at hodd
    have hKI : (z : Int) - (T : Int) / 8 = (K : Int) := by omega
    have hKI2 : IntKind.i64.wrap ((z : Int) - (T : Int) / 8) = (K : Int) := by rw [hKI]; exact IntWalk.i64_in _ (by omega)
    have hmI : (T : Int) % 8 = (m8 : Int) := by omega
    have hKz : (K : Int) ≤ (z : Int) := by omega
    have hKz' : K ≤ z := by omega
    have HO := Lib.hid (And.intro hodd hoG)
    have HVG := Lib.hid hcutG
    generalize oddN N = od at *
    obtain ⟨Z, hZ⟩ : ∃ Z, rowC Z81 0 = Z := ⟨_, rfl⟩
    have hz := zero_row.1
    rw [hZ] at hz
    have HZ := Lib.hid hZ
    clear hm okp h1 hG hT hodd hoG hcut hcs hcutG hV hZ hN hN0 hNG
    go_enter Tryz.func30, Tryz.ntmps30
    go_wp2_with fail
    refine (HM.out _).mono ?_
    rintro e w1 ⟨rfl, rfl⟩
    clear HM
    go_wp2_with fail
    refine (HS.out _).mono ?_
    rintro e w1 ⟨rfl, b1⟩
    have HBe := Lib.hid b1
    clear HS b1
    go_wp2
    go_loopw [6] (fun kv wr => ∃ (t : Nat), t ≤ T ∧ kv = .int .i64 (t : Int) ∧ Hid (Below w.heap.size w wr)) (fun kv _ => 2000 - (intOf kv).toNat)
    case atStart => exact ⟨0, by omega, rfl, HBe⟩
    case round =>
      clear HBe
      obtain ⟨t, tT, rfl, hB⟩ := hrel
      by_cases hlt : t < T
      · have O1 := Lib.hid (fun w => HB0.out t w hlt)
        clear HB0 HB1 HR HO HVG
        go_wp2_with fail
        refine (O1.out _).mono ?_
        rintro e w2 ⟨rfl, rfl⟩
        go_wp2
        go_roundw
        case rel => exact ⟨t + 1, by omega, by go_num, hB⟩
        case measure => simp [intOf]; omega
      · obtain rfl : t = T := by omega
        clear HB0 hlt tT
        go_wp2_with fail
        refine (HB1.out _).mono ?_
        rintro e w2 ⟨rfl, rfl⟩
        clear HB1
        go_wp2_with fail
        refine (HR.out _).mono ?_
        rintro e w1 ⟨lx, cx, rfl, hlx, vx, ex, b1⟩
        have HV1 := Lib.hid (one_var w1 HZ.out)
        have HVS := Lib.hid (var_set w1 (c := cx) HZ.out hlx)
        have cx40 := cnt_40 vx (by rw [ex]; exact HVG.out)
        have HLX := Lib.hid hlx
        have HVX := Lib.hid (And.intro vx ex)
        have HB1 := Lib.hid (bt hB.out b1)
        clear hlx vx ex b1 HR hB
        go_wp2_with (refine store_at rfl (.tmp 7) (.tmp 30) rfl w1.heap.size Z81 lx 0 cx rfl rfl HV1.out.1 HLX.out ?_)
        generalize World.setRow _ _ _ = w2 at *
        have HB2 := Lib.hid (bt HB1.out HVS.out.2)
        have HR2 := Lib.hid HVS.out.1
        clear HVS HV1 HB1
        generalize w1.heap.size = g at *
        have HD := Lib.hid (shiftedDown_any g cx m8 lx w2 HR2.out HVX.out.1 (by omega) (by omega))
        refine HD.out.mono ?_
        rintro e w4 ⟨l, c, rfl, hl, v, ⟨hv, hc⟩, b4⟩
        have HV4 := Lib.hid (one_var w4 HZ.out)
        have HVS := Lib.hid (var_set w4 (c := c) HZ.out hl)
        have hvv : W.lV l = od := by rw [hv, HVX.out.2]; exact HO.out.1
        have HL := Lib.hid hl
        have HVV := Lib.hid (And.intro v hvv)
        have HB4 := Lib.hid (bt HB2.out b4)
        clear hl v hv hvv b4 HD HB2 HR2
        go_wp2_with (refine store_at rfl (.tmp 8) (.tmp 33) rfl w4.heap.size Z81 l 0 c rfl rfl HV4.out.1 HL.out ?_)
        generalize World.setRow _ _ _ = w5 at *
        have HB5 := Lib.hid (bt HB4.out HVS.out.2)
        have HG := Lib.hid (great_any _ _ _ _ HVS.out.1 HVV.out.1 (by omega))
        rw [HVV.out.2, great_gS HO.out.2] at HG
        clear HVS HV4 HB4
        refine HG.out.mono ?_
        rintro e w6 ⟨rfl, b6⟩
        have bb := bt HB5.out b6
        clear HG HB5 b6
        go_wp2
        go_ret2
        exact ⟨rfl, bb⟩
end Go.Proofs.YtpgcnopdbdlahaaGreat

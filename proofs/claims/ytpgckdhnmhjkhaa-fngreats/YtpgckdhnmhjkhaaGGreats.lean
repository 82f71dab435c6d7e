/-
  The walk of laws.FnGreats: at every two texts.
-/
import Derived.Test.YtpgckdhnmhjkhaaGDraw
import Derived.Test.YtpgckdhnmhjkhaaIDivGreat
import Derived.Test.YtpgckdhnmhjkhaaIAddGreat
import Derived.Test.YtpgckdhnmhjkhaaISubGreat
import Derived.Test.YtpgckdhnmhjkhaaIMulGreat
import Derived.Deep.DeepCutAuto
namespace Go.Proofs.Ytpgckdhnmhjkhaa
open Go.RowKit

theorem big_g (A : Option Addr) (n cap : Nat) (w : World) (_hn : n ≤ maxLen) : Calls Try.prog 15 #[.slice A n cap] w fun e w' => e = .returned (.bool (decide ((1048576 : Int) < (n : Int)))) ∧ w = w' := by
  go_enter Try.func15, Try.ntmps15
  go_wp2
  go_ret
  exact ⟨rfl, rfl⟩
theorem drawDiv_c (A : Option Addr) (n cap : Nat) (w : World) (hd : DrawIn w w.heap.size A n) : Calls Try.prog 16 #[.slice A n cap] w (TwoPost w) := by
  have H := Lib.hid (two_c A n cap w hd)
  clear hd
  go_enter Try.func16, Try.ntmps16
  go_wp2_with fail
  refine H.out.mono ?_
  rintro e w1 ⟨a, b, rfl, hb⟩
  go_wp2
  go_ret2
  exact ⟨a, b, rfl, hb⟩

/-! Plain facts. -/
theorem gT256 : gT 256 = [1, 0] := by
  rw [gT_pos (by omega), show 256 / 256 = 1 from rfl, gT_pos (by omega), show 1 / 256 = 0 from rfl, gT_zero]; rfl
theorem gS256 : gS 256 = ⟨#[1, 0]⟩ := by unfold gS; rw [gT256]
theorem ok_one {s : ByteArray} (h1 : s.size = 1) (h2 : headOk s.data.toList = true) : okG s = true := by unfold okG; rw [h1, h2]; rfl
theorem bound256 : boundG (gS 256) = ⟨#[1, 0]⟩ := by
  rw [boundG_gS, if_pos (by unfold GB; exact Nat.lt_of_lt_of_le (show 256 < 256 ^ 2 by decide) (Nat.pow_le_pow_right (by omega) (by omega))), gS256]
theorem add256 : addG ⟨#[1]⟩ ⟨#[255]⟩ = ⟨#[1, 0]⟩ := by
  have h1 : okG ⟨#[1]⟩ = true := ok_one rfl rfl
  have h2 : okG ⟨#[255]⟩ = true := ok_one rfl rfl
  unfold addG okT
  rw [h1, h2]
  exact bound256
theorem mul256 : mulG ⟨#[16]⟩ ⟨#[16]⟩ = ⟨#[1, 0]⟩ := by
  have h1 : okG ⟨#[16]⟩ = true := ok_one rfl rfl
  unfold mulG okT
  rw [h1]
  exact bound256
theorem okT_no {a b : ByteArray} (h : okT a b = false) : addG a b = ⟨#[]⟩ ∧ mulG a b = ⟨#[]⟩ ∧ cmpG a b = 0 := by unfold addG mulG cmpG; rw [h]; exact ⟨rfl, rfl, rfl⟩
theorem empty_of {s : ByteArray} (h : s.size = 0) : s = ⟨#[]⟩ := by
  obtain ⟨⟨l⟩⟩ := s
  have : l = [] := List.eq_nil_of_length_eq_zero h
  rw [this]
theorem add_back {a b : ByteArray} (ha : okG a = true) (hb : okG b = true) (h : (addG a b).size ≠ 0) : subG (addG a b) a = b ∧ subB (addG a b) a = true ∧ addG b a = addG a b := by
  have e : addG a b = boundG (gS (gV a + gV b)) := by unfold addG okT; rw [ha, hb]; rfl
  have e2 : addG b a = boundG (gS (gV a + gV b)) := by unfold addG okT; rw [ha, hb, Nat.add_comm]; rfl
  rw [boundG_gS] at e e2
  have hlt : gV a + gV b < GB := by
    rcases Nat.lt_or_ge (gV a + gV b) GB with h1 | h1
    · exact h1
    · rw [e, if_neg (by omega), gS_zero] at h; exact absurd rfl h
  rw [if_pos hlt] at e e2
  have hok : okG (gS (gV a + gV b)) = true := by rw [okG_gS]; simpa using hlt
  rw [e, e2]
  have hB : subB (gS (gV a + gV b)) a = true := by
    unfold subB okT
    rw [hok, ha, gV_gS]
    simp
  refine ⟨?_, hB, rfl⟩
  unfold subG
  rw [hB, gV_gS, Nat.add_sub_cancel_left]
  exact gS_gV hb
theorem div_again {a b : ByteArray} (ha : okG a = true) (hb : okG b = true) (h0 : 0 < gV b) :
    divB a b = true ∧ cmpG (divR a b) b = -1 ∧ addG (mulG (divQ a b) b) (divR a b) = a ∧ divB (mulG (divQ a b) b) b = true ∧ divQ (mulG (divQ a b) b) b = divQ a b ∧ divR (mulG (divQ a b) b) b = ⟨#[]⟩ := by
  have hB : divB a b = true := by unfold divB okT; rw [ha, hb]; simpa using h0
  have hA := gV_lt ha
  have q : divQ a b = gS (gV a / gV b) := by unfold divQ; rw [hB]; rfl
  have r : divR a b = gS (gV a % gV b) := by unfold divR; rw [hB]; rfl
  have lq : gV a / gV b < GB := Nat.lt_of_le_of_lt (Nat.div_le_self _ _) hA
  have lr : gV a % gV b < GB := Nat.lt_of_le_of_lt (Nat.mod_le _ _) hA
  have lp : gV a / gV b * gV b < GB := Nat.lt_of_le_of_lt (Nat.div_mul_le_self _ _) hA
  have oq : okG (gS (gV a / gV b)) = true := by rw [okG_gS]; simpa using lq
  have or_ : okG (gS (gV a % gV b)) = true := by rw [okG_gS]; simpa using lr
  have op : okG (gS (gV a / gV b * gV b)) = true := by rw [okG_gS]; simpa using lp
  have m : mulG (divQ a b) b = gS (gV a / gV b * gV b) := by
    rw [q]; unfold mulG okT
    rw [oq, hb, gV_gS]
    simp only [Bool.and_self, if_true]
    rw [boundG_gS, if_pos lp]
  rw [m, r]
  have hB2 : divB (gS (gV a / gV b * gV b)) b = true := by unfold divB okT; rw [op, hb]; simpa using h0
  refine ⟨hB, ?_, ?_, hB2, ?_, ?_⟩
  · unfold cmpG okT
    rw [or_, hb, gV_gS]
    simp only [Bool.and_self, if_true]
    unfold cmpI
    rw [if_pos (Nat.mod_lt _ h0)]
  · unfold addG okT
    rw [op, or_, gV_gS, gV_gS, Nat.div_add_mod']
    simp only [Bool.and_self, if_true]
    rw [boundG_gS, if_pos hA, gS_gV ha]
  · unfold divQ
    rw [hB2, gV_gS, Nat.mul_div_cancel _ h0, hB]
  · unfold divR
    rw [hB2, gV_gS, Nat.mul_mod_left]
    exact gS_zero

def Yes (w : World) (e : Ending) (w' : World) : Prop := e = .returned (.bool true) ∧ Below w.heap.size w w'
set_option maxRecDepth 8000 in
set_option maxHeartbeats 4000000 in
theorem greats_walk (a0 : Option Addr) (len0 cap0 : Nat) (z0 : List Int) (w : World) (w0 : IsRow .u8 w a0 len0 cap0 z0) :
    Calls Try.prog 3 #[.slice a0 len0 cap0] w (Yes w) := by
  have hlen : len0 ≤ maxLen := by rcases w0 with ⟨_, rfl, _⟩ | ⟨_, _, h1, h2, _⟩ <;> unfold maxLen at * <;> omega
  have HBig := Lib.hid (big_g a0 len0 cap0 w hlen)
  by_cases h1 : 1048576 < len0
  · have hd : decide ((1048576 : Int) < (len0 : Int)) = true := by simp; omega
    clear w0 hlen
    go_enter Try.func3, Try.ntmps3
    go_wp2_with fail
    refine HBig.out.mono ?_
    rintro e w' ⟨rfl, rfl⟩
    go_wp2
    go_ret
    exact ⟨rfl, Below.refl _ _⟩
  have hd : decide ((1048576 : Int) < (len0 : Int)) = false := by simp; omega
  have HD := Lib.hid (drawDiv_c a0 len0 cap0 w (w0.draw (by omega)))
  clear w0 hlen h1
  go_enter Try.func3, Try.ntmps3
  go_wp2_with fail
  refine HBig.out.mono ?_
  rintro e w' ⟨rfl, rfl⟩
  go_wp2_with fail
  refine HD.out.mono ?_
  rintro e w1 ⟨a, b, rfl, b1⟩
  clear HBig HD hd
  have A256 : Hid (∀ w, Calls Try.prog 18 #[.string ⟨#[1]⟩, .string ⟨#[255]⟩] w fun e w' => e = .returned (.string ⟨#[1, 0]⟩) ∧ Below w.heap.size w w') := fun w => by
    have := addGreat_i ⟨#[1]⟩ ⟨#[255]⟩ w
    rw [add256] at this; exact this
  cases hT : okT a b with
  | false =>
    obtain ⟨n1, n2, n3⟩ := okT_no hT
    have HAd : Hid (∀ w, Calls Try.prog 18 #[.string a, .string b] w fun e w' => e = .returned (.string ⟨#[]⟩) ∧ Below w.heap.size w w') := fun w => by
      have := addGreat_i a b w
      rw [n1] at this; exact this
    have HMu : Hid (∀ w, Calls Try.prog 19 #[.string a, .string b] w fun e w' => e = .returned (.string ⟨#[]⟩) ∧ Below w.heap.size w w') := fun w => by
      have := mulGreat_i a b w
      rw [n2] at this; exact this
    have HCm : Hid (∀ w, Calls Try.prog 20 #[.string a, .string b] w fun e w' => e = .returned (.int .i64 0) ∧ w = w') := fun w => by
      have := compareGreat_i a b w
      rw [n3] at this; exact this
    have HA := greatOk_any a
    have HB := greatOk_any b
    unfold okT at hT
    have hor : okG a = false ∨ (okG a = true ∧ okG b = false) := by
      cases ha : okG a with
      | false => exact .inl rfl
      | true => rw [ha, Bool.true_and] at hT; exact .inr ⟨rfl, hT⟩
    clear hT n1 n2 n3
    rcases hor with ha | ⟨ha, hb⟩
    · rw [ha] at HA
      go_wp2_with fail
      refine (HA _).mono ?_
      rintro e w2 ⟨rfl, rfl⟩
      go_wp2_with fail
      refine (HAd.out _).mono ?_
      rintro e w2 ⟨rfl, b2⟩
      go_wp2_with fail
      refine (HMu.out _).mono ?_
      rintro e w3 ⟨rfl, b3⟩
      go_wp2_with fail
      refine (HCm.out _).mono ?_
      rintro e w4 ⟨rfl, rfl⟩
      go_wp2_with fail
      refine (A256.out _).mono ?_
      rintro e w4 ⟨rfl, b4⟩
      have bb := bt (bt (bt b1 b2) b3) b4
      clear HA HB HAd HMu HCm A256 b1 b2 b3 b4
      go_wp2
      go_ret
      exact ⟨rfl, bb⟩
    · rw [ha] at HA
      rw [hb] at HB
      go_wp2_with fail
      refine (HA _).mono ?_
      rintro e w2 ⟨rfl, rfl⟩
      go_wp2_with fail
      refine (HB _).mono ?_
      rintro e w2 ⟨rfl, rfl⟩
      go_wp2_with fail
      refine (HAd.out _).mono ?_
      rintro e w2 ⟨rfl, b2⟩
      go_wp2_with fail
      refine (HMu.out _).mono ?_
      rintro e w3 ⟨rfl, b3⟩
      go_wp2_with fail
      refine (HCm.out _).mono ?_
      rintro e w4 ⟨rfl, rfl⟩
      go_wp2_with fail
      refine (A256.out _).mono ?_
      rintro e w4 ⟨rfl, b4⟩
      have bb := bt (bt (bt b1 b2) b3) b4
      clear HA HB HAd HMu HCm A256 b1 b2 b3 b4
      go_wp2
      go_ret
      exact ⟨rfl, bb⟩
  | true =>
    unfold okT at hT
    obtain ⟨ha, hb⟩ : okG a = true ∧ okG b = true := by simpa using hT
    have HA := greatOk_any a
    have HB := greatOk_any b
    rw [ha] at HA
    rw [hb] at HB
    clear hT
    go_wp2_with fail
    refine (HA _).mono ?_
    rintro e w2 ⟨rfl, rfl⟩
    go_wp2_with fail
    refine (HB _).mono ?_
    rintro e w2 ⟨rfl, rfl⟩
    go_wp2_with fail
    refine (addGreat_i a b _).mono ?_
    rintro e w2 ⟨rfl, b2⟩
    have b12 := bt b1 b2
    clear HA HB b1 b2
    go_upto_if 54 with (fail)
    go_cut [6] (fun _ wc => Hid (Below w.heap.size w wc))
    case first =>
      by_cases hS : (addG a b).size = 0
      · have he : (addG a b).toList = [] := by have := isEmpty_size (s := addG a b); rw [hS] at this; simpa using this
        have he2 : (!(addG a b).toList.isEmpty) = false := by rw [he]; rfl
        have he3 : (addG a b).toList.isEmpty = true := by rw [he]; rfl
        have HBB := Lib.hid b12
        clear b12 hS he
        generalize addG a b = S at *
        rw [he2]
        go_wp2
        go_meet
        exact HBB
      · have he : (addG a b).toList.isEmpty = false := by rw [isEmpty_size]; simpa using hS
        have he2 : (!(addG a b).toList.isEmpty) = true := by rw [he]; rfl
        obtain ⟨s1, s2, s3⟩ := add_back ha hb hS
        have HSu : Hid (∀ w, Calls Try.prog 21 #[.string (addG a b), .string a] w fun e w' => e = .returned (.tuple #[.string b, .bool true]) ∧ Below w.heap.size w w') := fun w => by
          have := subGreat_i (addG a b) a w
          rw [s1, s2] at this; exact this
        have HAd : Hid (∀ w, Calls Try.prog 18 #[.string b, .string a] w fun e w' => e = .returned (.string (addG a b)) ∧ Below w.heap.size w w') := fun w => by
          have := addGreat_i b a w
          rw [s3] at this; exact this
        clear s1 s2 s3 hS
        generalize addG a b = S at *
        rw [he2]
        go_wp2_with fail
        refine (HSu.out _).mono ?_
        rintro e w3 ⟨rfl, b3⟩
        go_wp2_with fail
        refine (HAd.out _).mono ?_
        rintro e w4 ⟨rfl, b4⟩
        have HBB := Lib.hid (bt (bt b12 b3) b4)
        clear HSu HAd b12 b3 b4
        go_wp2
        go_meet
        exact HBB
    case rest =>
      have b12 := hcut.out
      clear hcut
      by_cases h0 : b.size = 0
      · have hb0 := empty_of h0
        subst hb0
        have hN : divB a ⟨#[]⟩ = false := by unfold divB; rw [gV_empty rfl]; simp
        have HDi : Hid (∀ w, Calls Try.prog 22 #[.string a, .string ⟨#[]⟩] w fun e w' => e = .returned (.tuple #[.string ⟨#[]⟩, .string ⟨#[]⟩, .bool false]) ∧ Below w.heap.size w w') := fun w => by
          have := divGreat_i a ⟨#[]⟩ w
          unfold DivGPost divQ divR at this
          rw [hN] at this; exact this
        clear hN h0
        go_wp2_with fail
        refine (HDi.out _).mono ?_
        rintro e w3 ⟨rfl, b3⟩
        go_wp2_with fail
        refine (A256.out _).mono ?_
        rintro e w4 ⟨rfl, b4⟩
        have bb := bt (bt b12 b3) b4
        clear HDi A256 b12 b3 b4
        go_wp2
        go_ret
        exact ⟨rfl, bb⟩
      · have he : b.toList.isEmpty = false := by rw [isEmpty_size]; simpa using h0
        have hp := gV_pos hb (by omega)
        obtain ⟨d1, d2, d3, d4, d5, d6⟩ := div_again ha hb hp
        have M256 : Hid (∀ w, Calls Try.prog 19 #[.string ⟨#[16]⟩, .string ⟨#[16]⟩] w fun e w' => e = .returned (.string ⟨#[1, 0]⟩) ∧ Below w.heap.size w w') := fun w => by
          have := mulGreat_i ⟨#[16]⟩ ⟨#[16]⟩ w
          rw [mul256] at this; exact this
        have HDi : Hid (∀ w, Calls Try.prog 22 #[.string a, .string b] w fun e w' => e = .returned (.tuple #[.string (divQ a b), .string (divR a b), .bool true]) ∧ Below w.heap.size w w') := fun w => by
          have := divGreat_i a b w
          unfold DivGPost at this
          rw [d1] at this; exact this
        have HMu : Hid (∀ w, Calls Try.prog 19 #[.string (divQ a b), .string b] w fun e w' => e = .returned (.string (mulG (divQ a b) b)) ∧ Below w.heap.size w w') := fun w => mulGreat_i (divQ a b) b w
        have HDj : Hid (∀ w, Calls Try.prog 22 #[.string (mulG (divQ a b) b), .string b] w fun e w' => e = .returned (.tuple #[.string (divQ a b), .string ⟨#[]⟩, .bool true]) ∧ Below w.heap.size w w') := fun w => by
          have := divGreat_i (mulG (divQ a b) b) b w
          unfold DivGPost at this
          rw [d4, d5, d6] at this; exact this
        have HCm : Hid (∀ w, Calls Try.prog 20 #[.string (divR a b), .string b] w fun e w' => e = .returned (.int .i64 (-1)) ∧ w = w') := fun w => by
          have := compareGreat_i (divR a b) b w
          rw [d2] at this; exact this
        have HAd : Hid (∀ w, Calls Try.prog 18 #[.string (mulG (divQ a b) b), .string (divR a b)] w fun e w' => e = .returned (.string a) ∧ Below w.heap.size w w') := fun w => by
          have := addGreat_i (mulG (divQ a b) b) (divR a b) w
          rw [d3] at this; exact this
        clear d1 d2 d3 d4 d5 d6 hp h0 A256
        generalize mulG (divQ a b) b = M at *
        generalize divQ a b = Q at *
        generalize divR a b = R at *
        go_wp2_with fail
        refine (HDi.out _).mono ?_
        rintro e w3 ⟨rfl, b3⟩
        have c3 := bt b12 b3
        clear b3 b12
        go_wp2_with fail
        refine (HMu.out _).mono ?_
        rintro e w4 ⟨rfl, b4⟩
        have c4 := bt c3 b4
        clear b4 c3
        go_wp2_with fail
        refine (HDj.out _).mono ?_
        rintro e w5 ⟨rfl, b5⟩
        have c5 := bt c4 b5
        clear b5 c4
        go_wp2_with fail
        refine (HCm.out _).mono ?_
        rintro e w6 ⟨rfl, rfl⟩
        go_wp2_with fail
        refine (HAd.out _).mono ?_
        rintro e w6 ⟨rfl, b6⟩
        have c6 := bt c5 b6
        clear b6 c5
        go_wp2_with fail
        refine (M256.out _).mono ?_
        rintro e w7 ⟨rfl, b7⟩
        have c7 := bt c6 b7
        clear b7 c6 HDi HMu HDj HCm HAd M256
        go_wp2
        go_ret
        exact ⟨rfl, c7⟩
end Go.Proofs.Ytpgckdhnmhjkhaa

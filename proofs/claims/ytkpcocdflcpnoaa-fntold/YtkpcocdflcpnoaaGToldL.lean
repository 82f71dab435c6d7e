/-
  The walk of laws.FnTold: at every two texts.
-/
import Derived.Test.YtkpcocdflcpnoaaGWays
import Derived.Test.YtkpcocdflcpnoaaJRead
namespace Go.Proofs.Ytkpcocdflcpnoaa
open Go.RowKit

theorem GB_400 {K : Nat} (hK : K = 20 * 20) : GB ≤ 10 ^ K := by
  have e1 : (256 : Nat) ^ 160 = (256 ^ 8) ^ 20 := by rw [← Nat.pow_mul]
  have e2 : (10 : Nat) ^ K = (10 ^ 20) ^ 20 := (congrArg (fun k => (10 : Nat) ^ k) hK).trans (Nat.pow_mul 10 20 20)
  unfold GB
  rw [e2, e1]
  exact Nat.pow_le_pow_left (by decide) _
theorem text256 : textG ⟨#[1, 0]⟩ = ⟨#[50, 53, 54]⟩ := by
  have h1 : okG ⟨#[1, 0]⟩ = true := rfl
  have h2 : gV ⟨#[1, 0]⟩ = 256 := rfl
  unfold textG
  rw [h1, h2, if_pos rfl, dT_more (by omega), show 256 / 10 = 25 from rfl, dT_more (by omega), show 25 / 10 = 2 from rfl, dT_one (by omega)]
  rfl
theorem text0 : textG ⟨#[]⟩ = ⟨#[48]⟩ := by
  have h1 : okG ⟨#[]⟩ = true := rfl
  have h2 : gV ⟨#[]⟩ = 0 := rfl
  unfold textG
  rw [h1, h2, if_pos rfl, dT_one (by omega)]
  rfl
theorem text_no {s : ByteArray} (h : okG s = false) : textG s = ⟨#[]⟩ := by unfold textG; rw [h]; rfl
theorem read_text {s : ByteArray} (h : okG s = true) : readB (textG s) = true ∧ readG (textG s) = s := by
  have E : textG s = txt (dT (gV s)) := by unfold textG; rw [h]; rfl
  obtain ⟨v1, v2, v3⟩ := dT_val (gV s)
  have hV := gV_lt h
  obtain ⟨K, hK⟩ : ∃ K, K = 20 * 20 := ⟨_, rfl⟩
  have hl : (dT (gV s)).length ≤ K := dT_len (Nat.lt_of_lt_of_le hV (GB_400 hK)) (by omega)
  have hp := List.length_pos_iff.2 v3
  have hB : readB (textG s) = true := by
    unfold readB
    rw [E, txt_size, txt_list, dT_head, v2, v1, decide_eq_true (show 1 ≤ (dT (gV s)).length by omega), decide_eq_true (show (dT (gV s)).length ≤ 400 by omega), decide_eq_true hV]
    rfl
  refine ⟨hB, ?_⟩
  unfold readG
  rw [hB, if_pos rfl, E, txt_list, v1, gS_gV h]
theorem text_read {u : ByteArray} (h : readB u = true) : textG (readG u) = u := by
  have h2 := h
  simp only [readB, Bool.and_eq_true, decide_eq_true_eq] at h2
  obtain ⟨_, r3, r4, r5⟩ := h2
  have e : readG u = gS (fV u.data.toList) := by unfold readG; rw [h, if_pos rfl]
  unfold textG
  rw [e, okG_gS, decide_eq_true r5, if_pos rfl, gV_gS, dT_fV _ r4 r3, txt_of]
theorem DrawIn.on {w w' : World} {n : Nat} {A : Option Addr} (h : DrawIn w w.heap.size A n) (hb : Below w.heap.size w w') : DrawIn w' w'.heap.size A n :=
  ⟨h.1, fun k hk => by
    obtain ⟨b, off, c, e, hB, c0, c1, hc⟩ := (h.below hb).2 k hk
    exact ⟨b, off, c, e, Nat.lt_of_lt_of_le hB hb.size, c0, c1, hc⟩⟩
set_option maxRecDepth 8000 in
set_option maxHeartbeats 4000000 in
theorem told_walk (a0 : Option Addr) (len0 cap0 : Nat) (z0 : List Int) (w : World) (w0 : IsRow .u8 w a0 len0 cap0 z0) :
    Calls Try.prog 3 #[.slice a0 len0 cap0] w (Yes w) := by
  have hlen : len0 ≤ maxLen := by rcases w0 with ⟨_, rfl, _⟩ | ⟨_, _, h1, h2, _⟩ <;> unfold maxLen at * <;> omega
  have HBig := Lib.hid (big_g a0 len0 cap0 w hlen)
  by_cases h1 : 1048576 < len0
  · have hd : decide ((1048576 : Int) < (len0 : Int)) = true := by simp; omega
    clear w0 hlen
    go_enter Try.func3, Try.ntmps3
    go_wp2_with fail
    refine HBig.out.mono ?_
    rintro e w' ⟨rfl, rfl⟩
    go_wp2
    go_ret
    exact ⟨rfl, Below.refl _ _⟩
  have hd : decide ((1048576 : Int) < (len0 : Int)) = false := by simp; omega
  have HDI := Lib.hid (w0.draw (by omega))
  have HD := Lib.hid (drawText_c a0 len0 cap0 w HDI.out)
  clear w0 hlen h1
  go_enter Try.func3, Try.ntmps3
  go_wp2_with fail
  refine HBig.out.mono ?_
  rintro e w' ⟨rfl, rfl⟩
  go_wp2_with fail
  refine HD.out.mono ?_
  rintro e w1 ⟨s, rfl, b1⟩
  clear HBig HD hd
  have H1 := Lib.hid (greatText_i s)
  have HA := greatOk_any s
  cases ok : okG s with
  | false =>
    have H2 := Lib.hid (greatText_i ⟨#[1, 0]⟩)
    rw [text256] at H2
    rw [text_no ok] at H1
    rw [ok] at HA
    clear HDI ok
    go_wp2_with fail
    refine (H1.out _).mono ?_
    rintro e w2 ⟨rfl, b2⟩
    go_wp2_with fail
    refine (HA _).mono ?_
    rintro e w3 ⟨rfl, rfl⟩
    go_wp2_with fail
    refine (H2.out _).mono ?_
    rintro e w4 ⟨rfl, b4⟩
    have bb := bt (bt b1 b2) b4
    clear H1 H2 HA b1 b2 b4
    go_wp2
    go_ret
    exact ⟨rfl, bb⟩
  | true =>
    obtain ⟨t1, t2⟩ := read_text ok
    have H3 := Lib.hid (readGreat_i (textG s))
    rw [t1, t2] at H3
    have H4 := Lib.hid (greatText_any s)
    have H5 := Lib.hid (greatText_i ⟨#[]⟩)
    rw [text0] at H5
    rw [ok] at HA
    clear t1 t2 ok
    generalize textG s = t at *
    go_wp2_with fail
    refine (H1.out _).mono ?_
    rintro e w2 ⟨rfl, b2⟩
    go_wp2_with fail
    refine (HA _).mono ?_
    rintro e w3 ⟨rfl, rfl⟩
    go_wp2_with fail
    refine (H3.out _).mono ?_
    rintro e w3 ⟨rfl, b3⟩
    have b13 := bt (bt b1 b2) b3
    have HD := Lib.hid (drawRead_c a0 len0 cap0 w3 (HDI.out.on b13))
    clear H1 HA H3 b1 b2 b3 HDI
    go_wp2_with fail
    refine HD.out.mono ?_
    rintro e w4 ⟨u, rfl, b4⟩
    have b14 := bt b13 b4
    have G1 := Lib.hid (readGreat_i u)
    have G2 := Lib.hid (readGreat_any u)
    clear HD b13 b4
    cases hR : readB u with
    | false =>
      rw [hR] at G1 G2
      clear hR
      generalize readG u = x at *
      go_wp2_with fail
      refine (G1.out _).mono ?_
      rintro e w5 ⟨rfl, b5⟩
      go_wp2_with fail
      refine (G2.out _).mono ?_
      rintro e w6 ⟨rfl, b6⟩
      go_wp2_with fail
      refine (H4.out _).mono ?_
      rintro e w7 ⟨rfl, b7⟩
      go_wp2_with fail
      refine (H5.out _).mono ?_
      rintro e w8 ⟨rfl, b8⟩
      have bb := bt (bt (bt (bt b14 b5) b6) b7) b8
      clear G1 G2 H4 H5 b14 b5 b6 b7 b8
      go_wp2
      go_ret
      exact ⟨rfl, bb⟩
    | true =>
      have G3 := Lib.hid (greatText_i (readG u))
      rw [text_read hR] at G3
      rw [hR] at G1 G2
      clear hR
      generalize readG u = x at *
      go_wp2_with fail
      refine (G1.out _).mono ?_
      rintro e w5 ⟨rfl, b5⟩
      go_wp2_with fail
      refine (G2.out _).mono ?_
      rintro e w6 ⟨rfl, b6⟩
      go_wp2_with fail
      refine (H4.out _).mono ?_
      rintro e w7 ⟨rfl, b7⟩
      go_wp2_with fail
      refine (G3.out _).mono ?_
      rintro e w8 ⟨rfl, b8⟩
      go_wp2_with fail
      refine (H5.out _).mono ?_
      rintro e w9 ⟨rfl, b9⟩
      have bb := bt (bt (bt (bt (bt b14 b5) b6) b7) b8) b9
      clear G1 G2 G3 H4 H5 b14 b5 b6 b7 b8 b9
      go_wp2
      go_ret
      exact ⟨rfl, bb⟩
end Go.Proofs.Ytkpcocdflcpnoaa

/-
  The contracts of spec.l02Bound, CompareGreat, AddGreat, SubGreat, MulGreat.
-/
import Derived.Test.YtpgckdhnmhjkhaaNOut
import Derived.Test.YtpgckdhnmhjkhaaNSub
import Derived.Test.YtpgckdhnmhjkhaaNMul
namespace Go.Proofs.Ytpgckdhnmhjkhaa
open Go.RowKit

theorem InP.len {n : Nat} {l : List Nat} (h : InP n l) {k : Nat} (hn : n < 16777216 ^ k) : l.length ≤ k := by
  rcases Nat.lt_or_ge k l.length with hl | hl
  · exfalso
    have hne : l ≠ [] := by intro e; rw [e] at hl; simp at hl
    have := h.2.1.ge hne
    rw [h.2.2] at this
    have : 16777216 ^ k ≤ 16777216 ^ (l.length - 1) := Nat.pow_le_pow_right (by omega) (by omega)
    omega
  · exact hl
theorem GB_54 : GB ≤ 16777216 ^ 54 := by unfold GB; decide
theorem InP.len54 {s : ByteArray} {l : List Nat} (ok : okG s = true) (h : InP (gV s) l) : l.length ≤ 54 := h.len (Nat.lt_of_lt_of_le (gV_lt ok) GB_54)
theorem okG_size {s : ByteArray} (h : okG s = true) : s.size ≤ 160 := by
  simp only [okG, Bool.and_eq_true, decide_eq_true_eq] at h; exact h.1
theorem bt {w w1 w2 : World} (h : Below w.heap.size w w1) (k : Below w1.heap.size w1 w2) : Below w.heap.size w w2 := h.trans (k.mono h.size)
/-- Whether both are right. -/
def okT (a b : ByteArray) : Bool := okG a && okG b
def boundG (s : ByteArray) : ByteArray := if okG s then s else ⟨#[]⟩
theorem boundG_gS (n : Nat) : boundG (gS n) = gS (if n < GB then n else 0) := by
  unfold boundG
  rw [okG_gS]
  by_cases h : n < GB
  · simp [h]
  · simp [h, gS_zero]
theorem bound_any (s : ByteArray) (w : World) : Calls Try.prog 54 #[.string s] w fun e w' => e = .returned (.string (boundG s)) ∧ w = w' := by
  have H := greatOk_any s
  unfold boundG
  cases h : okG s with
  | false =>
    rw [h] at H
    go_enter Try.func54, Try.ntmps54
    go_wp2_with fail
    refine (H _).mono ?_
    rintro e w1 ⟨rfl, rfl⟩
    go_wp2
    go_ret
    exact ⟨rfl, rfl⟩
  | true =>
    rw [h] at H
    go_enter Try.func54, Try.ntmps54
    go_wp2_with fail
    refine (H _).mono ?_
    rintro e w1 ⟨rfl, rfl⟩
    go_wp2
    go_ret
    exact ⟨rfl, rfl⟩

/-! CompareGreat -/
def cmpG (a b : ByteArray) : Int := if okT a b then cmpI (gV a) (gV b) else 0
set_option maxHeartbeats 1000000 in
theorem compareGreat_any (a b : ByteArray) (w : World) : Calls Try.prog 29 #[.string a, .string b] w fun e w' => e = .returned (.int .i64 (cmpG a b)) ∧ Below w.heap.size w w' := by
  have HA := greatOk_any a
  have HB := greatOk_any b
  unfold cmpG okT
  cases ha : okG a with
  | false =>
    rw [ha] at HA
    go_enter Try.func29, Try.ntmps29
    go_wp2_with fail
    refine (HA _).mono ?_
    rintro e w1 ⟨rfl, rfl⟩
    go_wp2
    go_ret
    exact ⟨rfl, Below.refl _ _⟩
  | true =>
    cases hb : okG b with
    | false =>
      rw [ha] at HA
      rw [hb] at HB
      go_enter Try.func29, Try.ntmps29
      go_wp2_with fail
      refine (HA _).mono ?_
      rintro e w1 ⟨rfl, rfl⟩
      go_wp2_with fail
      refine (HB _).mono ?_
      rintro e w1 ⟨rfl, rfl⟩
      go_wp2
      go_ret
      exact ⟨rfl, Below.refl _ _⟩
    | true =>
      have sa := okG_size ha
      have sb := okG_size hb
      rw [ha] at HA
      rw [hb] at HB
      go_enter Try.func29, Try.ntmps29
      go_wp2_with fail
      refine (HA _).mono ?_
      rintro e w1 ⟨rfl, rfl⟩
      go_wp2_with fail
      refine (HB _).mono ?_
      rintro e w1 ⟨rfl, rfl⟩
      go_wp2_with fail
      refine (in_any a _ (by omega)).mono ?_
      rintro e w1 ⟨A, ca, la, rfl, pa, ra, b1⟩
      go_wp2_with fail
      refine (in_any b _ (by omega)).mono ?_
      rintro e w2 ⟨B, cb, lb, rfl, pb, rb, b2⟩
      have ra2 := ra.below b2
      have b3 := bt b1 b2
      have hc := Lib.hid (cmp_any _ _ ca cb A B la lb w2 ra2 rb pa.1 pb.1 pa.2.1 pb.2.1 (by have := pa.len54 ha; omega))
      have PA := Lib.hid pa.2.2
      have PB := Lib.hid pb.2.2
      clear pa pb ra rb ra2 b1 b2
      go_wp2_with fail
      refine hc.out.mono ?_
      rintro e w3 ⟨rfl, b4⟩
      have b5 := bt b3 b4
      go_wp2
      go_ret
      exact ⟨by rw [PA.out, PB.out]; rfl, b5⟩

/-! AddGreat, MulGreat, SubGreat -/
def addG (a b : ByteArray) : ByteArray := if okT a b then boundG (gS (gV a + gV b)) else ⟨#[]⟩
set_option maxHeartbeats 1000000 in
theorem addGreat_any (a b : ByteArray) (w : World) : Calls Try.prog 33 #[.string a, .string b] w fun e w' => e = .returned (.string (addG a b)) ∧ Below w.heap.size w w' := by
  have HA := greatOk_any a
  have HB := greatOk_any b
  unfold addG okT
  cases ha : okG a with
  | false =>
    rw [ha] at HA
    go_enter Try.func33, Try.ntmps33
    go_wp2_with fail
    refine (HA _).mono ?_
    rintro e w1 ⟨rfl, rfl⟩
    go_wp2
    go_ret
    exact ⟨rfl, Below.refl _ _⟩
  | true =>
    cases hb : okG b with
    | false =>
      rw [ha] at HA
      rw [hb] at HB
      go_enter Try.func33, Try.ntmps33
      go_wp2_with fail
      refine (HA _).mono ?_
      rintro e w1 ⟨rfl, rfl⟩
      go_wp2_with fail
      refine (HB _).mono ?_
      rintro e w1 ⟨rfl, rfl⟩
      go_wp2
      go_ret
      exact ⟨rfl, Below.refl _ _⟩
    | true =>
      have sa := okG_size ha
      have sb := okG_size hb
      rw [ha] at HA
      rw [hb] at HB
      go_enter Try.func33, Try.ntmps33
      go_wp2_with fail
      refine (HA _).mono ?_
      rintro e w1 ⟨rfl, rfl⟩
      go_wp2_with fail
      refine (HB _).mono ?_
      rintro e w1 ⟨rfl, rfl⟩
      go_wp2_with fail
      refine (in_any a _ (by omega)).mono ?_
      rintro e w1 ⟨A, ca, la, rfl, pa, ra, b1⟩
      go_wp2_with fail
      refine (in_any b _ (by omega)).mono ?_
      rintro e w2 ⟨B, cb, lb, rfl, pb, rb, b2⟩
      have ra2 := ra.below b2
      have b3 := bt b1 b2
      have la54 := pa.len54 ha
      have lb54 := pb.len54 hb
      have hc := Lib.hid (add_any _ _ ca cb A B la lb w2 ra2 rb pa.1 pb.1 (by omega) (by omega))
      have PA := Lib.hid pa.2.2
      have PB := Lib.hid pb.2.2
      clear pa pb ra rb ra2 b1 b2
      go_wp2_with fail
      refine hc.out.mono ?_
      rintro e w3 ⟨R, cr, lr, rfl, pr, rr, b4⟩
      have b5 := bt b3 b4
      go_wp2_with fail
      refine (out_any _ _ _ _ _ rr pr.1 pr.2.2).mono ?_
      rintro e w4 ⟨rfl, b6⟩
      have b7 := bt b5 b6
      go_wp2_with fail
      refine (bound_any _ _).mono ?_
      rintro e w5 ⟨rfl, rfl⟩
      have E := Lib.hid pr.2.1
      clear pr rr b4 b6 b5 b3
      go_wp2
      go_ret
      exact ⟨by rw [E.out, PA.out, PB.out]; rfl, b7⟩
def mulG (a b : ByteArray) : ByteArray := if okT a b then boundG (gS (gV a * gV b)) else ⟨#[]⟩
set_option maxHeartbeats 1000000 in
theorem mulGreat_any (a b : ByteArray) (w : World) : Calls Try.prog 35 #[.string a, .string b] w fun e w' => e = .returned (.string (mulG a b)) ∧ Below w.heap.size w w' := by
  have HA := greatOk_any a
  have HB := greatOk_any b
  unfold mulG okT
  cases ha : okG a with
  | false =>
    rw [ha] at HA
    go_enter Try.func35, Try.ntmps35
    go_wp2_with fail
    refine (HA _).mono ?_
    rintro e w1 ⟨rfl, rfl⟩
    go_wp2
    go_ret
    exact ⟨rfl, Below.refl _ _⟩
  | true =>
    cases hb : okG b with
    | false =>
      rw [ha] at HA
      rw [hb] at HB
      go_enter Try.func35, Try.ntmps35
      go_wp2_with fail
      refine (HA _).mono ?_
      rintro e w1 ⟨rfl, rfl⟩
      go_wp2_with fail
      refine (HB _).mono ?_
      rintro e w1 ⟨rfl, rfl⟩
      go_wp2
      go_ret
      exact ⟨rfl, Below.refl _ _⟩
    | true =>
      have sa := okG_size ha
      have sb := okG_size hb
      rw [ha] at HA
      rw [hb] at HB
      go_enter Try.func35, Try.ntmps35
      go_wp2_with fail
      refine (HA _).mono ?_
      rintro e w1 ⟨rfl, rfl⟩
      go_wp2_with fail
      refine (HB _).mono ?_
      rintro e w1 ⟨rfl, rfl⟩
      go_wp2_with fail
      refine (in_any a _ (by omega)).mono ?_
      rintro e w1 ⟨A, ca, la, rfl, pa, ra, b1⟩
      go_wp2_with fail
      refine (in_any b _ (by omega)).mono ?_
      rintro e w2 ⟨B, cb, lb, rfl, pb, rb, b2⟩
      have ra2 := ra.below b2
      have b3 := bt b1 b2
      have la54 := pa.len54 ha
      have lb54 := pb.len54 hb
      have hc := Lib.hid (mul_any _ _ ca cb A B la lb w2 ra2 rb pa.1 pb.1 (by omega) (by omega))
      have PA := Lib.hid pa.2.2
      have PB := Lib.hid pb.2.2
      clear pa pb ra rb ra2 b1 b2
      go_wp2_with fail
      refine hc.out.mono ?_
      rintro e w3 ⟨R, cr, lr, rfl, pr, rr, b4⟩
      have b5 := bt b3 b4
      go_wp2_with fail
      refine (out_any _ _ _ _ _ rr pr.1 (by have := pr.len (k := 108) (by rw [show (108 : Nat) = 54 + 54 from rfl, Nat.pow_add]; exact Nat.mul_lt_mul'' (Nat.lt_of_lt_of_le (by rw [PA.out]; exact gV_lt ha) GB_54) (Nat.lt_of_lt_of_le (by rw [PB.out]; exact gV_lt hb) GB_54)); omega)).mono ?_
      rintro e w4 ⟨rfl, b6⟩
      have b7 := bt b5 b6
      go_wp2_with fail
      refine (bound_any _ _).mono ?_
      rintro e w5 ⟨rfl, rfl⟩
      have E := Lib.hid pr.2.2
      clear pr rr b4 b6 b5 b3
      go_wp2
      go_ret
      exact ⟨by rw [E.out, PA.out, PB.out]; rfl, b7⟩
def subB (a b : ByteArray) : Bool := okT a b && decide (gV b ≤ gV a)
def subG (a b : ByteArray) : ByteArray := if subB a b then gS (gV a - gV b) else ⟨#[]⟩
set_option maxHeartbeats 1000000 in
theorem subGreat_any (a b : ByteArray) (w : World) : Calls Try.prog 34 #[.string a, .string b] w fun e w' => e = .returned (.tuple #[.string (subG a b), .bool (subB a b)]) ∧ Below w.heap.size w w' := by
  have HA := greatOk_any a
  have HB := greatOk_any b
  unfold subG subB okT
  cases ha : okG a with
  | false =>
    rw [ha] at HA
    go_enter Try.func34, Try.ntmps34
    go_wp2_with fail
    refine (HA _).mono ?_
    rintro e w1 ⟨rfl, rfl⟩
    go_wp2
    go_ret2
    exact ⟨rfl, Below.refl _ _⟩
  | true =>
    cases hb : okG b with
    | false =>
      rw [ha] at HA
      rw [hb] at HB
      go_enter Try.func34, Try.ntmps34
      go_wp2_with fail
      refine (HA _).mono ?_
      rintro e w1 ⟨rfl, rfl⟩
      go_wp2_with fail
      refine (HB _).mono ?_
      rintro e w1 ⟨rfl, rfl⟩
      go_wp2
      go_ret2
      exact ⟨rfl, Below.refl _ _⟩
    | true =>
      have sa := okG_size ha
      have sb := okG_size hb
      rw [ha] at HA
      rw [hb] at HB
      go_enter Try.func34, Try.ntmps34
      go_wp2_with fail
      refine (HA _).mono ?_
      rintro e w1 ⟨rfl, rfl⟩
      go_wp2_with fail
      refine (HB _).mono ?_
      rintro e w1 ⟨rfl, rfl⟩
      go_wp2_with fail
      refine (compareGreat_any a b _).mono ?_
      rintro e w0 ⟨rfl, b0⟩
      have hcmp : cmpG a b = cmpI (gV a) (gV b) := by unfold cmpG okT; rw [ha, hb]; rfl
      rw [hcmp]
      by_cases hlt : gV a < gV b
      · have h1 : cmpI (gV a) (gV b) = -1 := by unfold cmpI; rw [if_pos hlt]
        rw [h1]
        have Z : Hid (decide (gV b ≤ gV a) = false) := by show _ = _; simpa using hlt
        clear hcmp h1
        go_wp2
        all_goals (go_ret2; exact ⟨rfl, b0⟩)
      have hle : gV b ≤ gV a := by omega
      have h1 : ¬ cmpI (gV a) (gV b) < 0 := by unfold cmpI; rw [if_neg hlt]; split <;> decide
      have Z : Hid (decide (gV b ≤ gV a) = true) := by show _ = _; simpa using hle
      generalize cmpI (gV a) (gV b) = cc at *
      go_wp2_with fail
      refine (in_any a _ (by omega)).mono ?_
      rintro e w1 ⟨A, ca, la, rfl, pa, ra, b1⟩
      go_wp2_with fail
      refine (in_any b _ (by omega)).mono ?_
      rintro e w2 ⟨B, cb, lb, rfl, pb, rb, b2⟩
      have ra2 := ra.below b2
      have b3 := bt (bt b0 b1) b2
      have la54 := pa.len54 ha
      have lb54 := pb.len54 hb
      have hll : lb.length ≤ la.length := by
        rcases Nat.lt_or_ge la.length lb.length with h | h
        · have := less_len pa.1 pb.2.1 h
          rw [pa.2.2, pb.2.2] at this; omega
        · exact h
      have hc := Lib.hid (sub_any _ _ ca cb A B la lb w2 ra2 rb pa.1 pb.1 (by omega) hll (by rw [pa.2.2, pb.2.2]; exact hle))
      have PA := Lib.hid pa.2.2
      have PB := Lib.hid pb.2.2
      clear pa pb ra rb ra2 b1 b2
      go_wp2_with fail
      refine hc.out.mono ?_
      rintro e w3 ⟨R, cr, lr, rfl, pr, rr, b4⟩
      have b5 := bt b3 b4
      go_wp2_with fail
      refine (out_any _ _ _ _ _ rr pr.1 (by have := pr.len (k := 54) (by rw [PA.out]; exact Nat.lt_of_le_of_lt (Nat.sub_le _ _) (Nat.lt_of_lt_of_le (gV_lt ha) GB_54)); omega)).mono ?_
      rintro e w4 ⟨rfl, b6⟩
      have b7 := bt b5 b6
      have E := Lib.hid pr.2.2
      clear pr rr b4 b6 b5 b3
      go_wp2
      go_ret2
      exact ⟨by rw [E.out, PA.out, PB.out]; rfl, b7⟩
end Go.Proofs.Ytpgckdhnmhjkhaa

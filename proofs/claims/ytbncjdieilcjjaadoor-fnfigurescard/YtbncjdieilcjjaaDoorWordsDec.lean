/-
  The contract of spec.Decimal at every int: the figures of Lib.itoa.
-/
import Derived.Test.YtbncjdieilcjjaaDoorWordsHex
import Derived.Test.YtbncjdieilcjjaaDoorDigs
namespace Go.Proofs.YtbncjdieilcjjaaDoor
open Go.RowKit

theorem fig_digit (u : Nat) : figI ((u % 10 : Nat) : Int) = ((UInt8.ofNat (48 + u % 10)).toNat : Int) := by
  unfold figI
  rw [if_pos (by omega)]
  simp
  omega
theorem itoa_pos {u : Nat} (h : 0 < u) : Lib.itoa (u : Int) = digs u [] := by
  unfold Lib.itoa
  rw [if_neg (by omega), digs_dec u [] h]
  simp
theorem itoa_neg {u : Nat} (h : 0 < u) : Lib.itoa (-(u : Int)) = 45 :: digs u [] := by
  unfold Lib.itoa
  rw [if_pos (by omega), digs_dec u [] h]
  simp

/-- A step of a number that is not below 0. -/
theorem step_pos (x : Int) (u : Nat) (h : x = (u : Int)) (hu : u ≤ 9223372036854775807) :
    ∃ r y : Int, x.tmod 10 = r ∧ x.tdiv 10 = y ∧ r = ((u % 10 : Nat) : Int) ∧ y = ((u / 10 : Nat) : Int) ∧ 0 ≤ r ∧ r < 10 ∧ 0 ≤ y ∧ y ≤ 1000000000000000000 := by
  subst h
  refine ⟨_, _, rfl, rfl, ?_, ?_, ?_, ?_, ?_, ?_⟩
  · rw [Int.tmod_eq_emod_of_nonneg (by omega)]; omega
  · rw [Int.tdiv_eq_ediv_of_nonneg (by omega)]; omega
  · rw [Int.tmod_eq_emod_of_nonneg (by omega)]; omega
  · rw [Int.tmod_eq_emod_of_nonneg (by omega)]; omega
  · rw [Int.tdiv_eq_ediv_of_nonneg (by omega)]; omega
  · rw [Int.tdiv_eq_ediv_of_nonneg (by omega)]; omega
/-- A step of a number that is not above 0. -/
theorem step_neg (x : Int) (u : Nat) (h : x = -(u : Int)) (hu : u ≤ 9223372036854775808) :
    ∃ r y : Int, x.tmod 10 = r ∧ x.tdiv 10 = y ∧ r = -((u % 10 : Nat) : Int) ∧ y = -((u / 10 : Nat) : Int) ∧ r ≤ 0 ∧ -10 < r ∧ y ≤ 0 ∧ -1000000000000000000 ≤ y := by
  subst h
  have e1 : (-(u : Int)).tmod 10 = -((u : Int) % 10) := by rw [Int.neg_tmod, Int.tmod_eq_emod_of_nonneg (by omega)]
  have e2 : (-(u : Int)).tdiv 10 = -((u : Int) / 10) := by rw [Int.neg_tdiv, Int.tdiv_eq_ediv_of_nonneg (by omega)]
  refine ⟨_, _, rfl, rfl, ?_, ?_, ?_, ?_, ?_, ?_⟩
  · rw [e1]; omega
  · rw [e2]; omega
  · rw [e1]; omega
  · rw [e1]; omega
  · rw [e2]; omega
  · rw [e2]; omega

/-- What the loop holds: x is u with its sign; the figures that are to come and those that are there. -/
def DecRel (neg : Bool) (n u : Nat) (x : Int) (acc : List UInt8) : Prop := x = (if neg then -(u : Int) else u) ∧ u ≤ n ∧ digs u acc = digs n [] ∧ ∃ k, u < 10 ^ k ∧ acc.length + k ≤ 20
theorem DecRel.start (neg : Bool) (n : Nat) (h : n ≤ 9223372036854775808) : DecRel neg n n (if neg then -(n : Int) else n) [] := ⟨rfl, Nat.le_refl _, rfl, 20, by omega, by simp⟩
theorem DecRel.len {neg : Bool} {n u : Nat} {x : Int} {acc : List UInt8} (h : DecRel neg n u x acc) : acc.length ≤ 1000000000 := by
  obtain ⟨_, _, _, k, _, hk⟩ := h
  omega
theorem DecRel.next {neg : Bool} {n u : Nat} {x y : Int} {acc : List UInt8} (h : DecRel neg n u x acc) (hu : 0 < u) (hy : y = (if neg then -((u / 10 : Nat) : Int) else ((u / 10 : Nat) : Int))) : DecRel neg n (u / 10) y (UInt8.ofNat (48 + u % 10) :: acc) := by
  obtain ⟨_, h2, h3, k, hk, hl⟩ := h
  refine ⟨hy, by omega, by rw [← digs_pos hu]; exact h3, ?_⟩
  cases k with
  | zero => simp at hk; omega
  | succ k => exact ⟨k, by rw [Nat.pow_succ] at hk; omega, by simp; omega⟩
theorem DecRel.done {neg : Bool} {n : Nat} {x : Int} {acc : List UInt8} (h : DecRel neg n 0 x acc) : acc = digs n [] := by
  have := h.2.2.1
  rwa [digs_zero] at this

theorem dec_zero (w : World) : Calls Tryd.prog 13 #[.int .i64 0] w fun e w' => e = .returned (.string ⟨(Lib.itoa 0).toArray⟩) ∧ Below w.heap.size w w' := by
  have hz : Lib.itoa 0 = [48] := by unfold Lib.itoa; simp; rw [Lib.decDigits_one (by omega)]; rfl
  rw [hz]
  clear hz
  go_enter Tryd.func13, Tryd.ntmps13
  go_wp2
  go_ret
  exact ⟨rfl, Below.refl _ _⟩

set_option maxHeartbeats 1000000 in
theorem dec_pos (n : Nat) (w : World) (h0 : 0 < n) (h1 : n ≤ 9223372036854775807) : Calls Tryd.prog 13 #[.int .i64 n] w fun e w' => e = .returned (.string ⟨(Lib.itoa n).toArray⟩) ∧ Below w.heap.size w w' := by
  obtain ⟨z, hz⟩ : ∃ z : Int, z = (n : Int) := ⟨_, rfl⟩
  rw [← hz]
  have hi := Lib.hid (itoa_pos h0)
  have H0 := Lib.hid (DecRel.start false n (by omega))
  have HZ := Lib.hid hz
  have H1 := Lib.hid h1
  have z1 : (z == 0) = false := by simp; omega
  have z2 : ¬ z < 0 := by omega
  have z3 : decide (z < 0) = false := by simp; omega
  clear hz h1 h0
  go_enter Tryd.func13, Tryd.ntmps13
  go_wp2
  go_loopw [0, 4] (fun kv ov wr => ∃ (x : Int) (u : Nat) (acc : List UInt8), kv = .int .i64 x ∧ ov = .string ⟨acc.toArray⟩ ∧ Hid (DecRel false n u x acc) ∧ Below w.heap.size w wr) (fun kv _ _ => (intOf kv).toNat)
  case atStart => exact ⟨z, n, [], rfl, rfl, by rw [HZ.out]; exact H0, Below.refl _ _⟩
  case round =>
    obtain ⟨x, u, acc, rfl, rfl, hR, hb⟩ := hrel
    have hbs := hb.size
    by_cases hu : 0 < u
    · obtain ⟨r, y, e1, e2, e3, e4, r0, r1, y0, y1⟩ := step_pos x u hR.out.1 (by have := hR.out.2.1; have := H1.out; omega)
      have x1 : (x != 0) = true := by have := hR.out.1; simp at this ⊢; omega
      have x2 := Lib.hid hR.out.1
      have N := Lib.hid (hR.out.next hu e4)
      have hcv := one_byte (P := Tryd.prog) Tryd.underlying22 Tryd.underlying5 Tryd.underlying9 wr (figI r) (UInt8.ofNat (48 + u % 10)) (by rw [e3]; exact fig_digit u)
      obtain ⟨d, hd⟩ : ∃ d : UInt8, d = UInt8.ofNat (48 + u % 10) := ⟨_, rfl⟩
      rw [← hd] at hcv N
      have had := add_front (P := Tryd.prog) d acc hR.out.len
      have E4 := Lib.hid e4
      clear e3 e4 hd hi H0 hR
      go_wp2_with (go_at_call 20; refine (fig_any _ _ (by omega) (by omega)).mono ?_; rintro e w' ⟨rfl, rfl⟩)
      go_roundw
      case rel => exact ⟨y, u / 10, d :: acc, rfl, rfl, N, hb.alloc hbs _⟩
      case measure => have := x2.out; have := E4.out; simp [intOf] at *; omega
    · obtain rfl : u = 0 := by omega
      have x1 : (x != 0) = false := by have := hR.out.1; simp at this ⊢; omega
      have E := Lib.hid hR.out.done
      clear hR
      go_wp2
      go_ret
      exact ⟨by rw [HZ.out, hi.out, E.out]; rfl, hb⟩
set_option maxHeartbeats 1000000 in
theorem dec_neg (n : Nat) (w : World) (h0 : 0 < n) (h1 : n ≤ 9223372036854775808) : Calls Tryd.prog 13 #[.int .i64 (-(n : Int))] w fun e w' => e = .returned (.string ⟨(Lib.itoa (-(n : Int))).toArray⟩) ∧ Below w.heap.size w w' := by
  obtain ⟨z, hz⟩ : ∃ z : Int, z = -(n : Int) := ⟨_, rfl⟩
  rw [← hz]
  have hi := Lib.hid (itoa_neg h0)
  have H0 := Lib.hid (DecRel.start true n (by omega))
  have HZ := Lib.hid hz
  have H1 := Lib.hid h1
  have z1 : (z == 0) = false := by simp; omega
  have z2 : z < 0 := by omega
  have z3 : decide (z < 0) = true := by simp; omega
  clear hz h1 h0
  go_enter Tryd.func13, Tryd.ntmps13
  go_wp2
  go_loopw [0, 4] (fun kv ov wr => ∃ (x : Int) (u : Nat) (acc : List UInt8), kv = .int .i64 x ∧ ov = .string ⟨acc.toArray⟩ ∧ Hid (DecRel true n u x acc) ∧ Below w.heap.size w wr) (fun kv _ _ => (-(intOf kv)).toNat)
  case atStart => exact ⟨z, n, [], rfl, rfl, by rw [HZ.out]; exact H0, Below.refl _ _⟩
  case round =>
    obtain ⟨x, u, acc, rfl, rfl, hR, hb⟩ := hrel
    have hbs := hb.size
    by_cases hu : 0 < u
    · obtain ⟨r, y, e1, e2, e3, e4, r0, r1, y0, y1⟩ := step_neg x u hR.out.1 (by have := hR.out.2.1; have := H1.out; omega)
      have x1 : (x != 0) = true := by have := hR.out.1; simp at this ⊢; omega
      have x2 := Lib.hid hR.out.1
      have N := Lib.hid (hR.out.next hu e4)
      by_cases hr : r < 0
      · have hcv := one_byte (P := Tryd.prog) Tryd.underlying22 Tryd.underlying5 Tryd.underlying9 wr (figI (-r)) (UInt8.ofNat (48 + u % 10)) (by rw [e3]; simp only [Int.neg_neg]; exact fig_digit u)
        obtain ⟨d, hd⟩ : ∃ d : UInt8, d = UInt8.ofNat (48 + u % 10) := ⟨_, rfl⟩
        rw [← hd] at hcv N
        have had := add_front (P := Tryd.prog) d acc hR.out.len
        have E4 := Lib.hid e4
        clear e3 e4 hd hi H0 hR
        go_wp2_with (go_at_call 20; refine (fig_any _ _ (by omega) (by omega)).mono ?_; rintro e w' ⟨rfl, rfl⟩)
        go_roundw
        case rel => exact ⟨y, u / 10, d :: acc, rfl, rfl, N, hb.alloc hbs _⟩
        case measure => have := x2.out; have := E4.out; simp [intOf] at *; omega
      · have hcv := one_byte (P := Tryd.prog) Tryd.underlying22 Tryd.underlying5 Tryd.underlying9 wr (figI r) (UInt8.ofNat (48 + u % 10)) (by rw [show r = ((u % 10 : Nat) : Int) from by omega]; exact fig_digit u)
        obtain ⟨d, hd⟩ : ∃ d : UInt8, d = UInt8.ofNat (48 + u % 10) := ⟨_, rfl⟩
        rw [← hd] at hcv N
        have had := add_front (P := Tryd.prog) d acc hR.out.len
        have E4 := Lib.hid e4
        have r2 : 0 ≤ r := by omega
        clear e3 e4 hd hi H0 hR
        go_wp2_with (go_at_call 20; refine (fig_any _ _ (by omega) (by omega)).mono ?_; rintro e w' ⟨rfl, rfl⟩)
        go_roundw
        case rel => exact ⟨y, u / 10, d :: acc, rfl, rfl, N, hb.alloc hbs _⟩
        case measure => have := x2.out; have := E4.out; simp [intOf] at *; omega
    · obtain rfl : u = 0 := by omega
      have x1 : (x != 0) = false := by have := hR.out.1; simp at this ⊢; omega
      have E := Lib.hid hR.out.done
      have had := add_front (P := Tryd.prog) 45 acc hR.out.len
      clear hR
      go_wp2
      go_ret
      exact ⟨by rw [HZ.out, hi.out, E.out]; rfl, hb⟩

theorem dec_any (n : Int) (w : World) (h0 : -9223372036854775808 ≤ n) (h1 : n ≤ 9223372036854775807) : Calls Tryd.prog 13 #[.int .i64 n] w fun e w' => e = .returned (.string ⟨(Lib.itoa n).toArray⟩) ∧ Below w.heap.size w w' := by
  rcases Int.lt_trichotomy n 0 with h | h | h
  · obtain ⟨m, rfl⟩ : ∃ m : Nat, n = -(m : Int) := ⟨n.natAbs, by omega⟩
    exact dec_neg m w (by omega) (by omega)
  · subst h
    exact dec_zero w
  · obtain ⟨m, rfl⟩ : ∃ m : Nat, n = (m : Int) := ⟨n.natAbs, by omega⟩
    exact dec_pos m w (by omega) (by omega)
end Go.Proofs.YtbncjdieilcjjaaDoor

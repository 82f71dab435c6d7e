/-
  The contracts of spec.l02Cmp, l02Add, l02Sub.
-/
import Derived.Test.YtkpcocdflcpnoaaNTrim
import Derived.Deep.QuietTactic
import Derived.BigQuiet
namespace Go.Proofs.Ytkpcocdflcpnoaa
open Go.RowKit

/-! Plain lemmas on limbs. -/
theorem lV_take_succ (l : List Nat) (k : Nat) : lV (l.take (k + 1)) = lV (l.take k) + 16777216 ^ k * l.getD k 0 := by
  by_cases h : k < l.length
  · rw [take_snocN l h, lV_snoc, List.length_take, Nat.min_eq_left (by omega), List.getD_eq_getElem?_getD, List.getElem?_eq_getElem h]; rfl
  · rw [List.take_of_length_le (by omega), List.take_of_length_le (by omega), List.getD_eq_getElem?_getD, List.getElem?_eq_none (by omega)]; simp
theorem lV_split (l : List Nat) (k : Nat) : lV l = lV (l.take k) + 16777216 ^ (min k l.length) * lV (l.drop k) := by
  conv => lhs; rw [← List.take_append_drop k l]
  rw [lV_append, List.length_take]
theorem getD_lt {l : List Nat} (h : Limbs l) (k : Nat) : l.getD k 0 < 16777216 := by
  rw [List.getD_eq_getElem?_getD]
  by_cases hk : k < l.length
  · rw [List.getElem?_eq_getElem hk]; exact h.get hk
  · rw [List.getElem?_eq_none (by omega)]; simp
theorem getD_eq {l : List Nat} {k : Nat} (h : k < l.length) : l.getD k 0 = l[k] := by rw [List.getD_eq_getElem?_getD, List.getElem?_eq_getElem h]; rfl
theorem andL (n : Int) : bits .and .i64 n 16777215 = n % 16777216 := by
  have h255 : (BitVec.ofInt 64 16777215).toNat = 2 ^ 24 - 1 := by decide
  have key : (BitVec.ofInt 64 n &&& BitVec.ofInt 64 16777215).toNat = (n % ((2 ^ 64 : Nat) : Int)).toNat % 2 ^ 24 := by
    rw [BitVec.toNat_and, BitVec.toNat_ofInt, h255, Nat.and_two_pow_sub_one_eq_mod]
  show IntKind.i64.wrap ((BitVec.ofInt 64 n &&& BitVec.ofInt 64 16777215).toNat : Nat) = n % 16777216
  rw [key, IntKind.wrap_i64]
  omega

/-! Which is less. -/
def cmpI (a b : Nat) : Int := if a < b then -1 else if a = b then 0 else 1
theorem less_at {la lb : List Nat} {k : Nat} (ha : Limbs la) (hl : la.length = lb.length) (hk : k < la.length) (hd : la.drop (k + 1) = lb.drop (k + 1)) (hlt : la[k] < lb[k]'(by omega)) : lV la < lV lb := by
  rw [lV_split la (k + 1), lV_split lb (k + 1), hd, hl, lV_take_succ, lV_take_succ, getD_eq hk, getD_eq (by omega : k < lb.length)]
  have h1 := lV_lt (ha.take k)
  rw [List.length_take, Nat.min_eq_left (by omega)] at h1
  have h2 : 16777216 ^ k * (la[k] + 1) ≤ 16777216 ^ k * lb[k]'(by omega) := Nat.mul_le_mul_left _ hlt
  rw [Nat.mul_add] at h2
  omega
theorem less_len {la lb : List Nat} (ha : Limbs la) (tb : Trimmed lb) (h : la.length < lb.length) : lV la < lV lb := by
  have h1 := lV_lt ha
  have hne : lb ≠ [] := by intro e; rw [e] at h; simp at h
  have h2 := tb.ge hne
  have : 16777216 ^ la.length ≤ 16777216 ^ (lb.length - 1) := Nat.pow_le_pow_right (by omega) (by omega)
  omega
def CmpPost (r : Int) (w : World) (e : Ending) (w' : World) : Prop := e = .returned (.int .i64 r) ∧ Below w.heap.size w w'
theorem bd {B : Nat} {w x : World} (h : Below B w x) (k : Nat) : Below B w (x.drewN k) := ⟨h.os, h.tape, h.output, h.size, h.block⟩

set_option maxHeartbeats 1000000 in
theorem cmp_any (b1 b2 ca cb : Nat) (A B : Option Addr) (la lb : List Nat) (w : World) (ha : RowN w b1 A ca la) (hb : RowN w b2 B cb lb) (La : Limbs la) (Lb : Limbs lb) (ta : Trimmed la) (tb : Trimmed lb) (hla : la.length ≤ 1000000) :
    Calls Try.prog 65 #[.slice A la.length ca, .slice B lb.length cb] w (CmpPost (cmpI (lV la) (lV lb)) w) := by
  rcases Nat.lt_trichotomy la.length lb.length with h | h | h
  · have E : cmpI (lV la) (lV lb) = -1 := by unfold cmpI; rw [if_pos (less_len La tb h)]
    rw [E]
    have h1 : ((la.length : Int) != (lb.length : Int)) = true := by simp; omega
    have h2 : (la.length : Int) < (lb.length : Int) := by omega
    clear E
    generalize la.length = na at *
    generalize lb.length = nb at *
    go_enter Try.func65, Try.ntmps65
    go_wp2
    go_ret
    exact ⟨rfl, Below.refl _ _⟩
  · obtain ⟨n, hn⟩ : ∃ n, la.length = n := ⟨_, rfl⟩
    have HA := Lib.hid ha
    have HB := Lib.hid hb
    have hn2 : lb.length = n := by omega
    rw [hn, hn2]
    have HN := Lib.hid hn
    have HN2 := Lib.hid hn2
    have hn3 : n ≤ 1000000 := by omega
    clear ha hb hn hn2 h hla
    have h1 : ((n : Int) != (n : Int)) = false := by simp
    go_enter Try.func65, Try.ntmps65
    go_wp2
    go_loopw [5] (fun iv wr => ∃ (i : Nat), i ≤ n ∧ iv = .int .i64 ((i : Int) - 1) ∧ Hid (la.drop i = lb.drop i) ∧ Below w.heap.size w wr) (fun iv _ => (intOf iv + 1).toNat)
    case atStart => exact ⟨n, Nat.le_refl _, by go_num, by show _ = _; rw [List.drop_of_length_le (by rw [HN.out]; omega), List.drop_of_length_le (by rw [HN2.out]; omega)], Below.refl _ _⟩
    case round =>
      obtain ⟨i, hi, rfl, hD, hbw⟩ := hrel
      by_cases h0 : 0 < i
      · obtain ⟨j, rfl⟩ : ∃ j, i = j + 1 := ⟨i - 1, by omega⟩
        have hja : j < la.length := by rw [HN.out]; omega
        have hjb : j < lb.length := by rw [HN2.out]; omega
        obtain ⟨g1, rfl, _, _, c1, _⟩ := (HA.out.below hbw).at_ hja
        obtain ⟨g2, rfl, _, _, c2, _⟩ := (HB.out.below hbw).at_ hjb
        have hji : (((j + 1 : Nat) : Int) - 1) = (j : Int) := by omega
        have hj0 : (0 : Int) ≤ (j : Int) := by omega
        have hjn : (j : Int) < (n : Int) := by omega
        rw [hji]
        rcases Nat.lt_trichotomy la[j] lb[j] with hc | hc | hc
        · have E : Hid (cmpI (lV la) (lV lb) = -1) := by show _ = _; unfold cmpI; rw [if_pos (less_at La (by rw [HN.out, HN2.out]) hja hD.out hc)]
          have q1 : ((la[j] : Int) != (lb[j] : Int)) = true := by simp; omega
          have q2 : decide ((la[j] : Int) < (lb[j] : Int)) = true := by simp; omega
          have q3 : (la[j] : Int) < (lb[j] : Int) := by omega
          generalize la[j] = xa at *
          generalize lb[j] = xb at *
          go_wp2
          go_quiet (fail)
          go_wp2
          go_quiet (fail)
          go_wp2
          go_ret
          exact ⟨by rw [E.out]; rfl, bd (bd hbw _) _⟩
        · have hD2 : Hid (la.drop j = lb.drop j) := by show _ = _; rw [List.drop_eq_getElem_cons hja, List.drop_eq_getElem_cons hjb, hD.out, hc]
          have q1 : ((la[j] : Int) != (lb[j] : Int)) = false := by simp; omega
          clear hc
          generalize la[j] = xa at *
          generalize lb[j] = xb at *
          go_wp2
          go_quiet (fail)
          go_wp2
          go_roundw
          case rel => exact ⟨j, by omega, by go_num, hD2, bd hbw _⟩
          case measure => simp [intOf]
        · have E : Hid (cmpI (lV la) (lV lb) = 1) := by
            have := less_at Lb (by rw [HN.out, HN2.out]) hjb hD.out.symm hc
            show _ = _; unfold cmpI; rw [if_neg (by omega), if_neg (by omega)]
          have q1 : ((la[j] : Int) != (lb[j] : Int)) = true := by simp; omega
          have q2 : decide ((la[j] : Int) < (lb[j] : Int)) = false := by simp; omega
          have q3 : ¬ (la[j] : Int) < (lb[j] : Int) := by omega
          generalize la[j] = xa at *
          generalize lb[j] = xb at *
          go_wp2
          go_quiet (fail)
          go_wp2
          go_quiet (fail)
          go_wp2
          go_ret
          exact ⟨by rw [E.out]; rfl, bd (bd hbw _) _⟩
      · obtain rfl : i = 0 := by omega
        have E : Hid (cmpI (lV la) (lV lb) = 0) := by
          have := hD.out
          simp only [List.drop_zero] at this
          show _ = _; rw [this]; unfold cmpI; simp
        have h0' : ¬ (0 : Int) ≤ ((0 : Nat) : Int) - 1 := by omega
        go_wp2
        go_ret
        exact ⟨by rw [E.out]; rfl, hbw⟩
  · have E : cmpI (lV la) (lV lb) = 1 := by
      have := less_len Lb ta h
      unfold cmpI; rw [if_neg (by omega), if_neg (by omega)]
    rw [E]
    have h1 : ((la.length : Int) != (lb.length : Int)) = true := by simp; omega
    have h2 : ¬ (la.length : Int) < (lb.length : Int) := by omega
    clear E
    generalize la.length = na at *
    generalize lb.length = nb at *
    go_enter Try.func65, Try.ntmps65
    go_wp2
    go_ret
    exact ⟨rfl, Below.refl _ _⟩
end Go.Proofs.Ytkpcocdflcpnoaa

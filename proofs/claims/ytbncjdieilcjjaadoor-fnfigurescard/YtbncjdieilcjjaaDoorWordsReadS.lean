/-
  The contract of spec.ReadDecimal at every text: rN and rB.
-/
import Derived.Test.YtbncjdieilcjjaaDoorWordsRead
namespace Go.Proofs.YtbncjdieilcjjaaDoor
open Go.RowKit

theorem int_eq {k : IntKind} {a b : Int} (h : a = b) : Value.int k a = Value.int k b := by rw [h]
theorem fin_r {s : ByteArray} {b : Bool} {t : Int} (E : rB s = b ∧ rN s = t) : Ending.returned (.tuple #[.int .i64 t, .bool b]) = .returned (.tuple #[.int .i64 (rN s), .bool (rB s)]) := by rw [E.1, E.2]
theorem size_list (s : ByteArray) : s.size = s.data.toList.length := by simp
theorem r_long {s : ByteArray} (h : 10 < s.size) : rB s = false ∧ rN s = 0 :=
  r_no fun n hn e => by have := dec_len n hn; rw [e, ← size_list] at this; omega
theorem r_other {s : ByteArray} {i : Nat} (hi : i < s.size) (h : (s[i].toNat : Int) < 48 ∨ 57 < (s[i].toNat : Int)) : rB s = false ∧ rN s = 0 :=
  r_no fun n hn e => by
    have hd := (dec_val n).2.1
    rw [e] at hd
    have hm : s[i] ∈ s.data.toList := by
      have : s.data.toList[i]'(by rw [← size_list]; exact hi) = s[i] := rfl
      rw [← this]; exact List.getElem_mem _
    have := List.all_eq_true.1 hd _ hm
    simp only [isDig, Bool.and_eq_true, decide_eq_true_eq] at this
    omega
/-- What the loop holds: figures alone, and their number. -/
def RdRel (s : ByteArray) (i v : Nat) : Prop := (s.data.toList.take i).all isDig = true ∧ v = valF 0 (s.data.toList.take i)
theorem RdRel.lt {s : ByteArray} {i v : Nat} (h : RdRel s i v) (hi : i ≤ 10) : v < 10000000000 := by
  have := valF_lt _ 0 h.1
  rw [← h.2] at this
  have hl : (s.data.toList.take i).length ≤ 10 := by rw [List.length_take]; omega
  have := Nat.pow_le_pow_right (n := 10) (by omega) hl
  omega
theorem RdRel.next {s : ByteArray} {i v : Nat} (h : RdRel s i v) (hi : i < s.size) (h1 : ¬ (s[i].toNat : Int) < 48) (h2 : ¬ 57 < (s[i].toNat : Int)) : RdRel s (i + 1) (10 * v + dv s[i]) := by
  refine ⟨?_, ?_⟩
  · rw [take_snoc s i hi, List.all_append, h.1]
    simp only [List.all_cons, List.all_nil, Bool.and_true, Bool.true_and, isDig]
    simp; omega
  · rw [take_snoc s i hi, valF_snoc, h.2]
theorem r_end {s : ByteArray} {v : Nat} (h : RdRel s s.size v) : v = valF 0 s.data.toList := by
  have := h.2
  rwa [take_all] at this
theorem r_great {s : ByteArray} {v : Nat} (h : RdRel s s.size v) (hv : 1000000000 < v) : rB s = false ∧ rN s = 0 :=
  r_no fun n hn e => by
    have := (dec_val n).1
    rw [e, ← r_end h] at this
    omega
theorem r_unlike {s : ByteArray} {v : Nat} (h : RdRel s s.size v) (hv : Lib.decDigits v ≠ s.data.toList) : rB s = false ∧ rN s = 0 :=
  r_no fun n hn e => by
    have := (dec_val n).1
    rw [e, ← r_end h] at this
    subst this
    exact hv e
theorem text_same {l : List UInt8} {s : ByteArray} (h : l = s.data.toList) : (l == s.toList) = true := by rw [ByteArray.toList_eq, h]; simp
theorem text_other {l : List UInt8} {s : ByteArray} (h : l ≠ s.data.toList) : (l == s.toList) = false := by rw [ByteArray.toList_eq]; simpa using h

set_option maxHeartbeats 1000000 in
theorem spec_ReadDecimal (s : ByteArray) (w : World) (hs : s.size ≤ maxLen) :
    Calls Tryd.prog 14 #[.string s] w fun e w' => e = .returned (.tuple #[.int .i64 (rN s), .bool (rB s)]) ∧ Below w.heap.size w w' := by
  unfold maxLen at hs
  by_cases h1 : 10 < s.size
  · have E := Lib.hid (r_long h1)
    have hd : decide ((10 : Int) < (s.size : Int)) = true := by simp; omega
    go_enter Tryd.func14, Tryd.ntmps14
    go_wp2
    go_ret2
    exact ⟨fin_r E.out, Below.refl _ _⟩
  have hd : decide ((10 : Int) < (s.size : Int)) = false := by simp; omega
  go_enter Tryd.func14, Tryd.ntmps14
  go_wp2
  go_loop [4, 5] (fun nv iv => ∃ i v : Nat, i ≤ s.size ∧ iv = .int .i64 i ∧ nv = .int .i64 v ∧ Hid (RdRel s i v)) (fun _ iv => s.size - (intOf iv).toNat)
  case atStart => exact ⟨0, 0, by omega, rfl, rfl, rfl, rfl⟩
  case round =>
    obtain ⟨i, v, hi, rfl, rfl, hR⟩ := hrel
    have hv := hR.out.lt (by omega)
    by_cases hlt : i < s.size
    · have hlt' : (i : Int) < (s.size : Int) := by omega
      by_cases c1 : (s[i].toNat : Int) < 48
      · have E := Lib.hid (r_other hlt (.inl c1))
        go_wp2
        go_ret2
        exact ⟨fin_r E.out, Below.refl _ _⟩
      by_cases c2 : 57 < (s[i].toNat : Int)
      · have E := Lib.hid (r_other hlt (.inr c2))
        go_wp2
        go_ret2
        exact ⟨fin_r E.out, Below.refl _ _⟩
      have N := Lib.hid (hR.out.next hlt c1 c2)
      have D := Lib.hid (dv_eq s[i])
      have hc := s[i].toNat_lt
      go_wp2
      go_round
      case rel => exact ⟨i + 1, 10 * v + dv s[i], by omega, by go_num, int_eq (by have := D.out; omega), N⟩
      case measure => simp [intOf]; omega
    · obtain rfl : i = s.size := by omega
      by_cases c1 : 1000000000 < v
      · have E := Lib.hid (r_great hR.out c1)
        have hd2 : decide ((1000000000 : Int) < (v : Int)) = true := by simp; omega
        go_wp2
        go_ret2
        exact ⟨fin_r E.out, Below.refl _ _⟩
      have hd2 : decide ((1000000000 : Int) < (v : Int)) = false := by simp; omega
      have HC := Lib.hid (dec_any (v : Int) w (by omega) (by omega))
      by_cases c2 : Lib.decDigits v = s.data.toList
      · have E := Lib.hid (r_yes (by omega) c2)
        have t1 := text_same (s := s) (l := Lib.itoa (v : Int)) (by rw [itoa_nat]; exact c2)
        clear c2
        go_wp2_with (go_at_call 13; refine HC.out.mono ?_; rintro e w1 ⟨rfl, hb⟩)
        go_ret2
        exact ⟨fin_r E.out, hb⟩
      · have E := Lib.hid (r_unlike hR.out c2)
        have t1 := text_other (s := s) (l := Lib.itoa (v : Int)) (by rw [itoa_nat]; exact c2)
        clear c2
        go_wp2_with (go_at_call 13; refine HC.out.mono ?_; rintro e w1 ⟨rfl, hb⟩)
        go_ret2
        exact ⟨fin_r E.out, hb⟩
end Go.Proofs.YtbncjdieilcjjaaDoor

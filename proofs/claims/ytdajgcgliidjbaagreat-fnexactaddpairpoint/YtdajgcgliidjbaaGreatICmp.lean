import Derived.Test.YtdajgcgliidjbaaGreatILow
import Derived.Lib.Bytealg
set_option maxRecDepth 8000
set_option maxHeartbeats 1000000
namespace Go.Proofs.YtdajgcgliidjbaaGreat
open Go.RowKit
theorem isNaN_any (x : Int) (w : World) : Calls Tryz.prog 176 #[.int .i64 x] w fun e w' => e = .returned (.bool false) ∧ w = w' := by
 have h : (x != x) = false := by simp
 go_enter Tryz.func176, Tryz.ntmps176
 go_wp2
 go_ret
 exact ⟨rfl, rfl⟩
def cmpZ (a b : Int) : Int := if a < b then -1 else if b < a then 1 else 0
theorem cmpInt_any (x y : Int) (w : World) : Calls Tryz.prog 146 #[.int .i64 x, .int .i64 y] w fun e w' => e = .returned (.int .i64 (cmpZ x y)) ∧ w = w' := by
 have H := isNaN_any
 unfold cmpZ
 rcases Int.lt_trichotomy x y with h | h | h
 ·rw [if_pos h]
  go_enter Tryz.func146, Tryz.ntmps146
  go_wp2_with fail
  refine (H _ _).mono ?_
  rintro e w1 ⟨rfl, rfl⟩
  go_wp2_with fail
  refine (H _ _).mono ?_
  rintro e w1 ⟨rfl, rfl⟩
  clear H
  go_wp2
  go_ret
  exact ⟨rfl, rfl⟩
 ·subst h
  rw [if_neg (by omega), if_neg (by omega)]
  go_enter Tryz.func146, Tryz.ntmps146
  go_wp2_with fail
  refine (H _ _).mono ?_
  rintro e w1 ⟨rfl, rfl⟩
  go_wp2_with fail
  refine (H _ _).mono ?_
  rintro e w1 ⟨rfl, rfl⟩
  clear H
  go_wp2
  go_ret
  exact ⟨rfl, rfl⟩
 ·rw [if_neg (by omega), if_pos h]
  have h2 : ¬ x < y := by omega
  go_enter Tryz.func146, Tryz.ntmps146
  go_wp2_with fail
  refine (H _ _).mono ?_
  rintro e w1 ⟨rfl, rfl⟩
  go_wp2_with fail
  refine (H _ _).mono ?_
  rintro e w1 ⟨rfl, rfl⟩
  clear H
  go_wp2
  go_ret
  exact ⟨rfl, rfl⟩
theorem compareString_any (a b : ByteArray) (w : World) : Calls Tryz.prog 177 #[.string a, .string b] w fun e w' => e = .returned (.int .i64 (Lib.compareBytes a.data.toList b.data.toList)) ∧ w = w' := by
 go_enter Tryz.func177, Tryz.ntmps177
 go_wp2
 rw [run_callFunc_extern Tryz.func191 (by kernel_rfl) (by kernel_rfl) (by kernel_rfl) (e := Extern.BytealgCompare.compare) (by kernel_rfl), Lib.run_compareString]
 simp only [Result.andThen]
 rw [Oper.upon_value]
 go_wp2
 go_ret
 exact ⟨rfl, rfl⟩
theorem strCompare_any (a b : ByteArray) (w : World) : Calls Tryz.prog 147 #[.string a, .string b] w fun e w' => e = .returned (.int .i64 (Lib.compareBytes a.data.toList b.data.toList)) ∧ w = w' := by
 go_enter Tryz.func147, Tryz.ntmps147
 go_wp2_with fail
 refine (compareString_any _ _ _).mono ?_
 rintro e w1 ⟨rfl, rfl⟩
 go_wp2
 go_ret
 exact ⟨rfl, rfl⟩
theorem cmpBytes_val : ∀ (a b : List UInt8), a.length = b.length → Lib.compareBytes a b = cmpI (bN a) (bN b)
 | [], [], _ => by unfold cmpI; simp [Lib.compareBytes, bN]
 | x :: a, y :: b, h => by
  have hl : a.length = b.length := by simpa using h
  have ih := cmpBytes_val a b hl
  have h1 := bN_lt a
  have h2 := bN_lt b
  rw [bN_cons, bN_cons, Lib.compareBytes, hl]
  rw [hl] at h1
  have hp : 0 < 256 ^ b.length := Nat.pow_pos (by omega)
  by_cases hxy : x < y
  ·rw [if_pos hxy]
   have hn : x.toNat < y.toNat := UInt8.lt_iff_toNat_lt.1 hxy
   have : (x.toNat + 1) * 256 ^ b.length ≤ y.toNat * 256 ^ b.length := Nat.mul_le_mul_right _ hn
   rw [Nat.add_mul] at this
   unfold cmpI; rw [if_pos (by omega)]
  ·rw [if_neg hxy]
   by_cases hyx : y < x
   ·rw [if_pos hyx]
    have hn : y.toNat < x.toNat := UInt8.lt_iff_toNat_lt.1 hyx
    have : (y.toNat + 1) * 256 ^ b.length ≤ x.toNat * 256 ^ b.length := Nat.mul_le_mul_right _ hn
    rw [Nat.add_mul] at this
    unfold cmpI; rw [if_neg (by omega), if_neg (by omega)]
   ·rw [if_neg hyx, ih]
    have e : x.toNat = y.toNat := by
     have a1 : ¬ x.toNat < y.toNat := fun h => hxy (UInt8.lt_iff_toNat_lt.2 h)
     have a2 : ¬ y.toNat < x.toNat := fun h => hyx (UInt8.lt_iff_toNat_lt.2 h)
     omega
    rw [e]
    unfold cmpI
    simp only [Nat.add_lt_add_iff_left, Nat.add_left_cancel_iff]
theorem cmpLen {a b : ByteArray} (ha : okG a = true) (hb : okG b = true) (h : a.size ≠ b.size) : cmpZ (a.size : Int) (b.size : Int) = cmpI (gV a) (gV b) := by
 have la := gV_size a
 have lb := gV_size b
 unfold cmpZ
 by_cases h1 : a.size < b.size
 ·have g := gV_ge hb (by omega)
  have : 256 ^ a.size ≤ 256 ^ (b.size - 1) := Nat.pow_le_pow_right (by omega) (by omega)
  rw [if_pos (by omega)]; unfold cmpI; rw [if_pos (by omega)]
 ·have g := gV_ge ha (by omega)
  have : 256 ^ b.size ≤ 256 ^ (a.size - 1) := Nat.pow_le_pow_right (by omega) (by omega)
  rw [if_neg (by omega), if_pos (by omega)]; unfold cmpI; rw [if_neg (by omega), if_neg (by omega)]
theorem compareGreat_i (a b : ByteArray) (w : World) : Calls Tryz.prog 104 #[.string a, .string b] w fun e w' => e = .returned (.int .i64 (cmpG a b)) ∧ w = w' := by
 have HA := greatOk_i a
 have HB := greatOk_i b
 unfold cmpG okT
 cases ha : okG a with
 | false =>
  rw [ha] at HA
  go_enter Tryz.func104, Tryz.ntmps104
  go_wp2_with fail
  refine (HA _).mono ?_
  rintro e w1 ⟨rfl, rfl⟩
  go_wp2
  go_ret
  exact ⟨rfl, rfl⟩
 | true =>
  cases hb : okG b with
  | false =>
   rw [ha] at HA
   rw [hb] at HB
   go_enter Tryz.func104, Tryz.ntmps104
   go_wp2_with fail
   refine (HA _).mono ?_
   rintro e w1 ⟨rfl, rfl⟩
   go_wp2_with fail
   refine (HB _).mono ?_
   rintro e w1 ⟨rfl, rfl⟩
   go_wp2
   go_ret
   exact ⟨rfl, rfl⟩
  | true =>
   rw [ha] at HA
   rw [hb] at HB
   by_cases hl : a.size = b.size
   ·have q : ((a.size : Int) != (b.size : Int)) = false := by simp [hl]
    have E := Lib.hid (cmpBytes_val a.data.toList b.data.toList (by simpa using hl))
    clear hl
    go_enter Tryz.func104, Tryz.ntmps104
    go_wp2_with fail
    refine (HA _).mono ?_
    rintro e w1 ⟨rfl, rfl⟩
    go_wp2_with fail
    refine (HB _).mono ?_
    rintro e w1 ⟨rfl, rfl⟩
    go_wp2_with fail
    refine (strCompare_any _ _ _).mono ?_
    rintro e w1 ⟨rfl, rfl⟩
    go_wp2
    go_ret
    exact ⟨ret_int E.out, rfl⟩
   ·have q : ((a.size : Int) != (b.size : Int)) = true := by simp; omega
    have E := Lib.hid (cmpLen ha hb hl)
    clear hl
    go_enter Tryz.func104, Tryz.ntmps104
    go_wp2_with fail
    refine (HA _).mono ?_
    rintro e w1 ⟨rfl, rfl⟩
    go_wp2_with fail
    refine (HB _).mono ?_
    rintro e w1 ⟨rfl, rfl⟩
    go_wp2_with fail
    refine (cmpInt_any _ _ _).mono ?_
    rintro e w1 ⟨rfl, rfl⟩
    go_wp2
    go_ret
    exact ⟨ret_int E.out, rfl⟩
end Go.Proofs.YtdajgcgliidjbaaGreat

import Derived.Test.YtdajgcgliidjbaaGreatILow
import Derived.Lib.Bytealg
import Derived.Test.YtdajgcgliidjbaaGreatIMid
set_option maxRecDepth 8000
set_option maxHeartbeats 2000000
namespace Go.Proofs.YtdajgcgliidjbaaGreat
open Go.RowKit
theorem isNaN_any (x : Int) (w : World) : Calls Tryz.prog 176 #[.int .i64 x] w fun e w' => e = .returned (.bool false) ∧ w = w' := by
 have h : (x != x) = false := by simp
 go_enter Tryz.func176, Tryz.ntmps176
 go_wp2
 go_ret
 exact ⟨rfl, rfl⟩
def cmpZ (a b : Int) : Int := if a < b then -1 else if b < a then 1 else 0
theorem cmpInt_any (x y : Int) (w : World) : Calls Tryz.prog 146 #[.int .i64 x, .int .i64 y] w fun e w' => e = .returned (.int .i64 (cmpZ x y)) ∧ w = w' := by
 have H := isNaN_any
 unfold cmpZ
 rcases Int.lt_trichotomy x y with h | h | h
 ·rw [if_pos h]
  go_enter Tryz.func146, Tryz.ntmps146
  go_wp2_with fail
  refine (H _ _).mono ?_
  rintro e w1 ⟨rfl, rfl⟩
  go_wp2_with fail
  refine (H _ _).mono ?_
  rintro e w1 ⟨rfl, rfl⟩
  clear H
  go_wp2
  go_ret
  exact ⟨rfl, rfl⟩
 ·subst h
  rw [if_neg (by omega), if_neg (by omega)]
  go_enter Tryz.func146, Tryz.ntmps146
  go_wp2_with fail
  refine (H _ _).mono ?_
  rintro e w1 ⟨rfl, rfl⟩
  go_wp2_with fail
  refine (H _ _).mono ?_
  rintro e w1 ⟨rfl, rfl⟩
  clear H
  go_wp2
  go_ret
  exact ⟨rfl, rfl⟩
 ·rw [if_neg (by omega), if_pos h]
  have h2 : ¬ x < y := by omega
  go_enter Tryz.func146, Tryz.ntmps146
  go_wp2_with fail
  refine (H _ _).mono ?_
  rintro e w1 ⟨rfl, rfl⟩
  go_wp2_with fail
  refine (H _ _).mono ?_
  rintro e w1 ⟨rfl, rfl⟩
  clear H
  go_wp2
  go_ret
  exact ⟨rfl, rfl⟩
theorem compareString_any (a b : ByteArray) (w : World) : Calls Tryz.prog 177 #[.string a, .string b] w fun e w' => e = .returned (.int .i64 (Lib.compareBytes a.data.toList b.data.toList)) ∧ w = w' := by
 go_enter Tryz.func177, Tryz.ntmps177
 go_wp2
 rw [run_callFunc_extern Tryz.func191 (by kernel_rfl) (by kernel_rfl) (by kernel_rfl) (e := Extern.BytealgCompare.compare) (by kernel_rfl), Lib.run_compareString]
 simp only [Result.andThen]
 rw [Oper.upon_value]
 go_wp2
 go_ret
 exact ⟨rfl, rfl⟩
theorem strCompare_any (a b : ByteArray) (w : World) : Calls Tryz.prog 147 #[.string a, .string b] w fun e w' => e = .returned (.int .i64 (Lib.compareBytes a.data.toList b.data.toList)) ∧ w = w' := by
 go_enter Tryz.func147, Tryz.ntmps147
 go_wp2_with fail
 refine (compareString_any _ _ _).mono ?_
 rintro e w1 ⟨rfl, rfl⟩
 go_wp2
 go_ret
 exact ⟨rfl, rfl⟩
theorem cmpBytes_val : ∀ (a b : List UInt8), a.length = b.length → Lib.compareBytes a b = cmpI (bN a) (bN b)
 | [], [], _ => by unfold cmpI; simp [Lib.compareBytes, bN]
 | x :: a, y :: b, h => by
  have hl : a.length = b.length := by simpa using h
  have ih := cmpBytes_val a b hl
  have h1 := bN_lt a
  have h2 := bN_lt b
  rw [bN_cons, bN_cons, Lib.compareBytes, hl]
  rw [hl] at h1
  have hp : 0 < 256 ^ b.length := Nat.pow_pos (by omega)
  by_cases hxy : x < y
  ·rw [if_pos hxy]
   have hn : x.toNat < y.toNat := UInt8.lt_iff_toNat_lt.1 hxy
   have : (x.toNat + 1) * 256 ^ b.length ≤ y.toNat * 256 ^ b.length := Nat.mul_le_mul_right _ hn
   rw [Nat.add_mul] at this
   unfold cmpI; rw [if_pos (by omega)]
  ·rw [if_neg hxy]
   by_cases hyx : y < x
   ·rw [if_pos hyx]
    have hn : y.toNat < x.toNat := UInt8.lt_iff_toNat_lt.1 hyx
    have : (y.toNat + 1) * 256 ^ b.length ≤ x.toNat * 256 ^ b.length := Nat.mul_le_mul_right _ hn
    rw [Nat.add_mul] at this
    unfold cmpI; rw [if_neg (by omega), if_neg (by omega)]
   ·rw [if_neg hyx, ih]
    have e : x.toNat = y.toNat := by
     have a1 : ¬ x.toNat < y.toNat := fun h => hxy (UInt8.lt_iff_toNat_lt.2 h)
     have a2 : ¬ y.toNat < x.toNat := fun h => hyx (UInt8.lt_iff_toNat_lt.2 h)
     omega
    rw [e]
    unfold cmpI
    simp only [Nat.add_lt_add_iff_left, Nat.add_left_cancel_iff]
theorem cmpLen {a b : ByteArray} (ha : okG a = true) (hb : okG b = true) (h : a.size ≠ b.size) : cmpZ (a.size : Int) (b.size : Int) = cmpI (gV a) (gV b) := by
 have la := gV_size a
 have lb := gV_size b
 unfold cmpZ
 by_cases h1 : a.size < b.size
 ·have g := gV_ge hb (by omega)
  have : 256 ^ a.size ≤ 256 ^ (b.size - 1) := Nat.pow_le_pow_right (by omega) (by omega)
  rw [if_pos (by omega)]; unfold cmpI; rw [if_pos (by omega)]
 ·have g := gV_ge ha (by omega)
  have : 256 ^ b.size ≤ 256 ^ (a.size - 1) := Nat.pow_le_pow_right (by omega) (by omega)
  rw [if_neg (by omega), if_pos (by omega)]; unfold cmpI; rw [if_neg (by omega), if_neg (by omega)]
theorem compareGreat_i (a b : ByteArray) (w : World) : Calls Tryz.prog 104 #[.string a, .string b] w fun e w' => e = .returned (.int .i64 (cmpG a b)) ∧ w = w' := by
 have HA := greatOk_i a
 have HB := greatOk_i b
 unfold cmpG okT
 cases ha : okG a with
 | false =>
  rw [ha] at HA
  go_enter Tryz.func104, Tryz.ntmps104
  go_wp2_with fail
  refine (HA _).mono ?_
  rintro e w1 ⟨rfl, rfl⟩
  go_wp2
  go_ret
  exact ⟨rfl, rfl⟩
 | true =>
  cases hb : okG b with
  | false =>
   rw [ha] at HA
   rw [hb] at HB
   go_enter Tryz.func104, Tryz.ntmps104
   go_wp2_with fail
   refine (HA _).mono ?_
   rintro e w1 ⟨rfl, rfl⟩
   go_wp2_with fail
   refine (HB _).mono ?_
   rintro e w1 ⟨rfl, rfl⟩
   go_wp2
   go_ret
   exact ⟨rfl, rfl⟩
  | true =>
   rw [ha] at HA
   rw [hb] at HB
   by_cases hl : a.size = b.size
   ·have q : ((a.size : Int) != (b.size : Int)) = false := by simp [hl]
    have E := Lib.hid (cmpBytes_val a.data.toList b.data.toList (by simpa using hl))
    clear hl
    go_enter Tryz.func104, Tryz.ntmps104
    go_wp2_with fail
    refine (HA _).mono ?_
    rintro e w1 ⟨rfl, rfl⟩
    go_wp2_with fail
    refine (HB _).mono ?_
    rintro e w1 ⟨rfl, rfl⟩
    go_wp2_with fail
    refine (strCompare_any _ _ _).mono ?_
    rintro e w1 ⟨rfl, rfl⟩
    go_wp2
    go_ret
    exact ⟨ret_int E.out, rfl⟩
   ·have q : ((a.size : Int) != (b.size : Int)) = true := by simp; omega
    have E := Lib.hid (cmpLen ha hb hl)
    clear hl
    go_enter Tryz.func104, Tryz.ntmps104
    go_wp2_with fail
    refine (HA _).mono ?_
    rintro e w1 ⟨rfl, rfl⟩
    go_wp2_with fail
    refine (HB _).mono ?_
    rintro e w1 ⟨rfl, rfl⟩
    go_wp2_with fail
    refine (cmpInt_any _ _ _).mono ?_
    rintro e w1 ⟨rfl, rfl⟩
    go_wp2
    go_ret
    exact ⟨ret_int E.out, rfl⟩
end Go.Proofs.YtdajgcgliidjbaaGreat
namespace Go.Proofs.YtdajgcgliidjbaaGreat
open Go.RowKit
theorem subGreat_i (a b : ByteArray) (w : World) : Calls Tryz.prog 184 #[.string a, .string b] w fun e w' => e = .returned (.tuple #[.string (subG a b), .bool (subB a b)]) ∧ Below w.heap.size w w' := by
 have HA := greatOk_i a
 have HB := greatOk_i b
 unfold subG subB okT
 cases ha : okG a with
 | false =>
  rw [ha] at HA
  go_enter Tryz.func184, Tryz.ntmps184
  go_wp2_with fail
  refine (HA _).mono ?_
  rintro e w1 ⟨rfl, rfl⟩
  go_wp2
  go_ret2
  exact ⟨rfl, Below.refl _ _⟩
 | true =>
  cases hb : okG b with
  | false =>
   rw [ha] at HA
   rw [hb] at HB
   go_enter Tryz.func184, Tryz.ntmps184
   go_wp2_with fail
   refine (HA _).mono ?_
   rintro e w1 ⟨rfl, rfl⟩
   go_wp2_with fail
   refine (HB _).mono ?_
   rintro e w1 ⟨rfl, rfl⟩
   go_wp2
   go_ret2
   exact ⟨rfl, Below.refl _ _⟩
  | true =>
   rw [ha] at HA
   rw [hb] at HB
   obtain ⟨Z, hZ⟩ : ∃ Z, rowC Z81 0 = Z := ⟨_, rfl⟩
   have hz := zero_row.1
   rw [hZ] at hz
   have HZ := Lib.hid hZ
   clear hZ
   go_enter Tryz.func184, Tryz.ntmps184
   go_wp2_with fail
   refine (HA _).mono ?_
   rintro e w1 ⟨rfl, rfl⟩
   go_wp2_with fail
   refine (HB _).mono ?_
   rintro e w1 ⟨rfl, rfl⟩
   go_wp2_with fail
   refine (compareGreat_i a b _).mono ?_
   rintro e w0 ⟨rfl, rfl⟩
   have hcmp : cmpG a b = cmpI (gV a) (gV b) := by unfold cmpG okT; rw [ha, hb]; rfl
   rw [hcmp]
   by_cases hlt : gV a < gV b
   ·have h1 : cmpI (gV a) (gV b) = -1 := by unfold cmpI; rw [if_pos hlt]
    rw [h1]
    have Z1 : Hid (decide (gV b ≤ gV a) = false) := by show _ = _; simpa using hlt
    clear hcmp h1
    go_wp2
    all_goals (go_ret2; exact ⟨rfl, Below.refl _ _⟩)
   have hle : gV b ≤ gV a := by omega
   have h1 : ¬ cmpI (gV a) (gV b) < 0 := by unfold cmpI; rw [if_neg hlt]; split <;> decide
   have Z1 : Hid (decide (gV b ≤ gV a) = true) := by show _ = _; simpa using hle
   generalize cmpI (gV a) (gV b) = kk at *
   go_wp2_with fail
   refine (rowOf_any a _ (okG_size' ha)).mono ?_
   rintro e w1 ⟨lx, cx, rfl, hlx, vx, ex, b1⟩
   go_wp2_with fail
   refine (rowOf_any b _ (okG_size' hb)).mono ?_
   rintro e w2 ⟨ly, cy, rfl, hly, vy, ey, b2⟩
   have cx40 := vx.cnt40 ex ha
   have cy40 := vy.cnt40 ey hb
   have HLX := Lib.hid hlx
   have HLY := Lib.hid hly
   have HEX := Lib.hid ex
   have HEY := Lib.hid ey
   have HVX := Lib.hid vx
   have HVY := Lib.hid vy
   have HS := Lib.hid (Work.start w2 HZ.out)
   have b3 := bt b1 b2
   clear hlx hly ex ey vx vy b1 b2
   go_wp2_with (first | refine store_at rfl (.tmp 6) (.tmp 24) rfl w2.heap.size Z81 lx 0 cx rfl rfl HS.out.out HLX.out ?_ | refine store_at rfl (.tmp 7) (.tmp 26) rfl (w2.heap.size + 1) Z81 ly 0 cy rfl rfl (HS.out.row.storedApart (by omega)) HLY.out ?_)
   have HVs := Vars.of (cx := cx) (cy := cy) HS.out HLX.out HLY.out
   generalize (World.setRow (World.setRow _ _ _) _ _) = w3 at *
   have b4 := bt b3 HVs.b
   refine (subRows_any _ _ _ _ _ _ _ HVs.x HVs.y HVX.out HVY.out (by omega) (by omega) (by rw [HEX.out, HEY.out]; exact hle)).mono ?_
   rintro e w4 ⟨l, c, rfl, hl, v, hv, b5⟩
   have HV1 := Lib.hid (one_var w4 HZ.out)
   have HL := Lib.hid hl
   have HVV := Lib.hid v
   have HVL := Lib.hid hv
   have b6 := bt b4 b5
   clear HVs HS hl v hv b4 b5 b3
   go_wp2_with (refine store_at rfl (.tmp 8) (.tmp 27) rfl w4.heap.size Z81 l 0 c rfl rfl HV1.out.1 HL.out ?_)
   have HR := HV1.out.1.stored (c' := c) HL.out
   have HB := bt b6 (below_setRow HV1.out.2 (Nat.le_refl _) (rowC l c))
   generalize World.setRow _ _ _ = w5 at *
   refine (great_any _ _ _ _ HR HVV.out (by have := HVL.out.2; omega)).mono ?_
   rintro e w6 ⟨rfl, b7⟩
   have b8 := bt HB b7
   clear HR HB b6
   go_wp2
   go_ret2
   have hs : boundG (gS (gV a - gV b)) = gS (gV a - gV b) := by rw [boundG_gS, if_pos (Nat.lt_of_le_of_lt (Nat.sub_le _ _) (gV_lt ha))]
   exact ⟨by rw [HVL.out.1, HEX.out, HEY.out, hs]; rfl, b8⟩
end Go.Proofs.YtdajgcgliidjbaaGreat

import Derived.Test.YtdajgcgliidjbaaGreatGreatW
import Derived.Test.YtdajgcgliidjbaaGreatILow
import Derived.RegionTactic
import Derived.BigRegion
set_option maxRecDepth 8000
set_option maxHeartbeats 2000000
namespace Go.Proofs.YtdajgcgliidjbaaGreat
structure InvT (a n r s x y : Nat) (b : Bool) : Prop where
 sum : r * y + s * x = n
 sb : b = true → (n : Int) ∣ (r : Int) + (x : Int) * (a : Int) ∧ (n : Int) ∣ (y : Int) * (a : Int) - (s : Int)
 sa : b = false → (n : Int) ∣ (x : Int) * (a : Int) - (r : Int) ∧ (n : Int) ∣ (s : Int) + (y : Int) * (a : Int)
 gcd : Nat.gcd r s = Nat.gcd n a
 xn : x ≤ n
 lt : s < r
 rn : r ≤ n
theorem InvT.start {a n : Nat} (h : a < n) : InvT a n n a 0 1 true :=
 ⟨by omega, fun _ => ⟨by simp, by simp⟩, fun h => by simp at h, rfl, Nat.zero_le _, h, Nat.le_refl _⟩
theorem InvT.yn {a n r s x y : Nat} {b : Bool} (h : InvT a n r s x y b) : y ≤ n := by
 have h1 := h.sum
 have h2 := h.lt
 have h3 : 1 * y ≤ r * y := Nat.mul_le_mul_right _ (by omega)
 omega
theorem InvT.next {a n r s x y : Nat} {b : Bool} (h : InvT a n r s x y b) (hs : 0 < s) : InvT a n s (r % s) y (x + r / s * y) (!b) := by
 have hd := Nat.div_add_mod r s
 have hm := Nat.mod_lt r hs
 obtain ⟨q, hq⟩ : ∃ q, r / s = q := ⟨_, rfl⟩
 obtain ⟨t, ht⟩ : ∃ t, r % s = t := ⟨_, rfl⟩
 rw [hq, ht] at hd
 rw [ht] at hm
 rw [hq, ht]
 have hdI : (s : Int) * (q : Int) + (t : Int) = (r : Int) := by exact_mod_cast hd
 refine ⟨?_, fun hb => ?_, fun hb => ?_, ?_, h.yn, hm, Nat.le_trans (Nat.le_of_lt h.lt) h.rn⟩
 ·have e := h.sum
  rw [← hd, Nat.add_mul] at e
  rw [Nat.mul_add, ← Nat.mul_assoc]
  omega
 ·have hb : b = false := by simpa using hb
  obtain ⟨h1, h2⟩ := h.sa hb
  refine ⟨h2, ?_⟩
  have h3 := Int.dvd_add h1 (Int.dvd_mul_of_dvd_right (a := (n : Int)) (b := (q : Int)) (c := (s : Int) + (y : Int) * (a : Int)) h2)
  have e : ((x + q * y : Nat) : Int) * (a : Int) - (t : Int) = ((x : Int) * (a : Int) - (r : Int)) + (q : Int) * ((s : Int) + (y : Int) * (a : Int)) := by
   rw [← hdI]
   push_cast
   rw [Int.add_mul, Int.mul_add, Int.mul_assoc, Int.mul_comm (q : Int) (s : Int)]
   omega
  rw [e]; exact h3
 ·have hb : b = true := by simpa using hb
  obtain ⟨h1, h2⟩ := h.sb hb
  refine ⟨h2, ?_⟩
  have h3 := Int.dvd_add h1 (Int.dvd_mul_of_dvd_right (a := (n : Int)) (b := (q : Int)) (c := (y : Int) * (a : Int) - (s : Int)) h2)
  have e : (t : Int) + ((x + q * y : Nat) : Int) * (a : Int) = ((r : Int) + (x : Int) * (a : Int)) + (q : Int) * ((y : Int) * (a : Int) - (s : Int)) := by
   rw [← hdI]
   push_cast
   rw [Int.add_mul, Int.mul_sub, Int.mul_assoc, Int.mul_comm (q : Int) (s : Int)]
   omega
  rw [e]; exact h3
 ·rw [← h.gcd, ← ht, Nat.gcd_comm r s, Nat.gcd_rec s r, Nat.gcd_comm]
theorem InvT.more_le {a n r s x y : Nat} {b : Bool} (h : InvT a n r s x y b) (hs : 0 < s) : x + r / s * y ≤ n := (h.next hs).yn
theorem one_mod {n m : Nat} (h1 : 1 < n) (h : (n : Int) ∣ (m : Int) - 1) : m % n = 1 := by
 have e : (m : Int) % (n : Int) = 1 % (n : Int) := Int.emod_eq_emod_iff_emod_sub_eq_zero.2 (Int.emod_eq_zero_of_dvd h)
 rw [Int.emod_eq_of_lt (by omega) (by omega : (1 : Int) < n)] at e
 exact_mod_cast e
theorem InvT.found {a n x y : Nat} (h : InvT a n 1 0 x y false) (h1 : 1 < n) : x < n ∧ x * a % n = 1 := by
 have e := one_mod h1 (m := x * a) (by simpa using (h.sa rfl).1)
 refine ⟨?_, e⟩
 rcases Nat.lt_or_ge x n with hl | hl
 ·exact hl
 ·have : x = n := Nat.le_antisymm h.xn hl
  rw [this, Nat.mul_mod_right] at e; omega
theorem InvT.foundB {a n x y : Nat} (h : InvT a n 1 0 x y true) (h1 : 1 < n) : n - x < n ∧ (n - x) * a % n = 1 := by
 have hx := h.xn
 have hd := (h.sb rfl).1
 have e := one_mod h1 (m := (n - x) * a) (by
  obtain ⟨k, hk⟩ := hd
  refine ⟨(a : Int) - k, ?_⟩
  rw [Int.natCast_mul, Int.natCast_sub hx, Int.sub_mul, Int.mul_sub, ← hk]
  push_cast
  omega)
 refine ⟨?_, e⟩
 rcases Nat.eq_zero_or_pos x with h0 | h0
 ·rw [h0, Nat.sub_zero, Nat.mul_mod_right] at e; omega
 ·omega
theorem InvT.last {a n r x y : Nat} {b : Bool} (h : InvT a n r 0 x y b) : r = Nat.gcd n a ∧ 0 < r := by
 have := h.gcd
 rw [Nat.gcd_zero_right] at this
 exact ⟨this, h.lt⟩
theorem W.hi_next {l m : List Nat} (hl : W.Limbs l) (hm : W.Limbs m) {k : Nat} (h : W.lV l / 4294967296 ^ (k + 1) = W.lV m / 4294967296 ^ (k + 1)) :
  (l.getD k 0 = m.getD k 0 → W.lV l / 4294967296 ^ k = W.lV m / 4294967296 ^ k) ∧ (l.getD k 0 < m.getD k 0 → W.lV l < W.lV m) := by
 have e1 := W.lV_dig hl k
 have e2 := W.lV_dig hm k
 rw [h] at e1
 refine ⟨fun e => by rw [e1, e2, e], fun e => ?_⟩
 have hlt : W.lV l / 4294967296 ^ k < W.lV m / 4294967296 ^ k := by omega
 rcases Nat.lt_or_ge (W.lV l) (W.lV m) with hh | hh
 ·exact hh
 ·have := Nat.div_le_div_right (c := 4294967296 ^ k) hh; omega
end Go.Proofs.YtdajgcgliidjbaaGreat
namespace Go.Proofs.YtdajgcgliidjbaaGreat
open Go.RowKit
theorem isNaN32_any (x : Nat) (w : World) : Calls Tryz.prog 200 #[.int .u32 (x : Int)] w fun e w' => e = .returned (.bool false) ∧ w = w' := by
 have h : ((x : Int) != (x : Int)) = false := by simp
 go_enter Tryz.func200, Tryz.ntmps200
 go_wp2
 go_ret
 exact ⟨rfl, rfl⟩
theorem cmp32_any (x y : Nat) (w : World) : Calls Tryz.prog 192 #[.int .u32 (x : Int), .int .u32 (y : Int)] w fun e w' => e = .returned (.int .i64 (cmpI x y)) ∧ w = w' := by
 have H := isNaN32_any
 unfold cmpI
 rcases Nat.lt_trichotomy x y with h | h | h
 ·rw [if_pos h]
  have h1 : (x : Int) < (y : Int) := by omega
  go_enter Tryz.func192, Tryz.ntmps192
  go_wp2_with fail
  refine (H _ _).mono ?_
  rintro e w1 ⟨rfl, rfl⟩
  go_wp2_with fail
  refine (H _ _).mono ?_
  rintro e w1 ⟨rfl, rfl⟩
  clear H
  go_wp2
  go_ret
  exact ⟨rfl, rfl⟩
 ·subst h
  rw [if_neg (by omega), if_pos rfl]
  go_enter Tryz.func192, Tryz.ntmps192
  go_wp2_with fail
  refine (H _ _).mono ?_
  rintro e w1 ⟨rfl, rfl⟩
  go_wp2_with fail
  refine (H _ _).mono ?_
  rintro e w1 ⟨rfl, rfl⟩
  clear H
  go_wp2
  go_ret
  exact ⟨rfl, rfl⟩
 ·rw [if_neg (by omega), if_neg (by omega)]
  have h1 : (y : Int) < (x : Int) := by omega
  have h2 : ¬ (x : Int) < (y : Int) := by omega
  go_enter Tryz.func192, Tryz.ntmps192
  go_wp2_with fail
  refine (H _ _).mono ?_
  rintro e w1 ⟨rfl, rfl⟩
  go_wp2_with fail
  refine (H _ _).mono ?_
  rintro e w1 ⟨rfl, rfl⟩
  clear H
  go_wp2
  go_ret
  exact ⟨rfl, rfl⟩
theorem RV.hi0 {l : List Nat} {c m : Nat} (h : RV l c) (hm : c ≤ m) : W.lV l / 4294967296 ^ m = 0 :=
 Nat.div_eq_of_lt (Nat.lt_of_lt_of_le h.lt (Nat.pow_le_pow_right (by omega) hm))
theorem cmp_high {l m : List Nat} (hl : W.Limbs l) (hm : W.Limbs m) {k x y : Nat} (h : W.lV l / 4294967296 ^ (k + 1) = W.lV m / 4294967296 ^ (k + 1)) (hx : l.getD k 0 = x) (hy : m.getD k 0 = y) (hne : x ≠ y) : cmpI x y = cmpI (W.lV l) (W.lV m) := by
 have a := (W.hi_next hl hm h).2
 have b := (W.hi_next hm hl h.symm).2
 rw [hx, hy] at a b
 unfold cmpI
 rcases Nat.lt_or_ge x y with hh | hh
 ·rw [if_pos hh, if_pos (a hh)]
 ·have := b (by omega)
  rw [if_neg (by omega), if_neg hne, if_neg (by omega), if_neg (by omega)]
def CmpPostI (n : Int) (w : World) (e : Ending) (w' : World) : Prop := e = .returned (.int .i64 n) ∧ Below w.heap.size w w'
theorem bdN' {w x : World} {B : Nat} (h : Below B w x) : Below B w x.drew := bdN h 1
theorem compareRows_any (gx gy cx cy : Nat) (lx ly : List Nat) (w : World) (hx : RowI w gx lx cx) (hy : RowI w gy ly cy) (vx : RV lx cx) (vy : RV ly cy) (hcx : cx ≤ 81) (hcy : cy ≤ 81) :
    Calls Tryz.prog 178 #[.pointer (some ⟨gx, 0, none⟩), .pointer (some ⟨gy, 0, none⟩)] w (CmpPostI (cmpI (W.lV lx) (W.lV ly)) w) := by
  have HX := Lib.hid hx
  have HY := Lib.hid hy
  have HVX := Lib.hid vx
  have HVY := Lib.hid vy
  have ltx := hx.lt
  have lty := hy.lt
  obtain ⟨m, hm⟩ : ∃ m, max cx cy = m := ⟨_, rfl⟩
  have hm1 : m ≤ 81 := by omega
  have hmx : cx ≤ m := by omega
  have hmy : cy ≤ m := by omega
  have H0 := Lib.hid ((vx.hi0 hmx).trans (vy.hi0 hmy).symm)
  obtain ⟨x1, x2⟩ := hx.cnt
  obtain ⟨y1, y2⟩ := hy.cnt
  have hw : IntKind.i64.wrap ((m : Int) - 1) = (m : Int) - 1 := IntWalk.i64_in _ (by omega)
  clear hx hy vx vy
  have hcase : (((cx : Int) < (cy : Int)) ∧ m = cy) ∨ ((¬ (cx : Int) < (cy : Int)) ∧ m = cx) := by omega
  clear hm
  rcases hcase with ⟨hle, he⟩ | ⟨hle, he⟩
  all_goals (
   subst he
   go_enter Tryz.func178, Tryz.ntmps178
   go_wp2
   go_region
   have HB : Hid (Below w.heap.size w w.drew) := bdN' (Below.refl _ _)
   clear x1 x2 y1 y2 hle
   generalize w.drew = w0 at *
   go_wp2
   clear hw
   go_loopw [5] (fun iv wr => ∃ (k : Nat), k ≤ m ∧ iv = .int .i64 ((k : Int) - 1) ∧ Hid (W.lV lx / 4294967296 ^ k = W.lV ly / 4294967296 ^ k) ∧ Hid (Below w.heap.size w wr)) (fun iv _ => (intOf iv + 1).toNat)
   case atStart => exact ⟨m, Nat.le_refl _, rfl, H0, HB⟩
   case round =>
     clear HB H0
     obtain ⟨k, hk, rfl, hI, hB⟩ := hrel
     by_cases h0 : 0 < k
     · obtain ⟨j, rfl⟩ : ∃ j, k = j + 1 := ⟨k - 1, by omega⟩
       have hji : (((j + 1 : Nat) : Int) - 1) = (j : Int) := by omega
       rw [hji]
       have hj0 : (0 : Int) ≤ (j : Int) := by omega
       have hj81 : (j : Int) < 81 := by omega
       obtain ⟨x1, _⟩ := (HX.out.below hB.out ltx).cell (k := j) (by omega)
       obtain ⟨y1, _⟩ := (HY.out.below hB.out lty).cell (k := j) (by omega)
       obtain ⟨x, hx⟩ : ∃ x, lx.getD j 0 = x := ⟨_, rfl⟩
       obtain ⟨y, hy⟩ : ∃ y, ly.getD j 0 = y := ⟨_, rfl⟩
       have HE := Lib.hid (cmp_high HVX.out.lim HVY.out.lim hI.out hx hy)
       have HN : Hid (x = y → W.lV lx / 4294967296 ^ j = W.lV ly / 4294967296 ^ j) := fun e => (W.hi_next HVX.out.lim HVY.out.lim hI.out).1 (by rw [hx, hy, e])
       rw [hx] at x1
       rw [hy] at y1
       clear hx hy hI hji
       by_cases hxy : x = y
       · have hne : ((x : Int) != (y : Int)) = false := by simp; omega
         have HN2 := Lib.hid (HN.out hxy)
         clear HN HE hxy
         go_wp2_with fail
         go_quiet (fail)
         have HB2 := Lib.hid (bdN hB.out nq)
         clear hB x1 y1
         generalize wr.drewN nq = w1 at *
         go_wp2
         go_roundw
         case rel => exact ⟨j, by omega, by go_num, HN2, HB2⟩
         case measure => simp [intOf]
       · have hne : ((x : Int) != (y : Int)) = true := by simp; omega
         have HE2 := Lib.hid (HE.out hxy)
         have HC := Lib.hid (cmp32_any x y)
         clear HN HE hxy
         go_wp2_with fail
         go_quiet (fail)
         have HB2 := Lib.hid (bdN hB.out nq)
         change (wr.drewN nq).cell? _ = _ at x1
         change (wr.drewN nq).cell? _ = _ at y1
         clear hB
         generalize wr.drewN nq = w1 at *
         go_wp2_with fail
         go_quiet ((go_at_call 192; exact Calls.quiet_of_same (still_of (HC.out _))))
         have HB3 := Lib.hid (bdN HB2.out nq)
         clear HB2 x1 y1 HC
         generalize w1.drewN nq = w2 at *
         go_wp2
         go_ret
         exact ⟨ret_int HE2.out, HB3.out⟩
     · obtain rfl : k = 0 := by omega
       have hneg : ¬ (0 : Int) ≤ ((0 : Nat) : Int) - 1 := by omega
       have HE : Hid (0 = cmpI (W.lV lx) (W.lV ly)) := by
         have := hI.out
         rw [Nat.pow_zero, Nat.div_one, Nat.div_one] at this
         show 0 = _
         unfold cmpI
         rw [this, if_neg (Nat.lt_irrefl _), if_pos rfl]
       clear hI
       go_wp2
       go_ret
       exact ⟨ret_int HE.out, hB.out⟩)
end Go.Proofs.YtdajgcgliidjbaaGreat

import Derived.Test.YtdajgcgliidjbaaGreatW
import Derived.Test.YtdajgcgliidjbaaILow
import Derived.RegionTactic
import Derived.BigRegion
/-
  Plain facts for impl's chapter 4: the inverse of a rest by division in turn, where only how great the multiples are is kept; which of two rows is greater.
-/
namespace Go.Proofs.Ytdajgcgliidjbaa
theorem W.hi_next {l m : List Nat} (hl : W.Limbs l) (hm : W.Limbs m) {k : Nat} (h : W.lV l / 4294967296 ^ (k + 1) = W.lV m / 4294967296 ^ (k + 1)) :
    (l.getD k 0 = m.getD k 0 → W.lV l / 4294967296 ^ k = W.lV m / 4294967296 ^ k) ∧ (l.getD k 0 < m.getD k 0 → W.lV l < W.lV m) := by
  have e1 := W.lV_dig hl k
  have e2 := W.lV_dig hm k
  rw [h] at e1
  refine ⟨fun e => by rw [e1, e2, e], fun e => ?_⟩
  have hlt : W.lV l / 4294967296 ^ k < W.lV m / 4294967296 ^ k := by omega
  rcases Nat.lt_or_ge (W.lV l) (W.lV m) with hh | hh
  · exact hh
  · have := Nat.div_le_div_right (c := 4294967296 ^ k) hh; omega
end Go.Proofs.Ytdajgcgliidjbaa
/-
  The contracts of cmp.Compare at uint32 and of impl's compareRows.
-/
namespace Go.Proofs.Ytdajgcgliidjbaa
open Go.RowKit
theorem isNaN32_any (x : Nat) (w : World) : Calls Try.prog 97 #[.int .u32 (x : Int)] w fun e w' => e = .returned (.bool false) ∧ w = w' := by
  have h : ((x : Int) != (x : Int)) = false := by simp
  go_enter Try.func97, Try.ntmps97
  go_wp2
  go_ret
  exact ⟨rfl, rfl⟩
set_option maxRecDepth 8000 in
set_option maxHeartbeats 1000000 in
theorem cmp32_any (x y : Nat) (w : World) : Calls Try.prog 89 #[.int .u32 (x : Int), .int .u32 (y : Int)] w fun e w' => e = .returned (.int .i64 (cmpI x y)) ∧ w = w' := by
  have H := isNaN32_any
  unfold cmpI
  rcases Nat.lt_trichotomy x y with h | h | h
  · rw [if_pos h]
    have h1 : (x : Int) < (y : Int) := by omega
    go_enter Try.func89, Try.ntmps89
    go_wp2_with fail
    refine (H _ _).mono ?_
    rintro e w1 ⟨rfl, rfl⟩
    go_wp2_with fail
    refine (H _ _).mono ?_
    rintro e w1 ⟨rfl, rfl⟩
    clear H
    go_wp2
    go_ret
    exact ⟨rfl, rfl⟩
  · subst h
    rw [if_neg (by omega), if_pos rfl]
    go_enter Try.func89, Try.ntmps89
    go_wp2_with fail
    refine (H _ _).mono ?_
    rintro e w1 ⟨rfl, rfl⟩
    go_wp2_with fail
    refine (H _ _).mono ?_
    rintro e w1 ⟨rfl, rfl⟩
    clear H
    go_wp2
    go_ret
    exact ⟨rfl, rfl⟩
  · rw [if_neg (by omega), if_neg (by omega)]
    have h1 : (y : Int) < (x : Int) := by omega
    have h2 : ¬ (x : Int) < (y : Int) := by omega
    go_enter Try.func89, Try.ntmps89
    go_wp2_with fail
    refine (H _ _).mono ?_
    rintro e w1 ⟨rfl, rfl⟩
    go_wp2_with fail
    refine (H _ _).mono ?_
    rintro e w1 ⟨rfl, rfl⟩
    clear H
    go_wp2
    go_ret
    exact ⟨rfl, rfl⟩
theorem RV.hi0 {l : List Nat} {c m : Nat} (h : RV l c) (hm : c ≤ m) : W.lV l / 4294967296 ^ m = 0 :=
  Nat.div_eq_of_lt (Nat.lt_of_lt_of_le h.lt (Nat.pow_le_pow_right (by omega) hm))
theorem cmp_high {l m : List Nat} (hl : W.Limbs l) (hm : W.Limbs m) {k x y : Nat} (h : W.lV l / 4294967296 ^ (k + 1) = W.lV m / 4294967296 ^ (k + 1)) (hx : l.getD k 0 = x) (hy : m.getD k 0 = y) (hne : x ≠ y) : cmpI x y = cmpI (W.lV l) (W.lV m) := by
  have a := (W.hi_next hl hm h).2
  have b := (W.hi_next hm hl h.symm).2
  rw [hx, hy] at a b
  unfold cmpI
  rcases Nat.lt_or_ge x y with hh | hh
  · rw [if_pos hh, if_pos (a hh)]
  · have := b (by omega)
    rw [if_neg (by omega), if_neg hne, if_neg (by omega), if_neg (by omega)]
def CmpPostI (n : Int) (w : World) (e : Ending) (w' : World) : Prop := e = .returned (.int .i64 n) ∧ Below w.heap.size w w'
theorem bdN' {w x : World} {B : Nat} (h : Below B w x) : Below B w x.drew := bdN h 1
set_option maxRecDepth 8000 in
set_option maxHeartbeats 2000000 in
theorem compareRows_any (gx gy cx cy : Nat) (lx ly : List Nat) (w : World) (hx : RowI w gx lx cx) (hy : RowI w gy ly cy) (vx : RV lx cx) (vy : RV ly cy) (hcx : cx ≤ 81) (hcy : cy ≤ 81) :
    Calls Try.prog 82 #[.pointer (some ⟨gx, 0, none⟩), .pointer (some ⟨gy, 0, none⟩)] w (CmpPostI (cmpI (W.lV lx) (W.lV ly)) w) := by
  have HX := Lib.hid hx
  have HY := Lib.hid hy
  have HVX := Lib.hid vx
  have HVY := Lib.hid vy
  have ltx := hx.lt
  have lty := hy.lt
  obtain ⟨m, hm⟩ : ∃ m, max cx cy = m := ⟨_, rfl⟩
  have hm1 : m ≤ 81 := by omega
  have hmx : cx ≤ m := by omega
  have hmy : cy ≤ m := by omega
  have H0 := Lib.hid ((vx.hi0 hmx).trans (vy.hi0 hmy).symm)
  obtain ⟨x1, x2⟩ := hx.cnt
  obtain ⟨y1, y2⟩ := hy.cnt
  have hw : IntKind.i64.wrap ((m : Int) - 1) = (m : Int) - 1 := IntWalk.i64_in _ (by omega)
  clear hx hy vx vy
  have hcase : (((cx : Int) < (cy : Int)) ∧ m = cy) ∨ ((¬ (cx : Int) < (cy : Int)) ∧ m = cx) := by omega
  clear hm
  rcases hcase with ⟨hle, he⟩ | ⟨hle, he⟩
  all_goals (
   subst he
   go_enter Try.func82, Try.ntmps82
   go_wp2
   go_region
   have HB : Hid (Below w.heap.size w w.drew) := bdN' (Below.refl _ _)
   clear x1 x2 y1 y2 hle
   generalize w.drew = w0 at *
   go_wp2
   clear hw
   go_loopw [5] (fun iv wr => ∃ (k : Nat), k ≤ m ∧ iv = .int .i64 ((k : Int) - 1) ∧ Hid (W.lV lx / 4294967296 ^ k = W.lV ly / 4294967296 ^ k) ∧ Hid (Below w.heap.size w wr)) (fun iv _ => (intOf iv + 1).toNat)
   case atStart => exact ⟨m, Nat.le_refl _, rfl, H0, HB⟩
   case round =>
     clear HB H0
     obtain ⟨k, hk, rfl, hI, hB⟩ := hrel
     by_cases h0 : 0 < k
     · obtain ⟨j, rfl⟩ : ∃ j, k = j + 1 := ⟨k - 1, by omega⟩
       have hji : (((j + 1 : Nat) : Int) - 1) = (j : Int) := by omega
       rw [hji]
       have hj0 : (0 : Int) ≤ (j : Int) := by omega
       have hj81 : (j : Int) < 81 := by omega
       obtain ⟨x1, _⟩ := (HX.out.below hB.out ltx).cell (k := j) (by omega)
       obtain ⟨y1, _⟩ := (HY.out.below hB.out lty).cell (k := j) (by omega)
       obtain ⟨x, hx⟩ : ∃ x, lx.getD j 0 = x := ⟨_, rfl⟩
       obtain ⟨y, hy⟩ : ∃ y, ly.getD j 0 = y := ⟨_, rfl⟩
       have HE := Lib.hid (cmp_high HVX.out.lim HVY.out.lim hI.out hx hy)
       have HN : Hid (x = y → W.lV lx / 4294967296 ^ j = W.lV ly / 4294967296 ^ j) := fun e => (W.hi_next HVX.out.lim HVY.out.lim hI.out).1 (by rw [hx, hy, e])
       rw [hx] at x1
       rw [hy] at y1
       clear hx hy hI hji
       by_cases hxy : x = y
       · have hne : ((x : Int) != (y : Int)) = false := by simp; omega
         have HN2 := Lib.hid (HN.out hxy)
         clear HN HE hxy
         go_wp2_with fail
         go_quiet (fail)
         have HB2 := Lib.hid (bdN hB.out nq)
         clear hB x1 y1
         generalize wr.drewN nq = w1 at *
         go_wp2
         go_roundw
         case rel => exact ⟨j, by omega, by go_num, HN2, HB2⟩
         case measure => simp [intOf]
       · have hne : ((x : Int) != (y : Int)) = true := by simp; omega
         have HE2 := Lib.hid (HE.out hxy)
         have HC := Lib.hid (cmp32_any x y)
         clear HN HE hxy
         go_wp2_with fail
         go_quiet (fail)
         have HB2 := Lib.hid (bdN hB.out nq)
         change (wr.drewN nq).cell? _ = _ at x1
         change (wr.drewN nq).cell? _ = _ at y1
         clear hB
         generalize wr.drewN nq = w1 at *
         go_wp2_with fail
         go_quiet ((go_at_call 89; exact Calls.quiet_of_same (still_of (HC.out _))))
         have HB3 := Lib.hid (bdN HB2.out nq)
         clear HB2 x1 y1 HC
         generalize w1.drewN nq = w2 at *
         go_wp2
         go_ret
         exact ⟨ret_int HE2.out, HB3.out⟩
     · obtain rfl : k = 0 := by omega
       have hneg : ¬ (0 : Int) ≤ ((0 : Nat) : Int) - 1 := by omega
       have HE : Hid (0 = cmpI (W.lV lx) (W.lV ly)) := by
         have := hI.out
         rw [Nat.pow_zero, Nat.div_one, Nat.div_one] at this
         show 0 = _
         unfold cmpI
         rw [this, if_neg (Nat.lt_irrefl _), if_pos rfl]
       clear hI
       go_wp2
       go_ret
       exact ⟨ret_int HE.out, hB.out⟩)
end Go.Proofs.Ytdajgcgliidjbaa

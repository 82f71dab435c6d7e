/-
  The contract of impl's subRows.
-/
import Derived.Test.YtpgckdhnmhjkhaaIAdd
namespace Go.Proofs.Ytpgckdhnmhjkhaa
open Go.RowKit
attribute [local go_sem ↓] Go.wp_at_zero Go.wp_at_succ

structure SubW (lx ly : List Nat) (i br : Nat) (l : List Nat) : Prop where
  lim : W.Limbs l
  len : l.length = 81
  val : W.lV l + W.lV (ly.take i) = W.lV (lx.take i) + 4294967296 ^ i * br
  zero : ∀ k, i ≤ k → l.getD k 0 = 0
  b1 : br ≤ 1
theorem SubW.start (lx ly : List Nat) : SubW lx ly 0 0 Z81 := ⟨Z81_lim, Z81_len, by rw [Z81_val]; simp [W.lV], fun k _ => Z81_getD k, by omega⟩
theorem brw_le (x y c : Nat) : brw x y c ≤ 1 := by unfold brw; split <;> omega
theorem brw_sub {x y c : Nat} (hx : x < 4294967296) (hy : y < 4294967296) (hc : c ≤ 1) : ∃ d, d < 4294967296 ∧ x + 4294967296 * brw x y c = y + c + d := by
  unfold brw
  split
  · exact ⟨x + 4294967296 - y - c, by omega, by omega⟩
  · exact ⟨x - y - c, by omega, by omega⟩
theorem SubW.next {lx ly l : List Nat} {i br d q : Nat} (h : SubW lx ly i br l) (hi : i < 81) (hq : q ≤ 1) (hd : d < 4294967296) (hn : lx.getD i 0 + 4294967296 * q = ly.getD i 0 + br + d) : SubW lx ly (i + 1) q (l.set i d) := by
  have hs := W.lV_set l i d (by rw [h.len]; exact hi)
  refine ⟨h.lim.set _ hd, by rw [List.length_set]; exact h.len, ?_, fun k hk => by rw [W.getD_set_ne _ (by omega)]; exact h.zero k (by omega), hq⟩
  rw [h.zero i (Nat.le_refl _), Nat.mul_zero, Nat.add_zero] at hs
  have hv := h.val
  rw [W.lV_take_succ, W.lV_take_succ, hs, Nat.pow_succ, Nat.mul_assoc]
  have e : 4294967296 ^ i * lx.getD i 0 + 4294967296 ^ i * (4294967296 * q) = 4294967296 ^ i * ly.getD i 0 + 4294967296 ^ i * br + 4294967296 ^ i * d := by
    rw [← Nat.mul_add, ← Nat.mul_add, ← Nat.mul_add]; congr 1
  omega
theorem SubW.done {lx ly l : List Nat} {m br : Nat} (h : SubW lx ly m br l) (zx : ∀ k, m ≤ k → lx.getD k 0 = 0) (Lx : W.Limbs lx) (Ly : W.Limbs ly) (hle : W.lV ly ≤ W.lV lx) : W.lV l = W.lV lx - W.lV ly := by
  have lx1 := W.low_of_zero Lx zx
  have zy : ∀ k, m ≤ k → ly.getD k 0 = 0 := fun k hk => W.high_zero Ly (Nat.lt_of_le_of_lt hle lx1) hk
  have hv := h.val
  rw [W.lV_take_all zx, W.lV_take_all zy] at hv
  have ll := W.low_of_zero h.lim h.zero
  have hb := h.b1
  have : br = 0 := by
    rcases Nat.eq_zero_or_pos br with h | h
    · exact h
    · have : br = 1 := by omega
      rw [this, Nat.mul_one] at hv; omega
  rw [this, Nat.mul_zero] at hv
  omega

set_option maxRecDepth 8000 in
set_option maxHeartbeats 2000000 in
theorem subRows_any (gx gy cx cy : Nat) (lx ly : List Nat) (w : World) (hx : RowI w gx lx cx) (hy : RowI w gy ly cy) (vx : RV lx cx) (vy : RV ly cy) (hcx : cx ≤ 79) (_hcy : cy ≤ 79) (hle : W.lV ly ≤ W.lV lx) :
    Calls Try.prog 46 #[.pointer (some ⟨gx, 0, none⟩), .pointer (some ⟨gy, 0, none⟩)] w (AggPost (fun l c => W.lV l = W.lV lx - W.lV ly ∧ c ≤ 80) w) := by
  obtain ⟨Z, hZ⟩ : ∃ Z, rowC Z81 0 = Z := ⟨_, rfl⟩
  have hz := zero_row.1
  rw [hZ] at hz
  have HZ := Lib.hid hZ
  have HX := Lib.hid hx
  have HY := Lib.hid hy
  have HVX := Lib.hid vx
  have HVY := Lib.hid vy
  have HLE := Lib.hid hle
  have ltx := hx.lt
  have lty := hy.lt
  have HW := Work.start w HZ.out
  obtain ⟨x1, x2⟩ := (HX.out.below HW.b ltx).cnt
  have HW1 := Lib.hid HW
  clear hZ hx hy vx vy hle HW
  go_enter Try.func46, Try.ntmps46
  go_wp2
  clear x1 x2 hz
  go_loopw [6, 12] (fun cv iv wr => ∃ (i c : Nat) (l : List Nat), i ≤ cx ∧ c ≤ 1 ∧ iv = .int .i64 i ∧ cv = .int .u32 c ∧ Hid (SubW lx ly i c l) ∧ Hid (Work w wr l 0)) (fun _ iv _ => cx - (intOf iv).toNat)
  case atStart => exact ⟨0, 0, Z81, Nat.zero_le _, by omega, rfl, rfl, SubW.start lx ly, HW1⟩
  case round =>
    clear HW1
    obtain ⟨i, c, l, him, hc, rfl, rfl, hI, hW⟩ := hrel
    by_cases hlt : i < cx
    · have hlt' : (i : Int) < (cx : Int) := by omega
      obtain ⟨x1, _⟩ := (HX.out.below hW.out.b ltx).cell (k := i) (by omega)
      obtain ⟨y1, _⟩ := (HY.out.below hW.out.b lty).cell (k := i) (by omega)
      obtain ⟨r1, f1⟩ := hW.out.row.cell (k := i) (by omega)
      have bx := W.getD_lt HVX.out.lim i
      have by_ := W.getD_lt HVY.out.lim i
      obtain ⟨x, hx⟩ : ∃ x, lx.getD i 0 = x := ⟨_, rfl⟩
      obtain ⟨y, hy⟩ : ∃ y, ly.getD i 0 = y := ⟨_, rfl⟩
      rw [hx] at x1 bx
      rw [hy] at y1 by_
      obtain ⟨p, hp, hn⟩ := brw_sub bx by_ hc
      obtain ⟨q, hq⟩ : ∃ q, brw x y c = q := ⟨_, rfl⟩
      have hq1 : q ≤ 1 := by rw [← hq]; exact brw_le x y c
      rw [hq] at hn
      have HN := Lib.hid (hI.out.next (by omega) hq1 hp (by rw [hx, hy]; exact hn))
      generalize l.getD i 0 = z at *
      have HA := Lib.hid (fun w => sub32_any x y c p q bx by_ hc hq hn w)
      have d1 : (0 : Int) ≤ (i : Int) := by omega
      have d2 : (i : Int) < 81 := by omega
      have HW3 := Lib.hid ((hW.out.drewN 1).set (k := i) p (by omega))
      have K1 := ((HX.out.below HW3.out.b ltx).cell (k := i) (by omega)).1
      have K2 := ((HY.out.below HW3.out.b lty).cell (k := i) (by omega)).1
      rw [hx] at K1
      rw [hy] at K2
      have K3 : Hid ((wr.setCell ⟨w.heap.size + 1, i, none⟩ (.int .u32 (p : Int))).drew.cell? ⟨gx, i, none⟩ = some (.int .u32 (x : Int)) ∧ (wr.setCell ⟨w.heap.size + 1, i, none⟩ (.int .u32 (p : Int))).drew.cell? ⟨gy, i, none⟩ = some (.int .u32 (y : Int))) := ⟨K1, K2⟩
      clear hx hy hn hp hq hI hW K1 K2
      go_wp2
      go_region_held3 (fun w' => w'.cell? ⟨gx, i, none⟩ = some (.int .u32 (x : Int)) ∧ w'.cell? ⟨gy, i, none⟩ = some (.int .u32 (y : Int))) (first | exact K3.out | go_keep) (first | (go_at_call 67; refine (HA.out _).mono ?_; rintro e w' ⟨rfl, rfl⟩))
      go_wp2
      go_roundw
      case rel => exact ⟨i + 1, q, l.set i p, by omega, hq1, by go_num, rfl, HN, HW3⟩
      case measure => simp [intOf]; omega
    · obtain rfl : i = cx := by omega
      have hlt' : ¬ (i : Int) < (i : Int) := by omega
      have HD1 := Lib.hid (hI.out.done HVX.out.zero HVX.out.lim HVY.out.lim HLE.out)
      have HD3 := Lib.hid hI.out.len
      have HW2 := hW
      have HC := Lib.hid (countBelow_any (w.heap.size + 1) 0 i l _ HW2.out.row (by omega))
      have HR := Lib.hid (fun k (h : CountRel l i k) => And.intro (h.right hI.out.lim hI.out.zero) h.le)
      obtain ⟨x1, x2⟩ := (HX.out.below hW.out.b ltx).cnt
      clear hI hW
      go_wp2_with fail
      refine HC.out.mono ?_
      rintro e w1 ⟨cc, hcc, rfl, rfl⟩
      have HW4 := Lib.hid (HW2.out.setC cc)
      have HV := Lib.hid (HR.out cc hcc)
      clear HC HW2 HR hcc x1 x2
      generalize (wr).setCell ⟨w.heap.size + 1, 81, none⟩ (.int .i64 (cc : Int)) = w2 at *
      have HB := Lib.hid (below_setRow HW4.out.b (Nat.le_refl _) (rowC l cc))
      have HO := Lib.hid (HW4.out.out.stored (c' := cc) HD3.out)
      go_wp2_with (first | refine load_at rfl (.tmp 5) rfl (w.heap.size + 1) l cc rfl HW4.out.row ?_ | refine store_at rfl (.tmp 4) (.tmp 41) rfl w.heap.size Z81 l 0 cc rfl rfl HW4.out.out HD3.out ?_)
      exact bodyPost_ret (HO.out.result Try.results46 _ rfl) rfl ⟨l, cc, rfl, HD3.out, HV.out.1, ⟨HD1.out, by have := HV.out.2; omega⟩, HB.out⟩
end Go.Proofs.Ytpgckdhnmhjkhaa

/-
  The contracts of impl's addRows and AddGreat.
-/
import Derived.Test.YtpgckdhnmhjkhaaIBits
import Derived.Test.YtpgckdhnmhjkhaaIGreat
import Derived.Test.YtpgckdhnmhjkhaaISmall
import Derived.RegionTactic
import Derived.BigRegion
import Derived.Deep.RegionHeld3
import Derived.Deep.DrawnRows
namespace Go.Proofs.Ytpgckdhnmhjkhaa
open Go.RowKit
attribute [local go_sem ↓] Go.wp_at_zero Go.wp_at_succ

theorem W.lV_take_all {l : List Nat} {m : Nat} (hz : ∀ k, m ≤ k → l.getD k 0 = 0) : W.lV (l.take m) = W.lV l := by
  rw [W.lV_split l m, W.lV_zeros (l := l.drop m) (fun x hx => by
    obtain ⟨i, hi, rfl⟩ := List.getElem_of_mem hx
    rw [List.length_drop] at hi
    have := hz (m + i) (by omega)
    rw [W.getD_eq (by omega)] at this
    rw [List.getElem_drop]; exact this)]
  omega
structure AddW (lx ly : List Nat) (i c : Nat) (l : List Nat) : Prop where
  lim : W.Limbs l
  len : l.length = 81
  val : W.lV l + 4294967296 ^ i * c = W.lV (lx.take i) + W.lV (ly.take i)
  zero : ∀ k, i ≤ k → l.getD k 0 = 0
  c1 : c ≤ 1
theorem AddW.start (lx ly : List Nat) : AddW lx ly 0 0 Z81 := ⟨Z81_lim, Z81_len, by rw [Z81_val]; simp [W.lV], fun k _ => Z81_getD k, by omega⟩
theorem AddW.next {lx ly l : List Nat} {i c n p q : Nat} (h : AddW lx ly i c l) (hi : i < 81) (Lx : W.Limbs lx) (Ly : W.Limbs ly) (hn : lx.getD i 0 + ly.getD i 0 + c = n) (hp : n % 4294967296 = p) (hq : n / 4294967296 = q) : AddW lx ly (i + 1) q (l.set i p) := by
  have hs := W.lV_set l i p (by rw [h.len]; exact hi)
  have bx := W.getD_lt Lx i
  have by_ := W.getD_lt Ly i
  have hc := h.c1
  refine ⟨h.lim.set _ (by omega), by rw [List.length_set]; exact h.len, ?_, fun k hk => by rw [W.getD_set_ne _ (by omega)]; exact h.zero k (by omega), by omega⟩
  rw [h.zero i (Nat.le_refl _), Nat.mul_zero, Nat.add_zero] at hs
  have hv := h.val
  rw [W.lV_take_succ, W.lV_take_succ, hs, Nat.pow_succ, Nat.mul_assoc]
  have e : 4294967296 ^ i * p + 4294967296 ^ i * (4294967296 * q) = 4294967296 ^ i * lx.getD i 0 + 4294967296 ^ i * ly.getD i 0 + 4294967296 ^ i * c := by
    rw [← Nat.mul_add, ← Nat.mul_add, ← Nat.mul_add]; congr 1; omega
  omega
theorem AddW.done {lx ly l : List Nat} {m c : Nat} (h : AddW lx ly m c l) (hm : m < 81) (zx : ∀ k, m ≤ k → lx.getD k 0 = 0) (zy : ∀ k, m ≤ k → ly.getD k 0 = 0) :
    W.lV (l.set m c) = W.lV lx + W.lV ly ∧ W.Limbs (l.set m c) ∧ (l.set m c).length = 81 ∧ ∀ k, m + 1 ≤ k → (l.set m c).getD k 0 = 0 := by
  have hs := W.lV_set l m c (by rw [h.len]; exact hm)
  rw [h.zero m (Nat.le_refl _), Nat.mul_zero, Nat.add_zero] at hs
  have hc := h.c1
  refine ⟨?_, h.lim.set _ (by omega), by rw [List.length_set]; exact h.len, fun k hk => by rw [W.getD_set_ne _ (by omega)]; exact h.zero k (by omega)⟩
  rw [hs, h.val, W.lV_take_all zx, W.lV_take_all zy]

set_option maxRecDepth 8000 in
set_option maxHeartbeats 2000000 in
theorem addRows_any (gx gy cx cy : Nat) (lx ly : List Nat) (w : World) (hx : RowI w gx lx cx) (hy : RowI w gy ly cy) (vx : RV lx cx) (vy : RV ly cy) (hcx : cx ≤ 79) (hcy : cy ≤ 79) :
    Calls Try.prog 41 #[.pointer (some ⟨gx, 0, none⟩), .pointer (some ⟨gy, 0, none⟩)] w (AggPost (fun l c => W.lV l = W.lV lx + W.lV ly ∧ c ≤ 80) w) := by
  obtain ⟨Z, hZ⟩ : ∃ Z, rowC Z81 0 = Z := ⟨_, rfl⟩
  have hz := zero_row.1
  rw [hZ] at hz
  have HZ := Lib.hid hZ
  have HX := Lib.hid hx
  have HY := Lib.hid hy
  have HVX := Lib.hid vx
  have HVY := Lib.hid vy
  have ltx := hx.lt
  have lty := hy.lt
  obtain ⟨m, hm⟩ : ∃ m, max cx cy = m := ⟨_, rfl⟩
  have hm1 : m ≤ 79 := by omega
  have hmx : cx ≤ m := by omega
  have hmy : cy ≤ m := by omega
  clear hZ hx hy vx vy
  have hcase : (((cx : Int) < (cy : Int)) ∧ m = cy) ∨ ((¬ (cx : Int) < (cy : Int)) ∧ m = cx) := by omega
  clear hm
  rcases hcase with ⟨hle, he⟩ | ⟨hle, he⟩
  all_goals (
   subst he
   go_enter Try.func41, Try.ntmps41
   go_wp2
   have HW := Work.start w HZ.out
   have hb := HW.b
   obtain ⟨x1, x2⟩ := (HX.out.below hb ltx).cnt
   obtain ⟨y1, y2⟩ := (HY.out.below hb lty).cnt
   have HW0 := Lib.hid HW
   clear HW hb hz HZ
   generalize (w.alloc (.cells Z 46)).alloc (.cells Z 46) = w0 at *
   go_region
   have HW1 : Hid (Work w w0.drew Z81 0) := HW0.out.drewN 1
   clear x1 x2 y1 y2 HW0 hle
   generalize w0.drew = w0 at *
   go_wp2
   go_loopw [6, 19] (fun cv iv wr => ∃ (i c : Nat) (l : List Nat), i ≤ m ∧ c ≤ 1 ∧ iv = .int .i64 i ∧ cv = .int .u32 c ∧ Hid (AddW lx ly i c l) ∧ Hid (Work w wr l 0)) (fun _ iv _ => m - (intOf iv).toNat)
   case atStart => exact ⟨0, 0, Z81, Nat.zero_le _, by omega, rfl, rfl, AddW.start lx ly, HW1⟩
   case round =>
     clear HW1
     obtain ⟨i, c, l, him, hc, rfl, rfl, hI, hW⟩ := hrel
     by_cases hlt : i < m
     · have hlt' : (i : Int) < (m : Int) := by omega
       obtain ⟨x1, _⟩ := (HX.out.below hW.out.b ltx).cell (k := i) (by omega)
       obtain ⟨y1, _⟩ := (HY.out.below hW.out.b lty).cell (k := i) (by omega)
       obtain ⟨r1, f1⟩ := hW.out.row.cell (k := i) (by omega)
       have bx := W.getD_lt HVX.out.lim i
       have by_ := W.getD_lt HVY.out.lim i
       obtain ⟨x, hx⟩ : ∃ x, lx.getD i 0 = x := ⟨_, rfl⟩
       obtain ⟨y, hy⟩ : ∃ y, ly.getD i 0 = y := ⟨_, rfl⟩
       obtain ⟨n, hn⟩ : ∃ n, x + y + c = n := ⟨_, rfl⟩
       obtain ⟨p, hp⟩ : ∃ p, n % 4294967296 = p := ⟨_, rfl⟩
       obtain ⟨q, hq⟩ : ∃ q, n / 4294967296 = q := ⟨_, rfl⟩
       have HN := Lib.hid (hI.out.next (by omega) HVX.out.lim HVY.out.lim (by rw [hx, hy]; exact hn) hp hq)
       rw [hx] at x1 bx
       rw [hy] at y1 by_
       generalize l.getD i 0 = z at *
       have HA := Lib.hid (fun w => add32_any x y c n p q bx by_ hc hn hp hq w)
       have hq1 : q ≤ 1 := by omega
       have d1 : (0 : Int) ≤ (i : Int) := by omega
       have d2 : (i : Int) < 81 := by omega
       have HW2 := Lib.hid (hW.out.drewN 1)
       have HW3 := Lib.hid (HW2.out.set (k := i) p (by omega))
       have K1 := ((HX.out.below HW3.out.b ltx).cell (k := i) (by omega)).1
       have K2 := ((HY.out.below HW3.out.b lty).cell (k := i) (by omega)).1
       rw [hx] at K1
       rw [hy] at K2
       have K3 : Hid ((wr.setCell ⟨w.heap.size + 1, i, none⟩ (.int .u32 (p : Int))).drew.cell? ⟨gx, i, none⟩ = some (.int .u32 (x : Int)) ∧ (wr.setCell ⟨w.heap.size + 1, i, none⟩ (.int .u32 (p : Int))).drew.cell? ⟨gy, i, none⟩ = some (.int .u32 (y : Int))) := ⟨K1, K2⟩
       clear hx hy hn hp hq hI hW K1 K2
       go_wp2
       have n1 : ¬ gx = w.heap.size + 1 := by omega
       have n2 : ¬ gy = w.heap.size + 1 := by omega
       go_region_held3 (fun w' => w'.cell? ⟨gx, i, none⟩ = some (.int .u32 (x : Int)) ∧ w'.cell? ⟨gy, i, none⟩ = some (.int .u32 (y : Int))) (first | exact K3.out | go_keep) (first | (go_at_call 63; refine (HA.out _).mono ?_; rintro e w' ⟨rfl, rfl⟩))
       go_wp2
       go_roundw
       case rel => exact ⟨i + 1, q, l.set i p, by omega, hq1, by go_num, rfl, HN, HW3⟩
       case measure => simp [intOf]; omega
     · obtain rfl : i = m := by omega
       have hlt' : ¬ (i : Int) < (i : Int) := by omega
       obtain ⟨r1, f1⟩ := hW.out.row.cell (k := i) (by omega)
       generalize l.getD i 0 = z at *
       obtain ⟨D1, D2, D3, D4⟩ := hI.out.done (by omega) (fun k hk => HVX.out.zero k (by omega)) (fun k hk => HVY.out.zero k (by omega))
       have HW2 := Lib.hid (hW.out.set (k := i) c (by omega))
       obtain ⟨E, hE⟩ : ∃ E, i + 1 = E := ⟨_, rfl⟩
       rw [hE] at D4
       have HC := Lib.hid (countBelow_any (w.heap.size + 1) 0 E (l.set i c) _ HW2.out.row (by omega))
       have HR := Lib.hid (fun k (h : CountRel (l.set i c) E k) => And.intro (h.right D2 D4) h.le)
       have HD1 := Lib.hid D1
       have HD3 := Lib.hid D3
       have e1 : (i : Int) + 1 = (E : Int) := by omega
       have d1 : (i : Int) < 81 := by omega
       have hE2 : E ≤ 80 := by omega
       clear D1 D2 D3 D4 hI hW hE
       generalize l.set i c = l2 at *
       go_wp2_with fail
       refine HC.out.mono ?_
       rintro e w1 ⟨cc, hcc, rfl, rfl⟩
       have HW4 := Lib.hid (HW2.out.setC cc)
       have HV := Lib.hid (HR.out cc hcc)
       clear HC HW2 HR hcc
       generalize (wr.setCell ⟨w.heap.size + 1, i, none⟩ (.int .u32 (c : Int))).setCell ⟨w.heap.size + 1, 81, none⟩ (.int .i64 (cc : Int)) = w2 at *
       have HB := Lib.hid (below_setRow HW4.out.b (Nat.le_refl _) (rowC l2 cc))
       have HO := Lib.hid (HW4.out.out.stored (c' := cc) HD3.out)
       go_wp2_with (first | refine load_at rfl (.tmp 5) rfl (w.heap.size + 1) l2 cc rfl HW4.out.row ?_ | refine store_at rfl (.tmp 4) (.tmp 50) rfl w.heap.size Z81 l2 0 cc rfl rfl HW4.out.out HD3.out ?_)
       exact bodyPost_ret (HO.out.result Try.results41 _ rfl) rfl ⟨l2, cc, rfl, HD3.out, HV.out.1, ⟨HD1.out, by have := HV.out.2; omega⟩, HB.out⟩)
end Go.Proofs.Ytpgckdhnmhjkhaa

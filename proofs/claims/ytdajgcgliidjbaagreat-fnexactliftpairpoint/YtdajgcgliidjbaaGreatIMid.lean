import Derived.Test.YtdajgcgliidjbaaGreatILow
import Derived.RegionTactic
import Derived.BigRegion
import Derived.Deep.RegionHeld3
import Derived.Deep.DrawnRows
set_option maxRecDepth 8000
set_option maxHeartbeats 4000000
namespace Go.Proofs.YtdajgcgliidjbaaGreat
open Go.RowKit
attribute [local go_sem ↓] Go.wp_at_zero Go.wp_at_succ
theorem W.lV_take_all {l : List Nat} {m : Nat} (hz : ∀ k, m ≤ k → l.getD k 0 = 0) : W.lV (l.take m) = W.lV l := by
 rw [W.lV_split l m, W.lV_zeros (l := l.drop m) (fun x hx => by
  obtain ⟨i, hi, rfl⟩ := List.getElem_of_mem hx
  rw [List.length_drop] at hi
  have := hz (m + i) (by omega)
  rw [W.getD_eq (by omega)] at this
  rw [List.getElem_drop]; exact this)]
 omega
structure AddW (lx ly : List Nat) (i c : Nat) (l : List Nat) : Prop where
 lim : W.Limbs l
 len : l.length = 81
 val : W.lV l + 4294967296 ^ i * c = W.lV (lx.take i) + W.lV (ly.take i)
 zero : ∀ k, i ≤ k → l.getD k 0 = 0
 c1 : c ≤ 1
theorem AddW.start (lx ly : List Nat) : AddW lx ly 0 0 Z81 := ⟨Z81_lim, Z81_len, by rw [Z81_val]; simp [W.lV], fun k _ => Z81_getD k, by omega⟩
theorem AddW.next {lx ly l : List Nat} {i c n p q : Nat} (h : AddW lx ly i c l) (hi : i < 81) (Lx : W.Limbs lx) (Ly : W.Limbs ly) (hn : lx.getD i 0 + ly.getD i 0 + c = n) (hp : n % 4294967296 = p) (hq : n / 4294967296 = q) : AddW lx ly (i + 1) q (l.set i p) := by
 have hs := W.lV_set l i p (by rw [h.len]; exact hi)
 have bx := W.getD_lt Lx i
 have by_ := W.getD_lt Ly i
 have hc := h.c1
 refine ⟨h.lim.set _ (by omega), by rw [List.length_set]; exact h.len, ?_, fun k hk => by rw [W.getD_set_ne _ (by omega)]; exact h.zero k (by omega), by omega⟩
 rw [h.zero i (Nat.le_refl _), Nat.mul_zero, Nat.add_zero] at hs
 have hv := h.val
 rw [W.lV_take_succ, W.lV_take_succ, hs, Nat.pow_succ, Nat.mul_assoc]
 have e : 4294967296 ^ i * p + 4294967296 ^ i * (4294967296 * q) = 4294967296 ^ i * lx.getD i 0 + 4294967296 ^ i * ly.getD i 0 + 4294967296 ^ i * c := by
  rw [← Nat.mul_add, ← Nat.mul_add, ← Nat.mul_add]; congr 1; omega
 omega
theorem AddW.done {lx ly l : List Nat} {m c : Nat} (h : AddW lx ly m c l) (hm : m < 81) (zx : ∀ k, m ≤ k → lx.getD k 0 = 0) (zy : ∀ k, m ≤ k → ly.getD k 0 = 0) :
  W.lV (l.set m c) = W.lV lx + W.lV ly ∧ W.Limbs (l.set m c) ∧ (l.set m c).length = 81 ∧ ∀ k, m + 1 ≤ k → (l.set m c).getD k 0 = 0 := by
 have hs := W.lV_set l m c (by rw [h.len]; exact hm)
 rw [h.zero m (Nat.le_refl _), Nat.mul_zero, Nat.add_zero] at hs
 have hc := h.c1
 refine ⟨?_, h.lim.set _ (by omega), by rw [List.length_set]; exact h.len, fun k hk => by rw [W.getD_set_ne _ (by omega)]; exact h.zero k (by omega)⟩
 rw [hs, h.val, W.lV_take_all zx, W.lV_take_all zy]
theorem addRows_any (gx gy cx cy : Nat) (lx ly : List Nat) (w : World) (hx : RowI w gx lx cx) (hy : RowI w gy ly cy) (vx : RV lx cx) (vy : RV ly cy) (hcx : cx ≤ 79) (hcy : cy ≤ 79) :
    Calls Tryz.prog 161 #[.pointer (some ⟨gx, 0, none⟩), .pointer (some ⟨gy, 0, none⟩)] w (AggPost (fun l c => W.lV l = W.lV lx + W.lV ly ∧ c ≤ 80) w) := by
  obtain ⟨Z, hZ⟩ : ∃ Z, rowC Z81 0 = Z := ⟨_, rfl⟩
  have hz := zero_row.1
  rw [hZ] at hz
  have HZ := Lib.hid hZ
  have HX := Lib.hid hx
  have HY := Lib.hid hy
  have HVX := Lib.hid vx
  have HVY := Lib.hid vy
  have ltx := hx.lt
  have lty := hy.lt
  obtain ⟨m, hm⟩ : ∃ m, max cx cy = m := ⟨_, rfl⟩
  have hm1 : m ≤ 79 := by omega
  have hmx : cx ≤ m := by omega
  have hmy : cy ≤ m := by omega
  clear hZ hx hy vx vy
  have hcase : (((cx : Int) < (cy : Int)) ∧ m = cy) ∨ ((¬ (cx : Int) < (cy : Int)) ∧ m = cx) := by omega
  clear hm
  rcases hcase with ⟨hle, he⟩ | ⟨hle, he⟩
  all_goals (
   subst he
   go_enter Tryz.func161, Tryz.ntmps161
   go_wp2
   have HW := Work.start w HZ.out
   have hb := HW.b
   obtain ⟨x1, x2⟩ := (HX.out.below hb ltx).cnt
   obtain ⟨y1, y2⟩ := (HY.out.below hb lty).cnt
   have HW0 := Lib.hid HW
   clear HW hb hz HZ
   generalize (w.alloc (.cells Z 100)).alloc (.cells Z 100) = w0 at *
   go_region
   have HW1 : Hid (Work w w0.drew Z81 0) := HW0.out.drewN 1
   clear x1 x2 y1 y2 HW0 hle
   generalize w0.drew = w0 at *
   go_wp2
   go_loopw [6, 19] (fun cv iv wr => ∃ (i c : Nat) (l : List Nat), i ≤ m ∧ c ≤ 1 ∧ iv = .int .i64 i ∧ cv = .int .u32 c ∧ Hid (AddW lx ly i c l) ∧ Hid (Work w wr l 0)) (fun _ iv _ => m - (intOf iv).toNat)
   case atStart => exact ⟨0, 0, Z81, Nat.zero_le _, by omega, rfl, rfl, AddW.start lx ly, HW1⟩
   case round =>
     clear HW1
     obtain ⟨i, c, l, him, hc, rfl, rfl, hI, hW⟩ := hrel
     by_cases hlt : i < m
     · have hlt' : (i : Int) < (m : Int) := by omega
       obtain ⟨x1, _⟩ := (HX.out.below hW.out.b ltx).cell (k := i) (by omega)
       obtain ⟨y1, _⟩ := (HY.out.below hW.out.b lty).cell (k := i) (by omega)
       obtain ⟨r1, f1⟩ := hW.out.row.cell (k := i) (by omega)
       have bx := W.getD_lt HVX.out.lim i
       have by_ := W.getD_lt HVY.out.lim i
       obtain ⟨x, hx⟩ : ∃ x, lx.getD i 0 = x := ⟨_, rfl⟩
       obtain ⟨y, hy⟩ : ∃ y, ly.getD i 0 = y := ⟨_, rfl⟩
       obtain ⟨n, hn⟩ : ∃ n, x + y + c = n := ⟨_, rfl⟩
       obtain ⟨p, hp⟩ : ∃ p, n % 4294967296 = p := ⟨_, rfl⟩
       obtain ⟨q, hq⟩ : ∃ q, n / 4294967296 = q := ⟨_, rfl⟩
       have HN := Lib.hid (hI.out.next (by omega) HVX.out.lim HVY.out.lim (by rw [hx, hy]; exact hn) hp hq)
       rw [hx] at x1 bx
       rw [hy] at y1 by_
       generalize l.getD i 0 = z at *
       have HA := Lib.hid (fun w => add32_any x y c n p q bx by_ hc hn hp hq w)
       have hq1 : q ≤ 1 := by omega
       have d1 : (0 : Int) ≤ (i : Int) := by omega
       have d2 : (i : Int) < 81 := by omega
       have HW2 := Lib.hid (hW.out.drewN 1)
       have HW3 := Lib.hid (HW2.out.set (k := i) p (by omega))
       have K1 := ((HX.out.below HW3.out.b ltx).cell (k := i) (by omega)).1
       have K2 := ((HY.out.below HW3.out.b lty).cell (k := i) (by omega)).1
       rw [hx] at K1
       rw [hy] at K2
       have K3 : Hid ((wr.setCell ⟨w.heap.size + 1, i, none⟩ (.int .u32 (p : Int))).drew.cell? ⟨gx, i, none⟩ = some (.int .u32 (x : Int)) ∧ (wr.setCell ⟨w.heap.size + 1, i, none⟩ (.int .u32 (p : Int))).drew.cell? ⟨gy, i, none⟩ = some (.int .u32 (y : Int))) := ⟨K1, K2⟩
       clear hx hy hn hp hq hI hW K1 K2
       go_wp2
       have n1 : ¬ gx = w.heap.size + 1 := by omega
       have n2 : ¬ gy = w.heap.size + 1 := by omega
       go_region_held3 (fun w' => w'.cell? ⟨gx, i, none⟩ = some (.int .u32 (x : Int)) ∧ w'.cell? ⟨gy, i, none⟩ = some (.int .u32 (y : Int))) (first | exact K3.out | go_keep) (first | (go_at_call 187; refine (HA.out _).mono ?_; rintro e w' ⟨rfl, rfl⟩))
       go_wp2
       go_roundw
       case rel => exact ⟨i + 1, q, l.set i p, by omega, hq1, by go_num, rfl, HN, HW3⟩
       case measure => simp [intOf]; omega
     · obtain rfl : i = m := by omega
       have hlt' : ¬ (i : Int) < (i : Int) := by omega
       obtain ⟨r1, f1⟩ := hW.out.row.cell (k := i) (by omega)
       generalize l.getD i 0 = z at *
       obtain ⟨D1, D2, D3, D4⟩ := hI.out.done (by omega) (fun k hk => HVX.out.zero k (by omega)) (fun k hk => HVY.out.zero k (by omega))
       have HW2 := Lib.hid (hW.out.set (k := i) c (by omega))
       obtain ⟨E, hE⟩ : ∃ E, i + 1 = E := ⟨_, rfl⟩
       rw [hE] at D4
       have HC := Lib.hid (countBelow_any (w.heap.size + 1) 0 E (l.set i c) _ HW2.out.row (by omega))
       have HR := Lib.hid (fun k (h : CountRel (l.set i c) E k) => And.intro (h.right D2 D4) h.le)
       have HD1 := Lib.hid D1
       have HD3 := Lib.hid D3
       have e1 : (i : Int) + 1 = (E : Int) := by omega
       have d1 : (i : Int) < 81 := by omega
       have hE2 : E ≤ 80 := by omega
       clear D1 D2 D3 D4 hI hW hE
       generalize l.set i c = l2 at *
       go_wp2_with fail
       refine HC.out.mono ?_
       rintro e w1 ⟨cc, hcc, rfl, rfl⟩
       have HW4 := Lib.hid (HW2.out.setC cc)
       have HV := Lib.hid (HR.out cc hcc)
       clear HC HW2 HR hcc
       generalize (wr.setCell ⟨w.heap.size + 1, i, none⟩ (.int .u32 (c : Int))).setCell ⟨w.heap.size + 1, 81, none⟩ (.int .i64 (cc : Int)) = w2 at *
       have HB := Lib.hid (below_setRow HW4.out.b (Nat.le_refl _) (rowC l2 cc))
       have HO := Lib.hid (HW4.out.out.stored (c' := cc) HD3.out)
       go_wp2_with (first | refine load_at rfl (.tmp 5) rfl (w.heap.size + 1) l2 cc rfl HW4.out.row ?_ | refine store_at rfl (.tmp 4) (.tmp 50) rfl w.heap.size Z81 l2 0 cc rfl rfl HW4.out.out HD3.out ?_)
       exact bodyPost_ret (HO.out.result Tryz.results161 _ rfl) rfl ⟨l2, cc, rfl, HD3.out, HV.out.1, ⟨HD1.out, by have := HV.out.2; omega⟩, HB.out⟩)
end Go.Proofs.YtdajgcgliidjbaaGreat
namespace Go.Proofs.YtdajgcgliidjbaaGreat
open Go.RowKit
structure MulW (lx ly : List Nat) (cy i : Nat) (l : List Nat) : Prop where
 lim : W.Limbs l
 len : l.length = 81
 val : W.lV l = W.lV (lx.take i) * W.lV ly
 zero : ∀ k, i + cy ≤ k → l.getD k 0 = 0
theorem MulW.start (lx ly : List Nat) (cy : Nat) : MulW lx ly cy 0 Z81 := ⟨Z81_lim, Z81_len, by rw [Z81_val]; simp [W.lV], fun k _ => Z81_getD k⟩
theorem MulW.inner {lx ly l : List Nat} {cy i : Nat} (h : MulW lx ly cy i l) : W.MulIn lx ly i l 0 0 l := ⟨h.lim, rfl, by simp [W.lV], fun _ _ => rfl⟩
theorem MulW.done {lx ly l Q : List Nat} {cy i c : Nat} (h : MulW lx ly cy i l) (k : W.MulIn lx ly i l cy c Q) (hi : i + cy < 81) (zy : ∀ k, cy ≤ k → ly.getD k 0 = 0) (hc : c < 4294967296) : MulW lx ly cy (i + 1) (Q.set (i + cy) c) := by
 obtain ⟨h1, h2, h3, h4⟩ := k
 have hz : Q.getD (i + cy) 0 = 0 := by rw [h4 _ (Nat.le_refl _)]; exact h.zero _ (Nat.le_refl _)
 refine ⟨h1.set _ hc, by rw [List.length_set, h2]; exact h.len, ?_, fun j hj => by rw [W.getD_set_ne _ (by omega), h4 j (by omega)]; exact h.zero j (by omega)⟩
 have hs := W.lV_set Q (i + cy) c (by rw [h2, h.len]; exact hi)
 rw [hz, Nat.mul_zero, Nat.add_zero] at hs
 rw [hs, h3, h.val, W.lV_take_all zy, W.lV_take_succ, Nat.add_mul, Nat.mul_comm (lx.getD i 0)]
theorem mul_bd {x y z c p s n : Nat} (hx : x < 4294967296) (hy : y < 4294967296) (hz : z < 4294967296) (hc : c < 4294967296) (hp : x * y = p) (hs : p + z = s) (hn : c + s = n) :
  ((x : Int) * (y : Int) = (p : Int)) ∧ IntKind.u64.wrap (p : Int) = (p : Int) ∧ IntKind.u64.wrap ((p : Int) + (z : Int)) = (s : Int) ∧ IntKind.u64.wrap ((c : Int) + (s : Int)) = (n : Int) ∧ n / 4294967296 < 4294967296 := by
 have h1 : p ≤ 4294967295 * 4294967295 := by rw [← hp]; exact Nat.mul_le_mul (by omega) (by omega)
 refine ⟨by rw [← hp]; simp, by rw [IntKind.wrap_u64]; omega, by rw [IntKind.wrap_u64]; omega, by rw [IntKind.wrap_u64]; omega, by omega⟩
theorem u64_of {x : Nat} (h : x < 4294967296) : IntKind.u64.wrap (x : Int) = (x : Int) := by rw [IntKind.wrap_u64]; omega
theorem u32_of {n y : Nat} (h : n % 4294967296 = y) : IntKind.u32.wrap (n : Int) = (y : Int) ∧ (n : Int) % 4294967296 = (y : Int) := by rw [IntKind.wrap_u32]; exact ⟨by omega, by omega⟩
theorem mulRows_any (gx gy cx cy : Nat) (lx ly : List Nat) (w : World) (hx : RowI w gx lx cx) (hy : RowI w gy ly cy) (vx : RV lx cx) (vy : RV ly cy) (hcx : cx ≤ 40) (hcy : cy ≤ 40) :
  Calls Tryz.prog 180 #[.pointer (some ⟨gx, 0, none⟩), .pointer (some ⟨gy, 0, none⟩)] w (AggPost (fun l c => W.lV l = W.lV lx * W.lV ly ∧ c ≤ 80) w) := by
 obtain ⟨Z, hZ⟩ : ∃ Z, rowC Z81 0 = Z := ⟨_, rfl⟩
 have hz := zero_row.1
 rw [hZ] at hz
 have HZ := Lib.hid hZ
 have HX := Lib.hid hx
 have HY := Lib.hid hy
 have HVX := Lib.hid vx
 have HVY := Lib.hid vy
 have ltx := hx.lt
 have lty := hy.lt
 have HW := Work.start w HZ.out
 obtain ⟨x1, x2⟩ := (HX.out.below HW.b ltx).cnt
 have HW1 := Lib.hid HW
 have n1 : ¬ gx = w.heap.size + 1 := by omega
 have n2 : ¬ gy = w.heap.size + 1 := by omega
 clear hZ hx hy vx vy HW
 go_enter Tryz.func180, Tryz.ntmps180
 go_wp2
 clear x1 x2 hz
 go_loopw [13] (fun iv wr => ∃ (i : Nat) (l : List Nat), i ≤ cx ∧ iv = .int .i64 i ∧ Hid (MulW lx ly cy i l) ∧ Hid (Work w wr l 0)) (fun iv _ => cx - (intOf iv).toNat)
 case atStart => exact ⟨0, Z81, Nat.zero_le _, rfl, MulW.start lx ly cy, HW1⟩
 case round =>
  clear HW1
  obtain ⟨i, l, hicx, rfl, hM, hW⟩ := hrel
  by_cases hlt : i < cx
  ·have hlt' : (i : Int) < (cx : Int) := by omega
   have hdi : decide (i < cx) = true := by simpa using hlt
   obtain ⟨y1, _⟩ := (HY.out.below hW.out.b lty).cnt
   go_wp2
   clear y1
   go_loopw [7, 20] (fun cv kv ws => ∃ (k c : Nat) (Q : List Nat), k ≤ cy ∧ c < 4294967296 ∧ kv = .int .i64 k ∧ cv = .int .u64 c ∧ Hid (W.MulIn lx ly i l k c Q) ∧ Hid (Work w ws Q 0)) (fun _ kv _ => cy - (intOf kv).toNat)
   case atStart => exact ⟨0, 0, l, Nat.zero_le _, by omega, rfl, rfl, hM.out.inner, hW⟩
   case round =>
    clear hW
    obtain ⟨k, c, Q, hkc, hc, rfl, rfl, hI, hW⟩ := hrel
    by_cases hk : k < cy
    ·have hk' : (k : Int) < (cy : Int) := by omega
     obtain ⟨x1, _⟩ := (HX.out.below hW.out.b ltx).cell (k := i) (by omega)
     obtain ⟨y1, _⟩ := (HY.out.below hW.out.b lty).cell (k := k) (by omega)
     obtain ⟨z1, f1⟩ := hW.out.row.cell (k := i + k) (by omega)
     have bx := W.getD_lt HVX.out.lim i
     have by_ := W.getD_lt HVY.out.lim k
     have bz := W.getD_lt hI.out.1 (i + k)
     have hNx := hI.out.next (n := Q.getD (i + k) 0 + lx.getD i 0 * ly.getD k 0 + c) (by rw [hW.out.row.len]; omega) rfl
     obtain ⟨x, hx⟩ : ∃ x, lx.getD i 0 = x := ⟨_, rfl⟩
     obtain ⟨y, hy⟩ : ∃ y, ly.getD k 0 = y := ⟨_, rfl⟩
     obtain ⟨z, hz⟩ : ∃ z, Q.getD (i + k) 0 = z := ⟨_, rfl⟩
     rw [hx] at x1 bx hNx
     rw [hy] at y1 by_ hNx
     rw [hz] at z1 bz hNx
     obtain ⟨p, hp⟩ : ∃ p, x * y = p := ⟨_, rfl⟩
     obtain ⟨s, hs⟩ : ∃ s, p + z = s := ⟨_, rfl⟩
     obtain ⟨n, hn⟩ : ∃ n, c + s = n := ⟨_, rfl⟩
     obtain ⟨m1, m2, m3, m4, m5⟩ := mul_bd bx by_ bz hc hp hs hn
     rw [show z + x * y + c = n from by rw [hp]; omega] at hNx
     obtain ⟨u, hu⟩ : ∃ u, n % 4294967296 = u := ⟨_, rfl⟩
     obtain ⟨v, hv⟩ : ∃ v, n / 4294967296 = v := ⟨_, rfl⟩
     rw [hu, hv] at hNx
     rw [hv] at m5
     obtain ⟨u1, u2⟩ := u32_of hu
     have u3 : (n : Int) / 4294967296 = (v : Int) := by omega
     have a1 := u64_of bx
     have a2 := u64_of by_
     have a3 := u64_of bz
     have HN := Lib.hid hNx
     have HW3 := Lib.hid ((hW.out.drewN 1).set (k := i + k) u (by omega))
     have HW4 := Lib.hid (fun nq => (hW.out.drewN nq).set (k := i + k) u (by omega))
     have q0 : IntKind.i64.wrap ((i : Int) + (k : Int)) = (i : Int) + (k : Int) := IntWalk.i64_in _ (by omega)
     have q1 : (0 : Int) ≤ (i : Int) + (k : Int) := by omega
     have q2 : (i : Int) + (k : Int) < 81 := by omega
     have q3 : ((i : Int) + (k : Int)).toNat = i + k := by omega
     have q4 : (0 : Int) ≤ (i : Int) := by omega
     have q5 : (i : Int) < 81 := by omega
     have q6 : (0 : Int) ≤ (k : Int) := by omega
     have q7 : (k : Int) < 81 := by omega
     clear hx hy hz hp hs hn hu hv hI hW hNx HW3
     go_wp2_with fail
     go_quiet (fail)
     clear q0 m1 m2 m3 m4 a1 a2 a3
     go_wp2
     go_roundw
     case rel => exact ⟨k + 1, v, Q.set (i + k) u, by omega, m5, by go_num, rfl, HN, HW4.out _⟩
     case measure => simp [intOf]; omega
    ·obtain rfl : k = cy := by omega
     have hk' : ¬ (k : Int) < (k : Int) := by omega
     obtain ⟨y1, _⟩ := (HY.out.below hW.out.b lty).cnt
     obtain ⟨z1, f1⟩ := hW.out.row.cell (k := i + k) (by omega)
     generalize Q.getD (i + k) 0 = z at *
     have HD := Lib.hid (hM.out.done hI.out (by omega) HVY.out.zero hc)
     have HW3 := Lib.hid (hW.out.set (k := i + k) c (by omega))
     have q1 : (0 : Int) ≤ (i : Int) + (k : Int) := by omega
     have q2 : (i : Int) + (k : Int) < 81 := by omega
     have q3 : ((i : Int) + (k : Int)).toNat = i + k := by omega
     have u1 : IntKind.u32.wrap (c : Int) = (c : Int) := by rw [IntKind.wrap_u32]; omega
     clear hI hW
     go_wp2
     go_roundw
     case rel => exact ⟨i + 1, Q.set (i + k) c, by omega, by go_num, HD, HW3⟩
     case measure => simp [intOf]; omega
  ·obtain rfl : i = cx := by omega
   have hlt' : ¬ (i : Int) < (i : Int) := by omega
   have hv1 : W.lV l = W.lV lx * W.lV ly := by rw [hM.out.val, W.lV_take_all HVX.out.zero]
   have HD1 := Lib.hid hv1
   have HD3 := Lib.hid hM.out.len
   obtain ⟨E, hE⟩ : ∃ E, i + cy = E := ⟨_, rfl⟩
   have HW2 : Hid (Work w wr.drew l 0) := hW.out.drewN 1
   have HC := Lib.hid (countBelow_any (w.heap.size + 1) 0 E l _ HW2.out.row (by omega))
   have HR := Lib.hid (fun k (h : CountRel l E k) => And.intro (h.right hM.out.lim (by rw [← hE]; exact hM.out.zero)) h.le)
   obtain ⟨x1, x2⟩ := (HX.out.below hW.out.b ltx).cnt
   obtain ⟨y1, y2⟩ := (HY.out.below hW.out.b lty).cnt
   have e1 : IntKind.i64.wrap ((i : Int) + (cy : Int)) = (E : Int) := by rw [IntWalk.i64_in _ (by omega)]; omega
   have hE2 : E ≤ 80 := by omega
   clear hM hW hv1 hE
   go_wp2_with fail
   go_still_tail 9, (by kernel_rfl)
   change wpList _ _ _ _ _ wr.drew
   clear x1 x2 y1 y2 e1
   generalize wr.drew = wr at *
   go_wp2_with fail
   refine HC.out.mono ?_
   rintro e w1 ⟨cc, hcc, rfl, rfl⟩
   have HW4 := Lib.hid (HW2.out.setC cc)
   have HV := Lib.hid (HR.out cc hcc)
   clear HC HW2 HR hcc
   generalize (wr).setCell ⟨w.heap.size + 1, 81, none⟩ (.int .i64 (cc : Int)) = w2 at *
   have HB := Lib.hid (below_setRow HW4.out.b (Nat.le_refl _) (rowC l cc))
   have HO := Lib.hid (HW4.out.out.stored (c' := cc) HD3.out)
   go_wp2_with (first | refine load_at rfl (.tmp 5) rfl (w.heap.size + 1) l cc rfl HW4.out.row ?_ | refine store_at rfl (.tmp 4) (.tmp 79) rfl w.heap.size Z81 l 0 cc rfl rfl HW4.out.out HD3.out ?_)
   exact bodyPost_ret (HO.out.result Tryz.results180 _ rfl) rfl ⟨l, cc, rfl, HD3.out, HV.out.1, ⟨HD1.out, by have := HV.out.2; omega⟩, HB.out⟩
end Go.Proofs.YtdajgcgliidjbaaGreat
namespace Go.Proofs.YtdajgcgliidjbaaGreat
open Go.RowKit
attribute [local go_sem ↓] Go.wp_at_zero Go.wp_at_succ
structure SubW (lx ly : List Nat) (i br : Nat) (l : List Nat) : Prop where
 lim : W.Limbs l
 len : l.length = 81
 val : W.lV l + W.lV (ly.take i) = W.lV (lx.take i) + 4294967296 ^ i * br
 zero : ∀ k, i ≤ k → l.getD k 0 = 0
 b1 : br ≤ 1
theorem SubW.start (lx ly : List Nat) : SubW lx ly 0 0 Z81 := ⟨Z81_lim, Z81_len, by rw [Z81_val]; simp [W.lV], fun k _ => Z81_getD k, by omega⟩
theorem brw_le (x y c : Nat) : brw x y c ≤ 1 := by unfold brw; split <;> omega
theorem brw_sub {x y c : Nat} (hx : x < 4294967296) (hy : y < 4294967296) (hc : c ≤ 1) : ∃ d, d < 4294967296 ∧ x + 4294967296 * brw x y c = y + c + d := by
 unfold brw
 split
 ·exact ⟨x + 4294967296 - y - c, by omega, by omega⟩
 ·exact ⟨x - y - c, by omega, by omega⟩
theorem SubW.next {lx ly l : List Nat} {i br d q : Nat} (h : SubW lx ly i br l) (hi : i < 81) (hq : q ≤ 1) (hd : d < 4294967296) (hn : lx.getD i 0 + 4294967296 * q = ly.getD i 0 + br + d) : SubW lx ly (i + 1) q (l.set i d) := by
 have hs := W.lV_set l i d (by rw [h.len]; exact hi)
 refine ⟨h.lim.set _ hd, by rw [List.length_set]; exact h.len, ?_, fun k hk => by rw [W.getD_set_ne _ (by omega)]; exact h.zero k (by omega), hq⟩
 rw [h.zero i (Nat.le_refl _), Nat.mul_zero, Nat.add_zero] at hs
 have hv := h.val
 rw [W.lV_take_succ, W.lV_take_succ, hs, Nat.pow_succ, Nat.mul_assoc]
 have e : 4294967296 ^ i * lx.getD i 0 + 4294967296 ^ i * (4294967296 * q) = 4294967296 ^ i * ly.getD i 0 + 4294967296 ^ i * br + 4294967296 ^ i * d := by
  rw [← Nat.mul_add, ← Nat.mul_add, ← Nat.mul_add]; congr 1
 omega
theorem SubW.done {lx ly l : List Nat} {m br : Nat} (h : SubW lx ly m br l) (zx : ∀ k, m ≤ k → lx.getD k 0 = 0) (Lx : W.Limbs lx) (Ly : W.Limbs ly) (hle : W.lV ly ≤ W.lV lx) : W.lV l = W.lV lx - W.lV ly := by
 have lx1 := W.low_of_zero Lx zx
 have zy : ∀ k, m ≤ k → ly.getD k 0 = 0 := fun k hk => W.high_zero Ly (Nat.lt_of_le_of_lt hle lx1) hk
 have hv := h.val
 rw [W.lV_take_all zx, W.lV_take_all zy] at hv
 have ll := W.low_of_zero h.lim h.zero
 have hb := h.b1
 have : br = 0 := by
  rcases Nat.eq_zero_or_pos br with h | h
  ·exact h
  ·have : br = 1 := by omega
   rw [this, Nat.mul_one] at hv; omega
 rw [this, Nat.mul_zero] at hv
 omega
theorem subRowsA_any (gx gy cx cy : Nat) (lx ly : List Nat) (w : World) (hx : RowA w gx lx cx) (hy : RowI w gy ly cy) (vx : RV lx cx) (vy : RV ly cy) (hcx : cx ≤ 79) (_hcy : cy ≤ 79) (hle : W.lV ly ≤ W.lV lx) :
  Calls Tryz.prog 179 #[.pointer (some ⟨gx, 0, none⟩), .pointer (some ⟨gy, 0, none⟩)] w (AggPost (fun l c => W.lV l = W.lV lx - W.lV ly ∧ c ≤ 80) w) := by
 obtain ⟨Z, hZ⟩ : ∃ Z, rowC Z81 0 = Z := ⟨_, rfl⟩
 have hz := zero_row.1
 rw [hZ] at hz
 have HZ := Lib.hid hZ
 have HX := Lib.hid hx
 have HY := Lib.hid hy
 have HVX := Lib.hid vx
 have HVY := Lib.hid vy
 have HLE := Lib.hid hle
 have ltx := hx.lt
 have lty := hy.lt
 have HW := Work.start w HZ.out
 obtain ⟨x1, x2⟩ := (HX.out.below HW.b ltx).cnt
 have HW1 := Lib.hid HW
 clear hZ hx hy vx vy hle HW
 go_enter Tryz.func179, Tryz.ntmps179
 go_wp2
 clear x1 x2 hz
 go_loopw [6, 12] (fun cv iv wr => ∃ (i c : Nat) (l : List Nat), i ≤ cx ∧ c ≤ 1 ∧ iv = .int .i64 i ∧ cv = .int .u32 c ∧ Hid (SubW lx ly i c l) ∧ Hid (Work w wr l 0)) (fun _ iv _ => cx - (intOf iv).toNat)
 case atStart => exact ⟨0, 0, Z81, Nat.zero_le _, by omega, rfl, rfl, SubW.start lx ly, HW1⟩
 case round =>
  clear HW1
  obtain ⟨i, c, l, him, hc, rfl, rfl, hI, hW⟩ := hrel
  by_cases hlt : i < cx
  ·have hlt' : (i : Int) < (cx : Int) := by omega
   obtain ⟨x1, _⟩ := (HX.out.below hW.out.b ltx).cell (k := i) (by omega)
   obtain ⟨y1, _⟩ := (HY.out.below hW.out.b lty).cell (k := i) (by omega)
   obtain ⟨r1, f1⟩ := hW.out.row.cell (k := i) (by omega)
   have bx := W.getD_lt HVX.out.lim i
   have by_ := W.getD_lt HVY.out.lim i
   obtain ⟨x, hx⟩ : ∃ x, lx.getD i 0 = x := ⟨_, rfl⟩
   obtain ⟨y, hy⟩ : ∃ y, ly.getD i 0 = y := ⟨_, rfl⟩
   rw [hx] at x1 bx
   rw [hy] at y1 by_
   obtain ⟨p, hp, hn⟩ := brw_sub bx by_ hc
   obtain ⟨q, hq⟩ : ∃ q, brw x y c = q := ⟨_, rfl⟩
   have hq1 : q ≤ 1 := by rw [← hq]; exact brw_le x y c
   rw [hq] at hn
   have HN := Lib.hid (hI.out.next (by omega) hq1 hp (by rw [hx, hy]; exact hn))
   generalize l.getD i 0 = z at *
   have HA := Lib.hid (fun w => sub32_any x y c p q bx by_ hc hq hn w)
   have d1 : (0 : Int) ≤ (i : Int) := by omega
   have d2 : (i : Int) < 81 := by omega
   have HW3 := Lib.hid ((hW.out.drewN 1).set (k := i) p (by omega))
   have K1 := ((HX.out.below HW3.out.b ltx).cell (k := i) (by omega)).1
   have K2 := ((HY.out.below HW3.out.b lty).cell (k := i) (by omega)).1
   rw [hx] at K1
   rw [hy] at K2
   have K3 : Hid ((wr.setCell ⟨w.heap.size + 1, i, none⟩ (.int .u32 (p : Int))).drew.cell? ⟨gx, i, none⟩ = some (.int .u32 (x : Int)) ∧ (wr.setCell ⟨w.heap.size + 1, i, none⟩ (.int .u32 (p : Int))).drew.cell? ⟨gy, i, none⟩ = some (.int .u32 (y : Int))) := ⟨K1, K2⟩
   clear hx hy hn hp hq hI hW K1 K2
   go_wp2
   go_region_held3 (fun w' => w'.cell? ⟨gx, i, none⟩ = some (.int .u32 (x : Int)) ∧ w'.cell? ⟨gy, i, none⟩ = some (.int .u32 (y : Int))) (first | exact K3.out | go_keep) (first | (go_at_call 193; refine (HA.out _).mono ?_; rintro e w' ⟨rfl, rfl⟩))
   go_wp2
   go_roundw
   case rel => exact ⟨i + 1, q, l.set i p, by omega, hq1, by go_num, rfl, HN, HW3⟩
   case measure => simp [intOf]; omega
  ·obtain rfl : i = cx := by omega
   have hlt' : ¬ (i : Int) < (i : Int) := by omega
   have HD1 := Lib.hid (hI.out.done HVX.out.zero HVX.out.lim HVY.out.lim HLE.out)
   have HD3 := Lib.hid hI.out.len
   have HW2 := hW
   have HC := Lib.hid (countBelow_any (w.heap.size + 1) 0 i l _ HW2.out.row (by omega))
   have HR := Lib.hid (fun k (h : CountRel l i k) => And.intro (h.right hI.out.lim hI.out.zero) h.le)
   obtain ⟨x1, x2⟩ := (HX.out.below hW.out.b ltx).cnt
   clear hI hW
   go_wp2_with fail
   refine HC.out.mono ?_
   rintro e w1 ⟨cc, hcc, rfl, rfl⟩
   have HW4 := Lib.hid (HW2.out.setC cc)
   have HV := Lib.hid (HR.out cc hcc)
   clear HC HW2 HR hcc x1 x2
   generalize (wr).setCell ⟨w.heap.size + 1, 81, none⟩ (.int .i64 (cc : Int)) = w2 at *
   have HB := Lib.hid (below_setRow HW4.out.b (Nat.le_refl _) (rowC l cc))
   have HO := Lib.hid (HW4.out.out.stored (c' := cc) HD3.out)
   go_wp2_with (first | refine load_at rfl (.tmp 5) rfl (w.heap.size + 1) l cc rfl HW4.out.row ?_ | refine store_at rfl (.tmp 4) (.tmp 41) rfl w.heap.size Z81 l 0 cc rfl rfl HW4.out.out HD3.out ?_)
   exact bodyPost_ret (HO.out.result Tryz.results179 _ rfl) rfl ⟨l, cc, rfl, HD3.out, HV.out.1, ⟨HD1.out, by have := HV.out.2; omega⟩, HB.out⟩
theorem subRows_any (gx gy cx cy : Nat) (lx ly : List Nat) (w : World) (hx : RowI w gx lx cx) (hy : RowI w gy ly cy) (vx : RV lx cx) (vy : RV ly cy) (hcx : cx ≤ 79) (_hcy : cy ≤ 79) (hle : W.lV ly ≤ W.lV lx) :
  Calls Tryz.prog 179 #[.pointer (some ⟨gx, 0, none⟩), .pointer (some ⟨gy, 0, none⟩)] w (AggPost (fun l c => W.lV l = W.lV lx - W.lV ly ∧ c ≤ 80) w) := subRowsA_any gx gy cx cy lx ly w hx.atA hy vx vy hcx _hcy hle
end Go.Proofs.YtdajgcgliidjbaaGreat
namespace Go.Proofs.YtdajgcgliidjbaaGreat
open Go.RowKit
end Go.Proofs.YtdajgcgliidjbaaGreat
namespace Go.Proofs.YtdajgcgliidjbaaGreat
open Go.RowKit
end Go.Proofs.YtdajgcgliidjbaaGreat
namespace Go.Proofs.YtdajgcgliidjbaaGreat
open Go.RowKit
namespace W
namespace D
structure DivRel (u0 : Nat) (v : List Nat) (n j m : Nat) (U q : List Nat) : Prop where
 lU : Limbs U
 lq : Limbs q
 nU : U.length = m
 nq : q.length = m
 sum : u0 = lV v * lV q + lV U
 lt : lV U < lV v * 4294967296 ^ j
 zero : ∀ k, k < j → q.getD k 0 = 0
structure Dvr (v : List Nat) (n : Nat) : Prop where
 lv : Limbs v
 zv : ∀ k, n ≤ k → v.getD k 0 = 0
 two : 2 ≤ n
 top : 2147483648 ≤ v.getD (n - 1) 0
theorem Dvr.lt {v : List Nat} {n : Nat} (d : Dvr v n) : lV v < 4294967296 ^ n := low_of_zero d.lv d.zv
theorem window {u0 n j m : Nat} {v U q : List Nat} (d : Dvr v n) (r : DivRel u0 v n (j + 1) m U q) : lV U < 4294967296 ^ (j + n + 1) := by
 have a := r.lt
 have b := Nat.mul_lt_mul_of_pos_right d.lt (Nat.pow_pos (n := j + 1) (show 0 < 4294967296 by omega))
 rw [← Nat.pow_add, show n + (j + 1) = j + n + 1 from by omega] at b
 omega
theorem top_of {u0 n j m : Nat} {v U q : List Nat} (d : Dvr v n) (r : DivRel u0 v n (j + 1) m U q) :
  Top (lV U / 4294967296 ^ j) (lV v) (4294967296 ^ (n - 2)) (U.getD (j + n) 0 * 4294967296 + U.getD (j + n - 1) 0) (U.getD (j + n - 2) 0) (v.getD (n - 1) 0) (v.getD (n - 2) 0) := by
 have h2 := d.two
 have w := window d r
 refine ⟨Nat.pow_pos (by omega), ?_, ?_, d.top, getD_lt d.lv _, getD_lt d.lv _, getD_lt r.lU _, ?_⟩
 ·rw [Nat.div_div_eq_div_mul, ← Nat.pow_add]
  have e1 := lV_dig r.lU (j + (n - 2))
  have e2 := lV_dig r.lU (j + (n - 2) + 1)
  have e3 := lV_dig r.lU (j + (n - 2) + 1 + 1)
  rw [show j + (n - 2) + 1 + 1 + 1 = j + n + 1 from by omega, Nat.div_eq_of_lt w] at e3
  rw [e1, e2, e3, show j + (n - 2) + 1 + 1 = j + n from by omega, show j + (n - 2) + 1 = j + n - 1 from by omega, show j + (n - 2) = j + n - 2 from by omega]
  generalize U.getD (j + n) 0 = a
  generalize U.getD (j + n - 1) 0 = b
  generalize U.getD (j + n - 2) 0 = c
  omega
 ·have e1 := lV_dig d.lv (n - 2)
  have e2 := lV_dig d.lv (n - 2 + 1)
  rw [show n - 2 + 1 + 1 = n from by omega, Nat.div_eq_of_lt d.lt] at e2
  rw [e1, e2, show n - 2 + 1 = n - 1 from by omega]
  generalize v.getD (n - 1) 0 = a
  generalize v.getD (n - 2) 0 = b
  omega
 ·rw [Nat.div_lt_iff_lt_mul (Nat.pow_pos (by omega)), Nat.mul_assoc, ← Nat.pow_succ']
  exact r.lt
def MS (U v : List Nat) (j g i br : Nat) (Q : List Nat) : Prop :=
 Limbs Q ∧ Q.length = U.length ∧ lV Q + g * 4294967296 ^ j * lV (v.take i) = lV U + 4294967296 ^ (j + i) * br ∧ br ≤ g ∧ ∀ k, j + i ≤ k → Q.getD k 0 = U.getD k 0
theorem MS.start {U v : List Nat} (h : Limbs U) (j g : Nat) : MS U v j g 0 0 U := ⟨h, rfl, by simp [lV], Nat.zero_le _, fun _ _ => rfl⟩
theorem MS.next {U v Q : List Nat} {j g i br y br' : Nat} (h : MS U v j g i br Q) (lv : Limbs v) (hk : j + i < Q.length) (hy : y < 4294967296)
  (hn : Q.getD (j + i) 0 + 4294967296 * br' = g * v.getD i 0 + br + y) : MS U v j g (i + 1) br' (Q.set (j + i) y) := by
 obtain ⟨h1, h2, h3, h4, h5⟩ := h
 refine ⟨h1.set _ hy, by simp [h2], ?_, ?_, fun k hk2 => by rw [getD_set_ne _ (by omega)]; exact h5 k (by omega)⟩
 ·have hs := lV_set Q (j + i) y hk
  have e : 4294967296 ^ (j + i) * (Q.getD (j + i) 0 + 4294967296 * br') = 4294967296 ^ (j + i) * (g * v.getD i 0 + br + y) := by rw [hn]
  rw [lV_take_succ, Nat.mul_add]
  have e2 : g * 4294967296 ^ j * (4294967296 ^ i * v.getD i 0) = 4294967296 ^ (j + i) * (g * v.getD i 0) := by
   rw [Nat.pow_add]; simp only [Nat.mul_assoc, Nat.mul_comm, Nat.mul_left_comm]
  have e3 : 4294967296 ^ (j + (i + 1)) * br' = 4294967296 ^ (j + i) * (4294967296 * br') := by rw [← Nat.add_assoc, Nat.pow_succ, Nat.mul_assoc]
  rw [Nat.mul_add, Nat.mul_add, Nat.mul_add] at e
  rw [e2, e3]
  generalize 4294967296 ^ (j + i) * (g * v.getD i 0) = z1 at *
  generalize 4294967296 ^ (j + i) * (4294967296 * br') = z2 at *
  generalize 4294967296 ^ (j + i) * y = z3 at *
  generalize 4294967296 ^ (j + i) * br = z4 at *
  generalize 4294967296 ^ (j + i) * Q.getD (j + i) 0 = z5 at *
  generalize g * 4294967296 ^ j * lV (v.take i) = z6 at *
  omega
 ·have hv := getD_lt lv i
  have : g * v.getD i 0 ≤ g * 4294967295 := Nat.mul_le_mul_left _ (by omega)
  omega
def AB (Q v : List Nat) (j i c : Nat) (R : List Nat) : Prop := MulIn (List.replicate (j + 1) 1) v j Q i c R
theorem one_at (j : Nat) : (List.replicate (j + 1) 1).getD j 0 = 1 := by
 rw [List.getD_eq_getElem?_getD, List.getElem?_replicate]; simp
theorem AB.start {Q v : List Nat} (h : Limbs Q) (j : Nat) : AB Q v j 0 0 Q := ⟨h, rfl, by simp [lV], fun _ _ => rfl⟩
theorem AB.next {Q v R : List Nat} {j i c n : Nat} (h : AB Q v j i c R) (hk : j + i < R.length) (hn : n = R.getD (j + i) 0 + v.getD i 0 + c) : AB Q v j (i + 1) (n / 4294967296) (R.set (j + i) (n % 4294967296)) :=
 MulIn.next h hk (by rw [one_at, hn, Nat.one_mul])
def Left1 (U v : List Nat) (j g : Nat) (R : List Nat) : Prop := Limbs R ∧ R.length = U.length ∧ lV R + lV v * (4294967296 ^ j * g) = lV U ∧ lV R < lV v * 4294967296 ^ j
theorem MS.low {u0 n j m g br : Nat} {v U q Q : List Nat} (d : Dvr v n) (r : DivRel u0 v n (j + 1) m U q) (h : MS U v j g (n + 1) br Q) :
  lV Q < 4294967296 ^ (j + n + 1) ∧ lV Q + g * 4294967296 ^ j * lV v = lV U + 4294967296 ^ (j + n + 1) * br := by
 obtain ⟨h1, h2, h3, h4, h5⟩ := h
 have w := window d r
 refine ⟨low_of_zero h1 fun k hk => by rw [h5 k (by omega)]; exact high_zero r.lU w hk, ?_⟩
 rw [lV_take_all (l := v) (fun k hk => d.zv k (by omega))] at h3
 exact h3
theorem fits {u0 n j m : Nat} {v U q : List Nat} (d : Dvr v n) (r : DivRel u0 v n (j + 1) m U q) {X : Nat} (hX : X = lV U / 4294967296 ^ j) :
  lV v * (4294967296 ^ j * (X / lV v)) ≤ lV U ∧ lV U < lV v * (4294967296 ^ j * (X / lV v)) + lV v * 4294967296 ^ j ∧ 0 < lV v := by
 have hv : 0 < lV v := (top_of d r).Vpos'
 have hp : 0 < 4294967296 ^ j := Nat.pow_pos (by omega)
 have a := Nat.div_add_mod X (lV v)
 have b := Nat.mod_lt X hv
 have c := Nat.div_add_mod (lV U) (4294967296 ^ j)
 have e := Nat.mod_lt (lV U) hp
 rw [← hX] at c
 have f : lV v * (4294967296 ^ j * (X / lV v)) = 4294967296 ^ j * (lV v * (X / lV v)) := by rw [Nat.mul_left_comm]
 rw [f, Nat.mul_comm (lV v) (4294967296 ^ j)]
 have g1 : 4294967296 ^ j * (lV v * (X / lV v)) + 4294967296 ^ j * (X % lV v) = 4294967296 ^ j * X := by rw [← Nat.mul_add, a]
 have g2 : 4294967296 ^ j * (X % lV v + 1) ≤ 4294967296 ^ j * lV v := Nat.mul_le_mul_left _ b
 rw [Nat.mul_add, Nat.mul_one] at g2
 generalize 4294967296 ^ j * (lV v * (X / lV v)) = z1 at *
 generalize 4294967296 ^ j * (X % lV v) = z2 at *
 generalize 4294967296 ^ j * X = z3 at *
 generalize 4294967296 ^ j * lV v = z4 at *
 generalize lV U % 4294967296 ^ j = z5 at *
 generalize 4294967296 ^ j = z6 at *
 exact ⟨by omega, by omega, hv⟩
theorem step_right {u0 n j m g : Nat} {v U q Q : List Nat} (d : Dvr v n) (r : DivRel u0 v n (j + 1) m U q) (h : MS U v j g (n + 1) 0 Q) (hg : lV U / 4294967296 ^ j / lV v ≤ g) :
  g = lV U / 4294967296 ^ j / lV v ∧ Left1 U v j g Q := by
 obtain ⟨lo, e⟩ := h.low d r
 obtain ⟨f1, f2, hv⟩ := fits d r rfl
 have e' : lV Q + lV v * (4294967296 ^ j * g) = lV U := by
  rw [Nat.mul_zero, Nat.add_zero] at e
  rw [← e]; congr 1; rw [Nat.mul_comm g, Nat.mul_comm (lV v)]
 have hq : g = lV U / 4294967296 ^ j / lV v := by
  refine Nat.le_antisymm ?_ hg
  rw [Nat.le_div_iff_mul_le hv, Nat.le_div_iff_mul_le (Nat.pow_pos (by omega))]
  have : g * lV v * 4294967296 ^ j = lV v * (4294967296 ^ j * g) := by simp only [Nat.mul_assoc, Nat.mul_comm, Nat.mul_left_comm]
  rw [this]; omega
 refine ⟨hq, h.1, h.2.1, e', ?_⟩
 rw [← hq] at f2
 omega
theorem step_back {u0 n j m g br c : Nat} {v U q Q R : List Nat} (d : Dvr v n) (r : DivRel u0 v n (j + 1) m U q) (h : MS U v j g (n + 1) br Q) (hbr : 0 < br)
  (hg2 : g ≤ lV U / 4294967296 ^ j / lV v + 1) (ha : AB Q v j (n + 1) c R) : g = lV U / 4294967296 ^ j / lV v + 1 ∧ Left1 U v j (g - 1) R := by
 obtain ⟨lo, e⟩ := h.low d r
 obtain ⟨f1, f2, hv⟩ := fits d r rfl
 have w := window d r
 have hp : 0 < 4294967296 ^ j := Nat.pow_pos (by omega)
 generalize hqd : lV U / 4294967296 ^ j / lV v = qd at *
 have hlow : g * 4294967296 ^ j * lV v = lV v * (4294967296 ^ j * g) := by simp only [Nat.mul_assoc, Nat.mul_comm]
 rw [hlow] at e
 have hge : 4294967296 ^ (j + n + 1) * 1 ≤ 4294967296 ^ (j + n + 1) * br := Nat.mul_le_mul_left _ hbr
 have hq : g = qd + 1 := by
  refine Nat.le_antisymm hg2 ?_
  rcases Nat.lt_or_ge qd g with h | h
  ·exact h
  ·exfalso
   have : lV v * (4294967296 ^ j * g) ≤ lV v * (4294967296 ^ j * qd) := Nat.mul_le_mul_left _ (Nat.mul_le_mul_left _ h)
   omega
 refine ⟨hq, ?_⟩
 obtain ⟨a1, a2, a3, a4⟩ := ha
 have aw : lV R < 4294967296 ^ (j + n + 1) := low_of_zero a1 fun k hk => by
  rw [a4 k (by omega), h.2.2.2.2 k (by omega)]; exact high_zero r.lU w hk
 rw [one_at, Nat.one_mul, lV_take_all (l := v) (fun k hk => d.zv k (by omega)), ← Nat.add_assoc] at a3
 subst hq
 rw [Nat.add_sub_cancel]
 have ee : lV v * (4294967296 ^ j * (qd + 1)) = lV v * (4294967296 ^ j * qd) + lV v * 4294967296 ^ j := by rw [Nat.mul_add, Nat.mul_one, Nat.mul_add]
 rw [ee] at e
 rw [Nat.mul_comm (4294967296 ^ j) (lV v)] at a3
 have hvB : lV v * 4294967296 ^ j ≤ 4294967296 ^ (j + n + 1) := by
  have := Nat.mul_le_mul_right (4294967296 ^ j) (Nat.le_of_lt d.lt)
  rw [← Nat.pow_add] at this
  have h2 : 4294967296 ^ (n + j) ≤ 4294967296 ^ (j + n + 1) := Nat.pow_le_pow_right (by omega) (by omega)
  omega
 obtain ⟨S, hS⟩ : ∃ S, lV U = lV v * (4294967296 ^ j * qd) + S := ⟨lV U - lV v * (4294967296 ^ j * qd), by omega⟩
 have hSlt : S < 4294967296 ^ (j + n + 1) := by omega
 have key : lV R + 4294967296 ^ (j + n + 1) * c = S + 4294967296 ^ (j + n + 1) * br := by omega
 have hRS : lV R = S := by
  have k1 := congrArg (· % 4294967296 ^ (j + n + 1)) key
  simp only [Nat.add_mul_mod_self_left] at k1
  rw [Nat.mod_eq_of_lt aw, Nat.mod_eq_of_lt hSlt] at k1
  exact k1
 exact ⟨a1, by rw [a2, h.2.1], by omega, by omega⟩
theorem DivRel.next {u0 n j m g : Nat} {v U q R : List Nat} (r : DivRel u0 v n (j + 1) m U q) (hj : j < m) (h : Left1 U v j g R) (hg : g < 4294967296) : DivRel u0 v n j m R (q.set j g) := by
 obtain ⟨h1, h2, h3, h4⟩ := h
 have hs := lV_set q j g (by rw [r.nq]; exact hj)
 rw [r.zero j (by omega), Nat.mul_zero, Nat.add_zero] at hs
 refine ⟨h1, r.lq.set _ hg, by rw [h2, r.nU], by rw [List.length_set, r.nq], ?_, h4, fun k hk => by rw [getD_set_ne _ (by omega)]; exact r.zero k (by omega)⟩
 rw [r.sum, hs, Nat.mul_add]
 generalize lV v * (4294967296 ^ j * g) = z at *
 generalize lV v * lV q = z2 at *
 omega
theorem DivRel.done {u0 n m : Nat} {v U q : List Nat} (r : DivRel u0 v n 0 m U q) : lV q = u0 / lV v ∧ lV U = u0 % lV v := by
 have h := r.lt
 rw [Nat.pow_zero, Nat.mul_one] at h
 have s := r.sum
 have hv : 0 < lV v := by omega
 constructor
 ·rw [s, Nat.mul_add_div hv, Nat.div_eq_of_lt h]; omega
 ·rw [s, Nat.mul_add_mod, Nat.mod_eq_of_lt h]
end D
end W
end Go.Proofs.YtdajgcgliidjbaaGreat
namespace Go.Proofs.YtdajgcgliidjbaaGreat
open Go.RowKit
structure GuessRel (X V top v1 g r : Nat) : Prop where
 sum : g * v1 + r = top
 ge : X / V ≤ g
 le : g ≤ 4294967297
 or_ : r < 4294967296 ∨ g ≤ 4294967296
 rb : r < 8589934592
theorem GuessRel.start {X V P top u3 v1 v2 : Nat} (t : W.Top X V P top u3 v1 v2) : GuessRel X V top v1 (top / v1) (top % v1) := by
 have h := t.first
 have h1 := t.h1'
 have h2 := t.h1
 have := Nat.mod_lt top (show 0 < v1 by omega)
 exact ⟨Nat.div_add_mod' top v1, h.1, h.2, .inl (by omega), by omega⟩
theorem GuessRel.down {X V P top u3 v1 v2 g r : Nat} (t : W.Top X V P top u3 v1 v2) (h : GuessRel X V top v1 g r) (hr : r < 4294967296) (hg : 4294967296 ≤ g ∨ r * 4294967296 + u3 < g * v2) : GuessRel X V top v1 (g - 1) (r + v1) ∧ 0 < g := by
 have lt : X / V < g := by
  rcases hg with hg | hg
  ·have := t.qd
   exact Nat.lt_of_lt_of_le this hg
  ·exact t.more h.sum hg
 have g0 : 0 < g := Nat.lt_of_le_of_lt (Nat.zero_le _) lt
 have h1 := t.h1'
 have hle := h.le
 refine ⟨⟨?_, Nat.le_sub_one_of_lt lt, by omega, .inr (by omega), by omega⟩, g0⟩
 have e := h.sum
 obtain ⟨k, rfl⟩ : ∃ k, g = k + 1 := ⟨g - 1, by omega⟩
 rw [Nat.add_mul, Nat.one_mul] at e
 rw [Nat.add_sub_cancel]; omega
theorem GuessRel.done {X V P top u3 v1 v2 g r : Nat} (t : W.Top X V P top u3 v1 v2) (h : GuessRel X V top v1 g r) (hr : 4294967296 ≤ r ∨ (g < 4294967296 ∧ g * v2 ≤ r * 4294967296 + u3)) : g < 4294967296 ∧ X / V ≤ g ∧ g ≤ X / V + 1 := by
 have qd := t.qd
 rcases hr with hr | ⟨hg, hr⟩
 ·have hg : g ≤ 4294967296 := by rcases h.or_ with h | h; omega; exact h
  have := t.past h.sum hr hg
  exact ⟨by omega, h.ge, by omega⟩
 ·exact ⟨hg, h.ge, t.less h.sum (by omega) hr⟩
theorem guess_nums {g r v2 u3 : Nat} (hg : g < 4294967296) (hr : r < 4294967296) (h2 : v2 < 4294967296) (h3 : u3 < 4294967296) : ∃ p s : Nat, g * v2 = p ∧ r * 4294967296 + u3 = s ∧ IntKind.u64.wrap ((g : Int) * (v2 : Int)) = (p : Int) ∧
  IntKind.u64.wrap ((r : Int) * 4294967296) = (r : Int) * 4294967296 ∧ bits .or .u64 ((r : Int) * 4294967296) (u3 : Int) = (s : Int) := by
 obtain ⟨p, hp⟩ : ∃ p, g * v2 = p := ⟨_, rfl⟩
 have h1 : p ≤ 4294967295 * 4294967295 := by rw [← hp]; exact Nat.mul_le_mul (by omega) (by omega)
 have e : (g : Int) * (v2 : Int) = (p : Int) := by rw [← hp]; simp
 obtain ⟨o1, o2, _, _⟩ := or64_32 hr h3 rfl
 exact ⟨p, _, hp, rfl, by rw [e, IntKind.wrap_u64]; omega, o2, o1⟩
structure Same (w w' : World) : Prop where
 heap : w'.heap = w.heap
 os : w'.os = w.os
 tape : w'.tape = w.tape
 output : w'.output = w.output
theorem Same.refl (w : World) : Same w w := ⟨rfl, rfl, rfl, rfl⟩
theorem Same.drewN {w w' : World} (h : Same w w') (k : Nat) : Same w (w'.drewN k) := ⟨h.heap, h.os, h.tape, h.output⟩
def GLoop (X V T v1 : Nat) (gv rv : Value) : Prop := ∃ g r : Nat, gv = .int .u64 (g : Int) ∧ rv = .int .u64 (r : Int) ∧ Hid (GuessRel X V T v1 g r)
def GuessPost (q : Nat) (w : World) (e : Ending) (w' : World) : Prop := ∃ g : Nat, g < 4294967296 ∧ q ≤ g ∧ g ≤ q + 1 ∧ e = .returned (.int .u32 (g : Int)) ∧ Same w w'
theorem guessLimb_any (gu gv cu n at_ X V P : Nat) (U v : List Nat) (w : World) (hu : RowI w gu U cu) (hv : RowI w gv v n) (h2 : 2 ≤ n) (hat : at_ + n < 81)
  (t : W.Top X V P (U.getD (at_ + n) 0 * 4294967296 + U.getD (at_ + n - 1) 0) (U.getD (at_ + n - 2) 0) (v.getD (n - 1) 0) (v.getD (n - 2) 0)) (Lu : W.Limbs U) :
  Calls Tryz.prog 202 #[.pointer (some ⟨gu, 0, none⟩), .pointer (some ⟨gv, 0, none⟩), .int .i64 (at_ : Int)] w (GuessPost (X / V) w) := by
 obtain ⟨c1, _⟩ := hv.cnt
 obtain ⟨v1c, _⟩ := hv.cell (k := n - 1) (by omega)
 obtain ⟨v2c, _⟩ := hv.cell (k := n - 2) (by omega)
 obtain ⟨u1c, _⟩ := hu.cell (k := at_ + n) (by omega)
 obtain ⟨u2c, _⟩ := hu.cell (k := at_ + n - 1) (by omega)
 obtain ⟨u3c, _⟩ := hu.cell (k := at_ + n - 2) (by omega)
 have b1 := W.getD_lt Lu (at_ + n)
 have b2 := W.getD_lt Lu (at_ + n - 1)
 generalize U.getD (at_ + n) 0 = u1 at *
 generalize U.getD (at_ + n - 1) 0 = u2 at *
 generalize U.getD (at_ + n - 2) 0 = u3 at *
 generalize v.getD (n - 1) 0 = v1 at *
 generalize v.getD (n - 2) 0 = v2 at *
 obtain ⟨T, hT⟩ : ∃ T, u1 * 4294967296 + u2 = T := ⟨_, rfl⟩
 rw [hT] at t
 have b3 := t.h3
 have bv1 := t.h1'
 have bv1' := t.h1
 have bv2 := t.h2
 obtain ⟨o1, o2, o3, o4⟩ := or64_32 b1 b2 hT
 have o5 := u64_of bv1
 have o6 := u64_of bv2
 have o7 := u64_of b3
 obtain ⟨n1, hn1⟩ : ∃ j, n - 1 = j := ⟨_, rfl⟩
 obtain ⟨n2, hn2⟩ : ∃ j, n - 2 = j := ⟨_, rfl⟩
 obtain ⟨t0, ht0⟩ : ∃ j, at_ + n = j := ⟨_, rfl⟩
 obtain ⟨t1, ht1⟩ : ∃ j, at_ + n - 1 = j := ⟨_, rfl⟩
 obtain ⟨t2, ht2⟩ : ∃ j, at_ + n - 2 = j := ⟨_, rfl⟩
 rw [hn1] at v1c
 rw [hn2] at v2c
 rw [ht1] at u2c
 rw [ht2] at u3c
 rw [ht0] at u1c
 have p1 : (at_ : Int) + (n : Int) = (t0 : Int) := by omega
 have p2 : IntKind.i64.wrap ((n : Int) - 1) = (n1 : Int) := by rw [IntWalk.i64_in _ (by omega)]; omega
 have p3 : IntKind.i64.wrap ((n : Int) - 2) = (n2 : Int) := by rw [IntWalk.i64_in _ (by omega)]; omega
 have p4 : IntKind.i64.wrap ((t0 : Int) - 1) = (t1 : Int) := by rw [IntWalk.i64_in _ (by omega)]; omega
 have p5 : (t0 : Int) - 2 = (t2 : Int) := by omega
 obtain ⟨G0, hG0⟩ : ∃ G0, T / v1 = G0 := ⟨_, rfl⟩
 obtain ⟨R0, hR0⟩ : ∃ R0, T % v1 = R0 := ⟨_, rfl⟩
 have hg := GuessRel.start t
 rw [hG0, hR0] at hg
 have hd0 : ¬ (v1 : Int) = 0 := by omega
 have hd1 : ¬ v1 = 0 := by omega
 have t5 : (T : Int) / (v1 : Int) = (G0 : Int) := by rw [← hG0]; simp
 have t6 : (T : Int) % (v1 : Int) = (R0 : Int) := by rw [← hR0]; simp
 have t7 : (T : Int).tdiv (v1 : Int) = (G0 : Int) := by rw [Int.tdiv_eq_ediv_of_nonneg (by omega)]; exact t5
 have t8 : (T : Int).tmod (v1 : Int) = (R0 : Int) := by rw [Int.tmod_eq_emod_of_nonneg (by omega)]; exact t6
 have hgl := hg.le
 have hgr := hg.rb
 have t9 : IntKind.u64.wrap (G0 : Int) = (G0 : Int) := by rw [IntKind.wrap_u64]; omega
 have HG := Lib.hid hg
 have HTp := Lib.hid t
 have k1 : (t2 : Int) < 81 := by omega
 have k2 : (t1 : Int) < 81 := by omega
 have k3 : (t0 : Int) < 81 := by omega
 have k4 : (n2 : Int) < 81 := by omega
 have k5 : (n1 : Int) < 81 := by omega
 have q1 : (0 : Int) ≤ (t2 : Int) := by omega
 have q2 : (0 : Int) ≤ (t1 : Int) := by omega
 have q3 : (0 : Int) ≤ (t0 : Int) := by omega
 have q4 : (0 : Int) ≤ (n2 : Int) := by omega
 have q5 : (0 : Int) ≤ (n1 : Int) := by omega
 clear hT hn1 hn2 ht0 ht1 ht2 hG0 hR0 hg t hu hv Lu hgl hgr
 go_enter Tryz.func202, Tryz.ntmps202
 go_wp2
 go_quiet (fail)
 go_wp2
 go_quiet (fail)
 go_wp2
 go_quiet (fail)
 go_wp2
 go_quiet (fail)
 go_wp2
 clear o1 o2 o3 o4 o5 o6 p1 p2 p3 p4 t5 t6 t7 t8 t9 c1 v1c v2c u1c u2c
 go_loop [11, 12] (fun gv rv => GLoop X V T v1 gv rv) (fun gv _ => (intOf gv).toNat)
 case atStart => exact ⟨G0, R0, rfl, rfl, HG⟩
 case round =>
  clear HG
  obtain ⟨g, r, rfl, rfl, hG⟩ := hrel
  by_cases hr : r < 4294967296
  ·have hr' : (r : Int) < 4294967296 := by omega
   by_cases hg : 4294967296 ≤ g
   ·have hg' : (4294967296 : Int) ≤ (g : Int) := by omega
    obtain ⟨hN, hg0⟩ := hG.out.down HTp.out hr (.inl hg)
    have hgl := hG.out.le
    obtain ⟨g1, hg1⟩ : ∃ x, g - 1 = x := ⟨_, rfl⟩
    obtain ⟨r1, hr1⟩ : ∃ x, r + v1 = x := ⟨_, rfl⟩
    rw [hg1, hr1] at hN
    have HN := Lib.hid hN
    have w1 : IntKind.u64.wrap ((g : Int) - 1) = (g1 : Int) := by rw [IntKind.wrap_u64]; omega
    have w2 : IntKind.u64.wrap ((r : Int) + (v1 : Int)) = (r1 : Int) := by rw [IntKind.wrap_u64]; omega
    have hlt : g1 < g := by omega
    clear hG hN hg1 hr1 hgl
    go_wp2
    go_round
    case rel => exact ⟨g1, r1, rfl, rfl, HN⟩
    case measure => simp [intOf]; omega
   ·have hg' : ¬ (4294967296 : Int) ≤ (g : Int) := by omega
    obtain ⟨p, s, hp, hs, w1, w2, w3⟩ := guess_nums (by omega : g < 4294967296) hr bv2 b3
    by_cases hps : s < p
    ·have hps' : (s : Int) < (p : Int) := by omega
     obtain ⟨hN, hg0⟩ := hG.out.down HTp.out hr (.inr (by omega))
     obtain ⟨g1, hg1⟩ : ∃ x, g - 1 = x := ⟨_, rfl⟩
     obtain ⟨r1, hr1⟩ : ∃ x, r + v1 = x := ⟨_, rfl⟩
     rw [hg1, hr1] at hN
     have HN := Lib.hid hN
     have w4 : IntKind.u64.wrap ((g : Int) - 1) = (g1 : Int) := by rw [IntKind.wrap_u64]; omega
     have w5 : IntKind.u64.wrap ((r : Int) + (v1 : Int)) = (r1 : Int) := by rw [IntKind.wrap_u64]; omega
     have hlt : g1 < g := by omega
     clear hG hN hg1 hr1 hp hs
     go_wp2
     go_round
     case rel => exact ⟨g1, r1, rfl, rfl, HN⟩
     case measure => simp [intOf]; omega
    ·have hps' : ¬ (s : Int) < (p : Int) := by omega
     have D := hG.out.done HTp.out (.inr ⟨by omega, by omega⟩)
     have w4 : IntKind.u32.wrap (g : Int) = (g : Int) := by rw [IntKind.wrap_u32]; omega
     have HD := Lib.hid D
     clear hG D hp hs
     go_wp2
     go_ret
     exact ⟨g, HD.out.1, HD.out.2.1, HD.out.2.2, rfl, (Same.refl w).drewN _⟩
  ·have hr' : ¬ (r : Int) < 4294967296 := by omega
   have D := hG.out.done HTp.out (.inl (by omega))
   have hg2 : g < 4294967296 := D.1
   have w4 : IntKind.u32.wrap (g : Int) = (g : Int) := by rw [IntKind.wrap_u32]; omega
   have HD := Lib.hid D
   clear hG D
   go_wp2
   go_ret
   exact ⟨g, HD.out.1, HD.out.2.1, HD.out.2.2, rfl, (Same.refl w).drewN _⟩
end Go.Proofs.YtdajgcgliidjbaaGreat
namespace Go.Proofs.YtdajgcgliidjbaaGreat
open Go.RowKit
theorem pow_split {s : Nat} (h : s ≤ 32) : (4294967296 : Nat) = 2 ^ (32 - s) * 2 ^ s := by
 rw [← Nat.pow_add, show 32 - s + s = 32 from by omega]
theorem orU32' (k a c : Nat) (hc : c < 2 ^ k) (h : 2 ^ k * a + c < 4294967296) : bits .or .u32 (((2 ^ k * a : Nat) : Int)) (c : Int) = ((2 ^ k * a + c : Nat) : Int) := by
 rw [← orU32 k a c hc h]
 show IntKind.u32.wrap ((BitVec.ofInt 32 ((2 ^ k * a : Nat) : Int) ||| BitVec.ofInt 32 (c : Int)).toNat : Nat) = IntKind.u32.wrap ((BitVec.ofInt 32 (c : Int) ||| BitVec.ofInt 32 ((2 ^ k * a : Nat) : Int)).toNat : Nat)
 rw [BitVec.or_comm]
theorem up_step {x s c : Nat} (hx : x < 4294967296) (hs : s ≤ 31) (hc : c < 2 ^ s) : ∃ X lo hi o : Nat, (x : Int) * 2 ^ s = (X : Int) ∧ IntKind.u32.wrap (X : Int) = (lo : Int) ∧ (X : Int) % 4294967296 = (lo : Int) ∧ (x : Int) / 2 ^ (32 - s) = (hi : Int) ∧
  bits .or .u32 (lo : Int) (c : Int) = (o : Int) ∧ o < 4294967296 ∧ hi < 2 ^ s ∧ o + 4294967296 * hi = 2 ^ s * x + c := by
 have hp : 0 < 2 ^ s := Nat.pow_pos (by omega)
 have hq : 0 < 2 ^ (32 - s) := Nat.pow_pos (by omega)
 have e := pow_split (s := s) (by omega)
 have hm := Nat.mod_lt x hq
 have hd := Nat.div_add_mod x (2 ^ (32 - s))
 have hhi : x / 2 ^ (32 - s) < 2 ^ s := (Nat.div_lt_iff_lt_mul hq).2 (by rw [Nat.mul_comm, ← e]; exact hx)
 have hlo : 2 ^ s * x % 4294967296 = 2 ^ s * (x % 2 ^ (32 - s)) := by
  conv => lhs; rw [e, Nat.mul_comm (2 ^ (32 - s))]
  rw [Nat.mul_mod_mul_left]
 have hlt : 2 ^ s * (x % 2 ^ (32 - s)) + c < 4294967296 := by
  have : 2 ^ s * (x % 2 ^ (32 - s) + 1) ≤ 2 ^ s * 2 ^ (32 - s) := Nat.mul_le_mul_left _ hm
  rw [Nat.mul_add, Nat.mul_comm (2 ^ s) (2 ^ (32 - s)), ← e] at this
  omega
 refine ⟨2 ^ s * x, 2 ^ s * (x % 2 ^ (32 - s)), x / 2 ^ (32 - s), 2 ^ s * (x % 2 ^ (32 - s)) + c, by simp [Int.mul_comm], ?_, ?_, by simp, orU32' s _ c hc hlt, hlt, hhi, ?_⟩
 ·rw [IntKind.wrap_u32, ← hlo]; omega
 ·rw [← hlo]; omega
 ·have : 4294967296 * (x / 2 ^ (32 - s)) = 2 ^ s * (2 ^ (32 - s) * (x / 2 ^ (32 - s))) := by rw [← Nat.mul_assoc, Nat.mul_comm (2 ^ s), ← e]
  rw [this]
  have h2 : 2 ^ s * (x % 2 ^ (32 - s)) + 2 ^ s * (2 ^ (32 - s) * (x / 2 ^ (32 - s))) = 2 ^ s * x := by rw [← Nat.mul_add]; congr 1; omega
  omega
structure UpW (lx : List Nat) (s i c : Nat) (l : List Nat) : Prop where
 lim : W.Limbs l
 len : l.length = 81
 val : W.lV l + 4294967296 ^ i * c = 2 ^ s * W.lV (lx.take i)
 zero : ∀ k, i ≤ k → l.getD k 0 = 0
 cs : c < 2 ^ s
theorem UpW.start (lx : List Nat) (s : Nat) : UpW lx s 0 0 Z81 := ⟨Z81_lim, Z81_len, by rw [Z81_val]; simp [W.lV], fun k _ => Z81_getD k, Nat.pow_pos (by omega)⟩
theorem UpW.next {lx l : List Nat} {s i c o hi : Nat} (h : UpW lx s i c l) (hi81 : i < 81) (ho : o < 4294967296) (hh : hi < 2 ^ s) (hn : o + 4294967296 * hi = 2 ^ s * lx.getD i 0 + c) : UpW lx s (i + 1) hi (l.set i o) := by
 have hs := W.lV_set l i o (by rw [h.len]; exact hi81)
 refine ⟨h.lim.set _ ho, by rw [List.length_set]; exact h.len, ?_, fun k hk => by rw [W.getD_set_ne _ (by omega)]; exact h.zero k (by omega), hh⟩
 rw [h.zero i (Nat.le_refl _), Nat.mul_zero, Nat.add_zero] at hs
 have hv := h.val
 rw [W.lV_take_succ, hs, Nat.pow_succ, Nat.mul_assoc, Nat.mul_add]
 have e : 4294967296 ^ i * o + 4294967296 ^ i * (4294967296 * hi) = 4294967296 ^ i * (2 ^ s * lx.getD i 0) + 4294967296 ^ i * c := by
  rw [← Nat.mul_add, ← Nat.mul_add, hn]
 rw [Nat.mul_left_comm (2 ^ s)]
 omega
theorem UpW.done {lx l : List Nat} {s m c : Nat} (h : UpW lx s m c l) (hm : m < 81) (hs31 : s ≤ 31) (zx : ∀ k, m ≤ k → lx.getD k 0 = 0) :
  W.lV (l.set m c) = 2 ^ s * W.lV lx ∧ W.Limbs (l.set m c) ∧ (l.set m c).length = 81 ∧ ∀ k, m + 1 ≤ k → (l.set m c).getD k 0 = 0 := by
 have hs := W.lV_set l m c (by rw [h.len]; exact hm)
 rw [h.zero m (Nat.le_refl _), Nat.mul_zero, Nat.add_zero] at hs
 have hc := h.cs
 have : 2 ^ s ≤ 2 ^ 31 := Nat.pow_le_pow_right (by omega) hs31
 refine ⟨?_, h.lim.set _ (by omega), by rw [List.length_set]; exact h.len, fun k hk => by rw [W.getD_set_ne _ (by omega)]; exact h.zero k (by omega)⟩
 rw [hs, h.val, W.lV_take_all zx]
theorem shiftedUp_any (gx cx s : Nat) (lx : List Nat) (w : World) (hx : RowI w gx lx cx) (vx : RV lx cx) (hcx : cx ≤ 80) (hs : s ≤ 31) :
  Calls Tryz.prog 196 #[.pointer (some ⟨gx, 0, none⟩), .int .i64 (s : Int)] w (AggPost (fun l c => W.lV l = 2 ^ s * W.lV lx ∧ c ≤ cx + 1) w) := by
 obtain ⟨Z, hZ⟩ : ∃ Z, rowC Z81 0 = Z := ⟨_, rfl⟩
 have hz := zero_row.1
 rw [hZ] at hz
 have HZ := Lib.hid hZ
 have HX := Lib.hid hx
 have HVX := Lib.hid vx
 have ltx := hx.lt
 have HW := Work.start w HZ.out
 obtain ⟨x1, x2⟩ := (HX.out.below HW.b ltx).cnt
 have HW1 := Lib.hid HW
 have n1 : ¬ gx = w.heap.size + 1 := by omega
 clear hZ hx vx HW
 go_enter Tryz.func196, Tryz.ntmps196
 go_wp2
 clear x1 x2 hz
 go_loopw [6, 12] (fun cv iv wr => ∃ (i c : Nat) (l : List Nat), i ≤ cx ∧ iv = .int .i64 i ∧ cv = .int .u32 c ∧ Hid (UpW lx s i c l) ∧ Hid (Work w wr l 0)) (fun _ iv _ => cx - (intOf iv).toNat)
 case atStart => exact ⟨0, 0, Z81, Nat.zero_le _, rfl, rfl, UpW.start lx s, HW1⟩
 case round =>
  clear HW1
  obtain ⟨i, c, l, hicx, rfl, rfl, hI, hW⟩ := hrel
  by_cases hlt : i < cx
  ·have hlt' : (i : Int) < (cx : Int) := by omega
   obtain ⟨x1, _⟩ := (HX.out.below hW.out.b ltx).cell (k := i) (by omega)
   obtain ⟨z1, f1⟩ := hW.out.row.cell (k := i) (by omega)
   generalize l.getD i 0 = z at *
   have bx := W.getD_lt HVX.out.lim i
   obtain ⟨x, hx⟩ : ∃ x, lx.getD i 0 = x := ⟨_, rfl⟩
   rw [hx] at x1 bx
   obtain ⟨X, lo, hi, o, e1, e2, e3, e4, e5, e6, e7, e8⟩ := up_step bx hs hI.out.cs
   have HN := Lib.hid (hI.out.next (by omega) e6 e7 (by rw [hx]; exact e8))
   have HW3 := Lib.hid (hW.out.set (k := i) o (by omega))
   have d1 : (i : Int) < 81 := by omega
   have d2 : (s : Int) ≤ 32 := by omega
   have d3 : (32 : Int) - (s : Int) = ((32 - s : Nat) : Int) := by omega
   obtain ⟨t, ht⟩ : ∃ t, 32 - s = t := ⟨_, rfl⟩
   rw [ht] at d3 e4
   have d4 : (t : Int) ≤ 32 := by omega
   have d5 : t ≤ 32 := by omega
   have d6 : s ≤ 32 := by omega
   clear hx hI hW e6 e7 e8 ht
   go_wp2
   go_roundw
   case rel => exact ⟨i + 1, hi, l.set i o, by omega, by go_num, rfl, HN, HW3⟩
   case measure => simp [intOf]; omega
  ·obtain rfl : i = cx := by omega
   have hlt' : ¬ (i : Int) < (i : Int) := by omega
   obtain ⟨r1, f1⟩ := hW.out.row.cell (k := i) (by omega)
   generalize l.getD i 0 = z at *
   obtain ⟨x1, _⟩ := (HX.out.below hW.out.b ltx).cnt
   obtain ⟨D1, D2, D3, D4⟩ := hI.out.done (by omega) hs HVX.out.zero
   have HW2 := Lib.hid (hW.out.set (k := i) c (by omega))
   obtain ⟨x2, _⟩ := (HX.out.below HW2.out.b ltx).cnt
   obtain ⟨E, hE⟩ : ∃ E, i + 1 = E := ⟨_, rfl⟩
   rw [hE] at D4
   have HC := Lib.hid (countBelow_any (w.heap.size + 1) 0 E (l.set i c) _ HW2.out.row (by omega))
   have HR := Lib.hid (fun k (h : CountRel (l.set i c) E k) => And.intro (h.right D2 D4) h.le)
   have HD1 := Lib.hid D1
   have HD3 := Lib.hid D3
   have e1 : (i : Int) + 1 = (E : Int) := by omega
   have d1 : (i : Int) < 81 := by omega
   have hE2 : E ≤ i + 1 := by omega
   clear D1 D2 D3 D4 hI hW hE
   generalize l.set i c = l2 at *
   go_wp2_with fail
   refine HC.out.mono ?_
   rintro e w1 ⟨cc, hcc, rfl, rfl⟩
   have HW4 := Lib.hid (HW2.out.setC cc)
   have HV := Lib.hid (HR.out cc hcc)
   clear HC HW2 HR hcc x1 x2
   generalize (wr.setCell ⟨w.heap.size + 1, i, none⟩ (.int .u32 (c : Int))).setCell ⟨w.heap.size + 1, 81, none⟩ (.int .i64 (cc : Int)) = w2 at *
   have HB := Lib.hid (below_setRow HW4.out.b (Nat.le_refl _) (rowC l2 cc))
   have HO := Lib.hid (HW4.out.out.stored (c' := cc) HD3.out)
   go_wp2_with (first | refine load_at rfl (.tmp 5) rfl (w.heap.size + 1) l2 cc rfl HW4.out.row ?_ | refine store_at rfl (.tmp 4) (.tmp 51) rfl w.heap.size Z81 l2 0 cc rfl rfl HW4.out.out HD3.out ?_)
   exact bodyPost_ret (HO.out.result Tryz.results196 _ rfl) rfl ⟨l2, cc, rfl, HD3.out, HV.out.1, ⟨HD1.out, by have := HV.out.2; omega⟩, HB.out⟩
theorem down_step {x y s : Nat} (hx : x < 4294967296) (hs : s ≤ 31) : ∃ A Y B o : Nat, (x : Int) / 2 ^ s = (A : Int) ∧ (y : Int) * 2 ^ (32 - s) = (Y : Int) ∧ IntKind.u32.wrap (Y : Int) = (B : Int) ∧ (Y : Int) % 4294967296 = (B : Int) ∧
  bits .or .u32 (A : Int) (B : Int) = (o : Int) ∧ o < 4294967296 ∧ 2 ^ s * o + x % 2 ^ s = x + 4294967296 * (y % 2 ^ s) := by
 have hp : 0 < 2 ^ s := Nat.pow_pos (by omega)
 have hq : 0 < 2 ^ (32 - s) := Nat.pow_pos (by omega)
 have e := pow_split (s := s) (by omega)
 have hA : x / 2 ^ s < 2 ^ (32 - s) := (Nat.div_lt_iff_lt_mul hp).2 (by rw [← e]; exact hx)
 have hB : 2 ^ (32 - s) * y % 4294967296 = 2 ^ (32 - s) * (y % 2 ^ s) := by
  conv => lhs; rw [e]
  rw [Nat.mul_mod_mul_left]
 have hm := Nat.mod_lt y hp
 have hlt : 2 ^ (32 - s) * (y % 2 ^ s) + x / 2 ^ s < 4294967296 := by
  have : 2 ^ (32 - s) * (y % 2 ^ s + 1) ≤ 2 ^ (32 - s) * 2 ^ s := Nat.mul_le_mul_left _ hm
  rw [Nat.mul_add, ← e] at this
  omega
 refine ⟨x / 2 ^ s, 2 ^ (32 - s) * y, 2 ^ (32 - s) * (y % 2 ^ s), 2 ^ (32 - s) * (y % 2 ^ s) + x / 2 ^ s, by simp, by simp [Int.mul_comm], ?_, ?_, orU32 (32 - s) _ _ hA hlt, hlt, ?_⟩
 ·rw [IntKind.wrap_u32, ← hB]; omega
 ·rw [← hB]; omega
 ·have h1 : 2 ^ s * (2 ^ (32 - s) * (y % 2 ^ s)) = 4294967296 * (y % 2 ^ s) := by rw [← Nat.mul_assoc, Nat.mul_comm (2 ^ s), ← e]
  have h2 := Nat.div_add_mod x (2 ^ s)
  rw [Nat.mul_add, h1]
  omega
structure DnW (lx : List Nat) (s i : Nat) (l : List Nat) : Prop where
 lim : W.Limbs l
 len : l.length = 81
 val : 2 ^ s * W.lV l + lx.getD 0 0 % 2 ^ s = W.lV (lx.take i) + 4294967296 ^ i * (lx.getD i 0 % 2 ^ s)
 zero : ∀ k, i ≤ k → l.getD k 0 = 0
theorem DnW.start (lx : List Nat) (s : Nat) : DnW lx s 0 Z81 := ⟨Z81_lim, Z81_len, by rw [Z81_val]; simp [W.lV], fun k _ => Z81_getD k⟩
theorem DnW.next {lx l : List Nat} {s i o : Nat} (h : DnW lx s i l) (hi81 : i < 81) (ho : o < 4294967296) (hn : 2 ^ s * o + lx.getD i 0 % 2 ^ s = lx.getD i 0 + 4294967296 * (lx.getD (i + 1) 0 % 2 ^ s)) : DnW lx s (i + 1) (l.set i o) := by
 have hs := W.lV_set l i o (by rw [h.len]; exact hi81)
 refine ⟨h.lim.set _ ho, by rw [List.length_set]; exact h.len, ?_, fun k hk => by rw [W.getD_set_ne _ (by omega)]; exact h.zero k (by omega)⟩
 rw [h.zero i (Nat.le_refl _), Nat.mul_zero, Nat.add_zero] at hs
 have hv := h.val
 rw [W.lV_take_succ, hs, Nat.pow_succ, Nat.mul_assoc, Nat.mul_add, Nat.mul_left_comm (2 ^ s)]
 have e : 4294967296 ^ i * (2 ^ s * o) + 4294967296 ^ i * (lx.getD i 0 % 2 ^ s) = 4294967296 ^ i * lx.getD i 0 + 4294967296 ^ i * (4294967296 * (lx.getD (i + 1) 0 % 2 ^ s)) := by
  rw [← Nat.mul_add, ← Nat.mul_add, hn]
 omega
theorem DnW.done {lx l : List Nat} {s m : Nat} (h : DnW lx s m l) (zx : ∀ k, m ≤ k → lx.getD k 0 = 0) : W.lV l = W.lV lx / 2 ^ s := by
 have hv := h.val
 have hp : 0 < 2 ^ s := Nat.pow_pos (by omega)
 rw [zx m (Nat.le_refl _), Nat.zero_mod, Nat.mul_zero, Nat.add_zero, W.lV_take_all zx] at hv
 rw [← hv, Nat.mul_add_div hp, Nat.div_eq_of_lt (Nat.mod_lt _ hp)]; rfl
theorem shiftedDown_any (gx cx s : Nat) (lx : List Nat) (w : World) (hx : RowI w gx lx cx) (vx : RV lx cx) (hcx : cx ≤ 80) (hs : s ≤ 31) :
  Calls Tryz.prog 162 #[.pointer (some ⟨gx, 0, none⟩), .int .i64 (s : Int)] w (AggPost (fun l c => W.lV l = W.lV lx / 2 ^ s ∧ c ≤ cx) w) := by
 obtain ⟨Z, hZ⟩ : ∃ Z, rowC Z81 0 = Z := ⟨_, rfl⟩
 have hz := zero_row.1
 rw [hZ] at hz
 have HZ := Lib.hid hZ
 have HX := Lib.hid hx
 have HVX := Lib.hid vx
 have ltx := hx.lt
 have HW := Work.start w HZ.out
 obtain ⟨x1, x2⟩ := (HX.out.below HW.b ltx).cnt
 have HW1 := Lib.hid HW
 have n1 : ¬ gx = w.heap.size + 1 := by omega
 clear hZ hx vx HW
 go_enter Tryz.func162, Tryz.ntmps162
 go_wp2
 clear x1 x2 hz
 go_loopw [11] (fun iv wr => ∃ (i : Nat) (l : List Nat), i ≤ cx ∧ iv = .int .i64 i ∧ Hid (DnW lx s i l) ∧ Hid (Work w wr l 0)) (fun iv _ => cx - (intOf iv).toNat)
 case atStart => exact ⟨0, Z81, Nat.zero_le _, rfl, DnW.start lx s, HW1⟩
 case round =>
  clear HW1
  obtain ⟨i, l, hicx, rfl, hI, hW⟩ := hrel
  by_cases hlt : i < cx
  ·have hlt' : (i : Int) < (cx : Int) := by omega
   obtain ⟨x1, _⟩ := (HX.out.below hW.out.b ltx).cell (k := i) (by omega)
   obtain ⟨y1, _⟩ := (HX.out.below hW.out.b ltx).cell (k := i + 1) (by omega)
   obtain ⟨z1, f1⟩ := hW.out.row.cell (k := i) (by omega)
   generalize l.getD i 0 = z at *
   have bx := W.getD_lt HVX.out.lim i
   obtain ⟨A, Y, B, o, e1, e2, e3, e4, e5, e6, e7⟩ := down_step (y := lx.getD (i + 1) 0) bx hs
   have HN := Lib.hid (hI.out.next (by omega) e6 e7)
   generalize lx.getD i 0 = x at *
   generalize lx.getD (i + 1) 0 = y at *
   have HW2 := hW.out.drewN 1
   have HW3 := Lib.hid (HW2.set (k := i) o (by omega))
   have d1 : (i : Int) < 81 := by omega
   have d2 : (s : Int) ≤ 32 := by omega
   obtain ⟨t, ht⟩ : ∃ t, 32 - s = t := ⟨_, rfl⟩
   have d3 : IntKind.i64.wrap ((32 : Int) - (s : Int)) = (t : Int) := by rw [IntWalk.i64_in _ (by omega)]; omega
   rw [ht] at e2
   have d4 : (t : Int) ≤ 32 := by omega
   have d5 : t ≤ 32 := by omega
   have d6 : s ≤ 32 := by omega
   have j1 : (i : Int) + 1 < 81 := by omega
   have j2 : ((i : Int) + 1).toNat = i + 1 := by omega
   have wI : IntKind.i64.wrap ((i : Int) + 1) = (i : Int) + 1 := IntWalk.i64_in _ (by omega)
   have pI : 0 ≤ (i : Int) + 1 := by omega
   have p0 : (0 : Int) ≤ (i : Int) := by omega
   have p1 : (0 : Int) ≤ (s : Int) := by omega
   have p2 : (0 : Int) ≤ (t : Int) := by omega
   clear hI hW e6 e7 ht HW2
   go_wp2_with fail
   go_still_tail 22, (by kernel_rfl)
   change wpList _ _ _ _ _ wr.drew
   change Hid (Work w (wr.drew.setCell _ _) (l.set i o) 0) at HW3
   change wr.drew.cell? _ = _ at z1
   change wr.drew.frozen? _ = _ at f1
   clear x1 y1 e1 e2 e3 e4 e5 d3 wI
   generalize wr.drew = wr at *
   go_wp2
   go_roundw
   case rel => exact ⟨i + 1, l.set i o, by omega, by go_num, HN, HW3⟩
   case measure => simp [intOf]; omega
  ·obtain rfl : i = cx := by omega
   have hlt' : ¬ (i : Int) < (i : Int) := by omega
   have HD1 := Lib.hid (hI.out.done HVX.out.zero)
   have HD3 := Lib.hid hI.out.len
   have HW2 := hW
   have HC := Lib.hid (countBelow_any (w.heap.size + 1) 0 i l _ HW2.out.row (by omega))
   have HR := Lib.hid (fun k (h : CountRel l i k) => And.intro (h.right hI.out.lim hI.out.zero) h.le)
   obtain ⟨x1, x2⟩ := (HX.out.below hW.out.b ltx).cnt
   clear hI hW
   go_wp2_with fail
   refine HC.out.mono ?_
   rintro e w1 ⟨cc, hcc, rfl, rfl⟩
   have HW4 := Lib.hid (HW2.out.setC cc)
   have HV := Lib.hid (HR.out cc hcc)
   clear HC HW2 HR hcc x1 x2
   generalize (wr).setCell ⟨w.heap.size + 1, 81, none⟩ (.int .i64 (cc : Int)) = w2 at *
   have HB := Lib.hid (below_setRow HW4.out.b (Nat.le_refl _) (rowC l cc))
   have HO := Lib.hid (HW4.out.out.stored (c' := cc) HD3.out)
   go_wp2_with (first | refine load_at rfl (.tmp 5) rfl (w.heap.size + 1) l cc rfl HW4.out.row ?_ | refine store_at rfl (.tmp 4) (.tmp 42) rfl w.heap.size Z81 l 0 cc rfl rfl HW4.out.out HD3.out ?_)
   exact bodyPost_ret (HO.out.result Tryz.results162 _ rfl) rfl ⟨l, cc, rfl, HD3.out, HV.out.1, ⟨HD1.out, by have := HV.out.2; omega⟩, HB.out⟩
end Go.Proofs.YtdajgcgliidjbaaGreat

import Derived.Test.YtdajgcgliidjbaaGreatIDivR
import Derived.Test.YtdajgcgliidjbaaGreatILow
import Derived.Test.YtdajgcgliidjbaaGreatJCmp
set_option maxRecDepth 8000
set_option maxHeartbeats 4000000
namespace Go.Proofs.YtdajgcgliidjbaaGreat
open Go.RowKit
theorem row_new (w : World) {l : List Nat} (c : Nat) (h : l.length = 81) : RowI (w.alloc (.cells (rowC l c) 100)) w.heap.size l c := ⟨h, heap_alloc_new w _⟩
theorem below_new (w : World) (o : Obj) : Below w.heap.size w (w.alloc o) := (Below.refl _ _).alloc (Nat.le_refl _) _
theorem RowI.alloc {w : World} {g c : Nat} {l : List Nat} (h : RowI w g l c) (o : Obj) : RowI (w.alloc o) g l c := h.below (below_new w o) h.lt
structure Box4 (w wr : World) (lx : List Nat) (cx : Nat) (ly : List Nat) (cy : Nat) (lp : List Nat) (cp : Nat) : Prop where
 x : RowI wr w.heap.size lx cx
 y : RowI wr (w.heap.size + 1) ly cy
 p : RowI wr (w.heap.size + 2) lp cp
 out : RowI wr (w.heap.size + 3) Z81 0
 b : Below w.heap.size w wr
theorem Box4.start (w : World) {Z : Array Value} (hZ : rowC Z81 0 = Z) {lx ly lp : List Nat} {cx cy cp : Nat} (hx : lx.length = 81) (hy : ly.length = 81) (hp : lp.length = 81) :
  Box4 w ((((w.alloc (.cells (rowC lx cx) 100)).alloc (.cells (rowC ly cy) 100)).alloc (.cells (rowC lp cp) 100)).alloc (.cells Z 100)) lx cx ly cy lp cp := by
 subst hZ
 have r1 := row_new w cx hx
 have b1 := below_new w (.cells (rowC lx cx) 100)
 have s1 : (w.alloc (.cells (rowC lx cx) 100)).heap.size = w.heap.size + 1 := by simp
 generalize w.alloc (.cells (rowC lx cx) 100) = w1 at *
 have r2 := row_new w1 cy hy
 have b2 := below_new w1 (.cells (rowC ly cy) 100)
 have s2 : (w1.alloc (.cells (rowC ly cy) 100)).heap.size = w1.heap.size + 1 := by simp
 have q1 := r1.below b2 r1.lt
 generalize w1.alloc (.cells (rowC ly cy) 100) = w2 at *
 have r3 := row_new w2 cp hp
 have b3 := below_new w2 (.cells (rowC lp cp) 100)
 have s3 : (w2.alloc (.cells (rowC lp cp) 100)).heap.size = w2.heap.size + 1 := by simp
 have p1 := q1.below b3 q1.lt
 have p2 := r2.below b3 r2.lt
 generalize w2.alloc (.cells (rowC lp cp) 100) = w3 at *
 have r4 := row_new w3 0 Z81_len
 have b4 := below_new w3 (.cells (rowC Z81 0) 100)
 have o1 := p1.below b4 p1.lt
 have o2 := p2.below b4 p2.lt
 have o3 := r3.below b4 r3.lt
 rw [s1] at o2
 rw [s2, s1] at o3
 rw [s3, s2, s1] at r4
 exact ⟨o1, o2, o3, r4, bt (bt (bt b1 b2) b3) b4⟩
theorem Box4.on {w wr w' : World} {lx ly lp : List Nat} {cx cy cp : Nat} (h : Box4 w wr lx cx ly cy lp cp) (b : Below wr.heap.size wr w') : Box4 w w' lx cx ly cy lp cp :=
 ⟨h.x.below b h.x.lt, h.y.below b h.y.lt, h.p.below b h.p.lt, h.out.below b h.out.lt, bt h.b b⟩
theorem var_set (w : World) {Z : Array Value} (hZ : rowC Z81 0 = Z) {l : List Nat} {c : Nat} (hl : l.length = 81) :
  RowI ((w.alloc (.cells Z 100)).setRow w.heap.size (rowC l c)) w.heap.size l c ∧ Below w.heap.size w ((w.alloc (.cells Z 100)).setRow w.heap.size (rowC l c)) := by
 have h := one_var w hZ
 exact ⟨h.1.stored hl, below_setRow h.2 (Nat.le_refl _) _⟩
theorem cnt_40 {l : List Nat} {c : Nat} (h : RV l c) (hv : W.lV l < GB) : c ≤ 40 := h.cnt_le (by rw [← GB_40]; exact hv)
theorem sumOfRests_any (lx ly lp : List Nat) (cx cy cp : Nat) (w : World) (hx : lx.length = 81) (hy : ly.length = 81) (hp : lp.length = 81) (vx : RV lx cx) (vy : RV ly cy) (vp : RV lp cp) (hxp : W.lV lx < W.lV lp) (hyp : W.lV ly < W.lV lp) (hG : W.lV lp < GB) :
  Calls Tryz.prog 151 #[.agg (rowC lx cx), .agg (rowC ly cy), .agg (rowC lp cp)] w (AggPost (fun l _ => W.lV l = (W.lV lx + W.lV ly) % W.lV lp) w) := by
 obtain ⟨Z, hZ⟩ : ∃ Z, rowC Z81 0 = Z := ⟨_, rfl⟩
 have hz := zero_row.1
 rw [hZ] at hz
 have HZ := Lib.hid hZ
 have cx40 := cnt_40 vx (Nat.lt_trans hxp hG)
 have cy40 := cnt_40 vy (Nat.lt_trans hyp hG)
 have cp40 := cnt_40 vp hG
 have HB0 := Lib.hid (Box4.start w (cx := cx) (cy := cy) (cp := cp) HZ.out hx hy hp)
 have HVX := Lib.hid vx
 have HVY := Lib.hid vy
 have HVP := Lib.hid vp
 have HL := Lib.hid (And.intro hx (And.intro hy hp))
 have HXP := Lib.hid hxp
 have HYP := Lib.hid hyp
 clear hZ vx vy vp hx hy hp hxp hyp hG
 go_enter Tryz.func151, Tryz.ntmps151
 go_wp2_with fail
 generalize World.alloc _ (.cells Z 100) = w1 at *
 refine (addRows_any _ _ _ _ _ _ _ HB0.out.x HB0.out.y HVX.out HVY.out (by omega) (by omega)).mono ?_
 rintro e w2 ⟨l, c, rfl, hl, v, ⟨hv, hc⟩, b2⟩
 have HB2 := Lib.hid (HB0.out.on b2)
 have HV1 := Lib.hid (one_var w2 HZ.out)
 have HVS := Lib.hid (var_set w2 (c := c) HZ.out hl)
 have HLn := Lib.hid hl
 have HVV := Lib.hid v
 have HVL := Lib.hid hv
 clear b2 HB0 hl v hv
 go_wp2_with (refine store_at rfl (.tmp 7) (.tmp 8) rfl w2.heap.size Z81 l 0 c rfl rfl HV1.out.1 HLn.out ?_)
 generalize World.setRow _ _ _ = w3 at *
 have HB3 := Lib.hid (HB2.out.on HVS.out.2)
 have HR3 := Lib.hid HVS.out.1
 clear HVS HV1 HB2
 refine (compareRows_any _ _ _ _ _ _ _ HR3.out HB3.out.p HVV.out HVP.out (by omega) (by omega)).mono ?_
 rintro e w4 ⟨rfl, b4⟩
 have HB4 := Lib.hid (HB3.out.on b4)
 have HR4 := Lib.hid (HR3.out.below b4 HR3.out.lt)
 rw [HVL.out]
 clear b4 HB3 HR3
 by_cases hlt : W.lV lx + W.lV ly < W.lV lp
 ·have h1 : cmpI (W.lV lx + W.lV ly) (W.lV lp) = -1 := by unfold cmpI; rw [if_pos hlt]
  rw [h1]
  have HE : Hid (W.lV l = (W.lV lx + W.lV ly) % W.lV lp) := by show _ = _; rw [HVL.out, Nat.mod_eq_of_lt hlt]
  have HO := Lib.hid (HB4.out.out.stored (c' := c) HLn.out)
  have HBB := Lib.hid (below_setRow HB4.out.b (show w.heap.size ≤ w.heap.size + 3 by omega) (rowC l c))
  clear h1 hlt
  go_wp2_with (first | refine load_at rfl (.tmp 7) rfl w2.heap.size l c rfl HR4.out ?_ | refine store_at rfl (.tmp 6) (.tmp 11) rfl (w.heap.size + 3) Z81 l 0 c rfl rfl HB4.out.out HLn.out ?_)
  exact bodyPost_ret (HO.out.result Tryz.results151 _ rfl) rfl ⟨l, c, rfl, HLn.out, HVV.out, HE.out, HBB.out⟩
 ·have h1 : ¬ cmpI (W.lV lx + W.lV ly) (W.lV lp) < 0 := by unfold cmpI; rw [if_neg hlt]; split <;> decide
  have HE : Hid (W.lV lx + W.lV ly - W.lV lp = (W.lV lx + W.lV ly) % W.lV lp) := by
   show _ = _
   have := HXP.out
   have := HYP.out
   rw [Nat.mod_eq_sub_mod (by omega), Nat.mod_eq_of_lt (by omega)]
  have HLE : Hid (W.lV lp ≤ W.lV l) := by show _ ≤ _; rw [HVL.out]; omega
  generalize cmpI (W.lV lx + W.lV ly) (W.lV lp) = kk at *
  have c79 : c ≤ 79 := by
   refine HVV.out.cnt_le ?_
   rw [HVL.out]
   have a1 := HXP.out
   have a2 := HYP.out
   have a3 := HVP.out.lt
   have a4 : (4294967296 : Nat) ^ cp * 2 ≤ 4294967296 ^ 79 := by
    have : (4294967296 : Nat) ^ cp * 4294967296 ^ 1 ≤ 4294967296 ^ 79 := by rw [← Nat.pow_add]; exact Nat.pow_le_pow_right (by omega) (by omega)
    omega
   omega
  clear hlt
  go_wp2_with fail
  refine (subRows_any _ _ _ _ _ _ _ HR4.out HB4.out.p HVV.out HVP.out c79 (by omega) HLE.out).mono ?_
  rintro e w5 ⟨l2, c2, rfl, hl2, v2, hv2, b5⟩
  have HB5 := Lib.hid (HB4.out.on b5)
  have HO := Lib.hid (HB5.out.out.stored (c' := c2) hl2)
  have HBB := Lib.hid (below_setRow HB5.out.b (show w.heap.size ≤ w.heap.size + 3 by omega) (rowC l2 c2))
  have HL2 := Lib.hid hl2
  have HV2 := Lib.hid (And.intro v2 hv2)
  clear b5 hl2 v2 hv2 HB4 HR4
  go_wp2_with (first | refine store_at rfl (.tmp 6) (.tmp 12) rfl (w.heap.size + 3) Z81 l2 0 c2 rfl rfl HB5.out.out HL2.out ?_)
  exact bodyPost_ret (HO.out.result Tryz.results151 _ rfl) rfl ⟨l2, c2, rfl, HL2.out, HV2.out.1, (HV2.out.2.1.trans (by rw [HVL.out])).trans HE.out, HBB.out⟩
theorem sub_rest1 {x y n : Nat} (hx : x < n) (h : y ≤ x) : x - y = (x + n - y) % n := by
 rw [show x + n - y = x - y + n from by omega, Nat.add_mod_right, Nat.mod_eq_of_lt (by omega)]
theorem sub_rest2 {x y n : Nat} (hy : y < n) (h : x < y) : x + n - y = (x + n - y) % n := by
 rw [Nat.mod_eq_of_lt (by omega)]
theorem differenceOfRests_any (lx ly lp : List Nat) (cx cy cp : Nat) (w : World) (hx : lx.length = 81) (hy : ly.length = 81) (hp : lp.length = 81) (vx : RV lx cx) (vy : RV ly cy) (vp : RV lp cp) (hxp : W.lV lx < W.lV lp) (hyp : W.lV ly < W.lV lp) (hG : W.lV lp < GB) :
  Calls Tryz.prog 149 #[.agg (rowC lx cx), .agg (rowC ly cy), .agg (rowC lp cp)] w (AggPost (fun l _ => W.lV l = (W.lV lx + W.lV lp - W.lV ly) % W.lV lp) w) := by
 obtain ⟨Z, hZ⟩ : ∃ Z, rowC Z81 0 = Z := ⟨_, rfl⟩
 have hz := zero_row.1
 rw [hZ] at hz
 have HZ := Lib.hid hZ
 have cx40 := cnt_40 vx (Nat.lt_trans hxp hG)
 have cy40 := cnt_40 vy (Nat.lt_trans hyp hG)
 have cp40 := cnt_40 vp hG
 have HB0 := Lib.hid (Box4.start w (cx := cx) (cy := cy) (cp := cp) HZ.out hx hy hp)
 have HVX := Lib.hid vx
 have HVY := Lib.hid vy
 have HVP := Lib.hid vp
 have HXP := Lib.hid hxp
 have HYP := Lib.hid hyp
 clear hZ vx vy vp hx hy hp hxp hyp hG
 go_enter Tryz.func149, Tryz.ntmps149
 go_wp2_with fail
 generalize World.alloc _ (.cells Z 100) = w1 at *
 refine (compareRows_any _ _ _ _ _ _ _ HB0.out.x HB0.out.y HVX.out HVY.out (by omega) (by omega)).mono ?_
 rintro e w2 ⟨rfl, b2⟩
 have HB2 := Lib.hid (HB0.out.on b2)
 clear b2 HB0
 by_cases hle : W.lV ly ≤ W.lV lx
 ·have h1 : 0 ≤ cmpI (W.lV lx) (W.lV ly) := by unfold cmpI; rw [if_neg (by omega)]; split <;> decide
  have HE := Lib.hid (sub_rest1 HXP.out hle)
  have HLE := Lib.hid hle
  generalize cmpI (W.lV lx) (W.lV ly) = kk at *
  clear hle
  go_wp2_with fail
  refine (subRows_any _ _ _ _ _ _ _ HB2.out.x HB2.out.y HVX.out HVY.out (by omega) (by omega) HLE.out).mono ?_
  rintro e w5 ⟨l2, c2, rfl, hl2, v2, hv2, b5⟩
  have HB5 := Lib.hid (HB2.out.on b5)
  have HO := Lib.hid (HB5.out.out.stored (c' := c2) hl2)
  have HBB := Lib.hid (below_setRow HB5.out.b (show w.heap.size ≤ w.heap.size + 3 by omega) (rowC l2 c2))
  have HL2 := Lib.hid hl2
  have HV2 := Lib.hid (And.intro v2 hv2)
  clear b5 hl2 v2 hv2 HB2
  go_wp2_with (first | refine store_at rfl (.tmp 6) (.tmp 10) rfl (w.heap.size + 3) Z81 l2 0 c2 rfl rfl HB5.out.out HL2.out ?_)
  exact bodyPost_ret (HO.out.result Tryz.results149 _ rfl) rfl ⟨l2, c2, rfl, HL2.out, HV2.out.1, HV2.out.2.1.trans HE.out, HBB.out⟩
 ·have h1 : ¬ 0 ≤ cmpI (W.lV lx) (W.lV ly) := by unfold cmpI; rw [if_pos (by omega)]; decide
  have HE := Lib.hid (sub_rest2 (x := W.lV lx) HYP.out (by omega))
  generalize cmpI (W.lV lx) (W.lV ly) = kk at *
  clear hle
  go_wp2_with fail
  refine (addRows_any _ _ _ _ _ _ _ HB2.out.x HB2.out.p HVX.out HVP.out (by omega) (by omega)).mono ?_
  rintro e w3 ⟨l, c, rfl, hl, v, ⟨hv, hc⟩, b3⟩
  have HB3 := Lib.hid (HB2.out.on b3)
  have HV1 := Lib.hid (one_var w3 HZ.out)
  have HVS := Lib.hid (var_set w3 (c := c) HZ.out hl)
  have c79 : c ≤ 79 := by
   refine v.cnt_le ?_
   rw [hv]
   have a1 := HXP.out
   have a3 := HVP.out.lt
   have a4 : (4294967296 : Nat) ^ cp * 2 ≤ 4294967296 ^ 79 := by
    have : (4294967296 : Nat) ^ cp * 4294967296 ^ 1 ≤ 4294967296 ^ 79 := by rw [← Nat.pow_add]; exact Nat.pow_le_pow_right (by omega) (by omega)
    omega
   omega
  have HLE : Hid (W.lV ly ≤ W.lV l) := by show _ ≤ _; rw [hv]; have := HYP.out; omega
  have HLn := Lib.hid hl
  have HVV := Lib.hid v
  have HVL := Lib.hid hv
  clear b3 HB2 hl v hv
  go_wp2_with (refine store_at rfl (.tmp 7) (.tmp 11) rfl w3.heap.size Z81 l 0 c rfl rfl HV1.out.1 HLn.out ?_)
  generalize World.setRow _ _ _ = w4 at *
  have HB4 := Lib.hid (HB3.out.on HVS.out.2)
  have HR4 := Lib.hid HVS.out.1
  clear HVS HV1 HB3
  refine (subRows_any _ _ _ _ _ _ _ HR4.out HB4.out.y HVV.out HVY.out c79 (by omega) HLE.out).mono ?_
  rintro e w5 ⟨l2, c2, rfl, hl2, v2, hv2, b5⟩
  have HB5 := Lib.hid (HB4.out.on b5)
  have HO := Lib.hid (HB5.out.out.stored (c' := c2) hl2)
  have HBB := Lib.hid (below_setRow HB5.out.b (show w.heap.size ≤ w.heap.size + 3 by omega) (rowC l2 c2))
  have HL2 := Lib.hid hl2
  have HV2 := Lib.hid (And.intro v2 hv2)
  clear b5 hl2 v2 hv2 HB4 HR4
  go_wp2_with (first | refine store_at rfl (.tmp 6) (.tmp 12) rfl (w.heap.size + 3) Z81 l2 0 c2 rfl rfl HB5.out.out HL2.out ?_)
  exact bodyPost_ret (HO.out.result Tryz.results149 _ rfl) rfl ⟨l2, c2, rfl, HL2.out, HV2.out.1, (HV2.out.2.1.trans (by rw [HVL.out])).trans HE.out, HBB.out⟩
theorem productOfRests_any (lx ly lp : List Nat) (cx cy cp : Nat) (w : World) (hx : lx.length = 81) (hy : ly.length = 81) (hp : lp.length = 81) (vx : RV lx cx) (vy : RV ly cy) (vp : RV lp cp) (hxG : W.lV lx < GB) (hyG : W.lV ly < GB) (h0 : 0 < W.lV lp) (hG : W.lV lp < GB) :
  Calls Tryz.prog 150 #[.agg (rowC lx cx), .agg (rowC ly cy), .agg (rowC lp cp)] w (AggPost (fun l _ => W.lV l = W.lV lx * W.lV ly % W.lV lp) w) := by
 obtain ⟨Z, hZ⟩ : ∃ Z, rowC Z81 0 = Z := ⟨_, rfl⟩
 have hz := zero_row.1
 rw [hZ] at hz
 have HZ := Lib.hid hZ
 have cx40 := cnt_40 vx hxG
 have cy40 := cnt_40 vy hyG
 have cp40 := cnt_40 vp hG
 have HB0 := Lib.hid (Box4.start w (cx := cx) (cy := cy) (cp := cp) HZ.out hx hy hp)
 have HVX := Lib.hid vx
 have HVY := Lib.hid vy
 have HVP := Lib.hid vp
 have H0 := Lib.hid h0
 clear hZ vx vy vp hx hy hp hxG hyG hG h0
 go_enter Tryz.func150, Tryz.ntmps150
 go_wp2_with fail
 generalize World.alloc _ (.cells Z 100) = w1 at *
 refine (mulRows_any _ _ _ _ _ _ _ HB0.out.x HB0.out.y HVX.out HVY.out (by omega) (by omega)).mono ?_
 rintro e w2 ⟨l, c, rfl, hl, v, ⟨hv, hc⟩, b2⟩
 have HB2 := Lib.hid (HB0.out.on b2)
 have HV1 := Lib.hid (one_var w2 HZ.out)
 have HVS := Lib.hid (var_set w2 (c := c) HZ.out hl)
 have HLn := Lib.hid hl
 have HVV := Lib.hid v
 have HVL := Lib.hid hv
 clear b2 HB0 hl v hv
 go_wp2_with (refine store_at rfl (.tmp 7) (.tmp 10) rfl w2.heap.size Z81 l 0 c rfl rfl HV1.out.1 HLn.out ?_)
 generalize World.setRow _ _ _ = w3 at *
 have HB3 := Lib.hid (HB2.out.on HVS.out.2)
 have HR3 := Lib.hid HVS.out.1
 clear HVS HV1 HB2
 refine (divRows_any _ _ _ _ _ _ _ HR3.out HB3.out.p HVV.out HVP.out (by omega) H0.out).mono ?_
 rintro e w4 ⟨lq, cq, lr, cr, rfl, h1, h2, h3, h4, h5, h6, h7, h8, b4⟩
 have HB4 := Lib.hid (HB3.out.on b4)
 have HQ1 := Lib.hid h1
 have HQ2 := Lib.hid h2
 have HS2 := Lib.hid (Work.start w4 HZ.out)
 have R := Lib.hid (And.intro h4 h6)
 clear b4 HB3 HR3 h1 h2 h3 h4 h5 h6 h7 h8
 have HVs := Lib.hid (Vars.of (cx := cq) (cy := cr) HS2.out HQ1.out HQ2.out)
 have HB5 := Lib.hid (HB4.out.on HVs.out.b)
 have HO := Lib.hid (HB5.out.out.stored (c' := cr) HQ2.out)
 have HBB := Lib.hid (below_setRow HB5.out.b (show w.heap.size ≤ w.heap.size + 3 by omega) (rowC lr cr))
 go_wp2_with (first | refine store_at rfl (.tmp 8) (.tmp 13) rfl w4.heap.size Z81 lq 0 cq rfl rfl HS2.out.out HQ1.out ?_ | refine store_at rfl (.tmp 9) (.tmp 14) rfl (w4.heap.size + 1) Z81 lr 0 cr rfl rfl (HS2.out.row.storedApart (by omega)) HQ2.out ?_ | refine load_at rfl (.tmp 9) rfl (w4.heap.size + 1) lr cr rfl HVs.out.y ?_ | refine store_at rfl (.tmp 6) (.tmp 15) rfl (w.heap.size + 3) Z81 lr 0 cr rfl rfl HB5.out.out HQ2.out ?_)
 exact bodyPost_ret (HO.out.result Tryz.results150 _ rfl) rfl ⟨lr, cr, rfl, HQ2.out, R.out.1, R.out.2.trans (by rw [HVL.out]), HBB.out⟩
end Go.Proofs.YtdajgcgliidjbaaGreat

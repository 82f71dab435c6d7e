import Derived.Test.YtdajgcgliidjbaaGreatUBase
set_option maxRecDepth 8000
set_option maxHeartbeats 4000000
namespace Go.Proofs.YtdajgcgliidjbaaGreat
open Go.RowKit
structure E7 (w wc : World) (qx qy : Array Value) : Prop where
 x : wc.heap[w.heap.size]? = some (.cells qx 59 (0, 0))
 y : wc.heap[w.heap.size + 1]? = some (.cells qy 59 (0, 0))
 o : wc.heap[w.heap.size + 2]? = some (.cells #[.slice none 0 0, .slice none 0 0] 59 (0, 0))
 b : Below w.heap.size w wc
theorem E7.lt {w wc : World} {qx qy : Array Value} (h : E7 w wc qx qy) : w.heap.size + 2 < wc.heap.size := (Array.getElem?_eq_some_iff.1 h.o).1
theorem E7.on {w wc w' : World} {qx qy : Array Value} (h : E7 w wc qx qy) (b : Below wc.heap.size wc w') : E7 w w' qx qy := by
 have := h.lt
 exact ⟨(b.block _ (by omega)).trans h.x, (b.block _ (by omega)).trans h.y, (b.block _ (by omega)).trans h.o, bt h.b b⟩
theorem E7.drew {w wc : World} {qx qy : Array Value} (h : E7 w wc qx qy) : E7 w wc.drew qx qy := ⟨h.x, h.y, h.o, ⟨h.b.os, h.b.tape, h.b.output, h.b.size, h.b.block⟩⟩
theorem E7.start (w : World) (qx qy : Array Value) : E7 w (((w.alloc (.cells qx 59)).alloc (.cells qy 59)).alloc (.cells #[.slice none 0 0, .slice none 0 0] 59)) qx qy := by
 have b1 := (Below.refl w.heap.size w).alloc (Nat.le_refl _) (.cells qx 59)
 have r1 := heap_alloc_new w (.cells qx 59)
 have s1 : (w.alloc (.cells qx 59)).heap.size = w.heap.size + 1 := by simp
 generalize w.alloc (.cells qx 59) = w1 at *
 have b2 := (Below.refl w1.heap.size w1).alloc (Nat.le_refl _) (.cells qy 59)
 have r2 := heap_alloc_new w1 (.cells qy 59)
 have s2 : (w1.alloc (.cells qy 59)).heap.size = w1.heap.size + 1 := by simp
 generalize w1.alloc (.cells qy 59) = w2 at *
 have b3 := (Below.refl w2.heap.size w2).alloc (Nat.le_refl _) (.cells #[.slice none 0 0, .slice none 0 0] 59)
 have r3 := heap_alloc_new w2 (.cells #[.slice none 0 0, .slice none 0 0] 59)
 generalize w2.alloc (.cells #[.slice none 0 0, .slice none 0 0] 59) = w3 at *
 rw [s2, s1] at r3
 rw [s1] at r2
 exact ⟨(b3.block _ (by omega)).trans ((b2.block _ (by omega)).trans r1), (b3.block _ (by omega)).trans r2, r3, bt (bt b1 b2) b3⟩
structure F7 (wc : World) (ax bx ay by_ vp : Value) (x y : Pn) (n : Nat) : Prop where
 x1 : RowX wc ax x.1
 x2 : RowX wc bx x.2
 y1 : RowX wc ay y.1
 y2 : RowX wc by_ y.2
 p : RowX wc vp n
theorem F7.on {wc w' : World} {ax bx ay by_ vp : Value} {x y : Pn} {n : Nat} (h : F7 wc ax bx ay by_ vp x y n) (b : Below wc.heap.size wc w') : F7 w' ax bx ay by_ vp x y n := ⟨h.x1.below b, h.x2.below b, h.y1.below b, h.y2.below b, h.p.below b⟩
theorem bd7 (w : World) : Below w.heap.size w w.drew := ⟨rfl, rfl, rfl, Nat.le_refl _, fun _ _ => rfl⟩
theorem pair_cells {a b : Value} {q : Array Value} (hq : #[a, b] = q) {w : World} {g : Nat} {t : TypeId} (h : w.heap[g]? = some (.cells q t (0, 0))) : w.cell? ⟨g, 0, none⟩ = some a ∧ w.cell? ⟨g, 1, none⟩ = some b := by
 subst hq
 exact ⟨(cell_of_row w g 0 _ _ _ h).trans rfl, (cell_of_row w g 1 _ _ _ h).trans rfl⟩
theorem ladd7_x {w : World} {vx vy vp : Value} {x y : Pn} {n : Nat} (hx : PairX w vx x) (hy : PairX w vy y) (hp : RowX w vp n) (ix : InP2 n x) (iy : InP2 n y) (hn : n < GB) :
  Calls Tryz.prog 84 #[vx, vy, vp] w (PairTo (addP n x y) w) := by
 obtain ⟨ax, bx, rfl, hx1, hx2⟩ := hx
 obtain ⟨ay, by_, rfl, hy1, hy2⟩ := hy
 have HF0 := Lib.hid (F7.mk (x := x) (y := y) hx1 hx2 hy1 hy2 hp)
 obtain ⟨a1, n1, c1, rfl⟩ := hx1.shape
 obtain ⟨a2, n2, c2, rfl⟩ := hx2.shape
 obtain ⟨a3, n3, c3, rfl⟩ := hy1.shape
 obtain ⟨a4, n4, c4, rfl⟩ := hy2.shape
 obtain ⟨a5, n5, c5, rfl⟩ := hp.shape
 obtain ⟨qx, hqx⟩ : ∃ q : Array Value, #[.slice a1 n1 c1, .slice a2 n2 c2] = q := ⟨_, rfl⟩
 obtain ⟨qy, hqy⟩ : ∃ q : Array Value, #[.slice a3 n3 c3, .slice a4 n4 c4] = q := ⟨_, rfl⟩
 have HQX := Lib.hid hqx
 have HQY := Lib.hid hqy
 have HE0 := Lib.hid (E7.start w qx qy)
 obtain ⟨i1, i2⟩ := ix
 obtain ⟨j1, j2⟩ := iy
 have h0 : 0 < n := by omega
 rw [hqx, hqy]
 clear hx1 hx2 hy1 hy2 hp hqx hqy
 go_enter Tryz.func84, Tryz.ntmps84
 go_wp2_with fail
 generalize World.alloc _ (.cells #[.slice none 0 0, .slice none 0 0] 59) = wa at *
 have HE1 := Lib.hid HE0.out.drew
 have HF1 := Lib.hid ((HF0.out.on HE0.out.b).on (bd7 _))
 clear HE0 HF0
 refine wp_region_held (S := fun w' => w'.heap[w.heap.size]? = some (.cells qx 59 (0, 0)) ∧ w'.heap[w.heap.size + 1]? = some (.cells qy 59 (0, 0))) (by kernel_rfl) ?_
 change wpAnyH _ _ _ _ _ _ _ _ wa.drew
 generalize wa.drew = w1 at *
 refine wpAnyH_take (i := 0) (v := .pointer (some ⟨w.heap.size, 0, none⟩)) rfl (by kernel_rfl) (by kernel_rfl) (by kernel_rfl) (fun _ _ _ h => h) (yields_if rfl fun _ _ => by unfold execOp; go_simp) ⟨HE1.out.x, HE1.out.y⟩ ?_
 refine wpAnyH_take (i := 1) (v := .slice a1 n1 c1) rfl (by kernel_rfl) (by kernel_rfl) (by kernel_rfl) (fun _ _ _ h => h) (yields_if rfl fun _ hw => by have c := (pair_cells HQX.out hw.1).1; unfold execOp; go_simp) ⟨HE1.out.x, HE1.out.y⟩ ?_
 refine wpAnyH_take (i := 2) (v := .pointer (some ⟨w.heap.size + 1, 0, none⟩)) rfl (by kernel_rfl) (by kernel_rfl) (by kernel_rfl) (fun _ _ _ h => h) (yields_if rfl fun _ _ => by unfold execOp; go_simp) ⟨HE1.out.x, HE1.out.y⟩ ?_
 refine wpAnyH_take (i := 3) (v := .slice a3 n3 c3) rfl (by kernel_rfl) (by kernel_rfl) (by kernel_rfl) (fun _ _ _ h => h) (yields_if rfl fun _ hw => by have c := (pair_cells HQY.out hw.2).1; unfold execOp; go_simp) ⟨HE1.out.x, HE1.out.y⟩ ?_
 refine wpAnyH_take (i := 4) (v := .slice a5 n5 c5) rfl (by kernel_rfl) (by kernel_rfl) (by kernel_rfl) (fun _ _ _ h => h) (yields_if rfl fun _ _ => by unfold execOp; go_simp) ⟨HE1.out.x, HE1.out.y⟩ ?_
 refine wpAnyH_take (i := 6) (v := .pointer (some ⟨w.heap.size, 1, none⟩)) rfl (by kernel_rfl) (by kernel_rfl) (by kernel_rfl) (fun _ _ _ h => h) (yields_if rfl fun _ _ => by unfold execOp; go_simp) ⟨HE1.out.x, HE1.out.y⟩ ?_
 refine wpAnyH_take (i := 7) (v := .slice a2 n2 c2) rfl (by kernel_rfl) (by kernel_rfl) (by kernel_rfl) (fun _ _ _ h => h) (yields_if rfl fun _ hw => by have c := (pair_cells HQX.out hw.1).2; unfold execOp; go_simp) ⟨HE1.out.x, HE1.out.y⟩ ?_
 refine wpAnyH_take (i := 8) (v := .pointer (some ⟨w.heap.size + 1, 1, none⟩)) rfl (by kernel_rfl) (by kernel_rfl) (by kernel_rfl) (fun _ _ _ h => h) (yields_if rfl fun _ _ => by unfold execOp; go_simp) ⟨HE1.out.x, HE1.out.y⟩ ?_
 refine wpAnyH_take (i := 9) (v := .slice a4 n4 c4) rfl (by kernel_rfl) (by kernel_rfl) (by kernel_rfl) (fun _ _ _ h => h) (yields_if rfl fun _ hw => by have c := (pair_cells HQY.out hw.2).2; unfold execOp; go_simp) ⟨HE1.out.x, HE1.out.y⟩ ?_
 refine wpAnyH_take (i := 10) (v := .slice a5 n5 c5) rfl (by kernel_rfl) (by kernel_rfl) (by kernel_rfl) (fun _ _ _ h => h) (yields_if rfl fun _ _ => by unfold execOp; go_simp) ⟨HE1.out.x, HE1.out.y⟩ ?_
 refine wpAnyH_all (rs := [5]) (by kernel_rfl) (by decide) ?_
 intro i hi
 obtain rfl : i = 5 := by simpa using hi
 unfold wpOp
 go_simp
 left
 refine (ladd_x HF1.out.x1 HF1.out.y1 HF1.out.p i1 j1 hn).mono ?_
 rintro e w2 ⟨vA, rfl, hA, b2⟩
 have HE2 := Lib.hid (HE1.out.on b2)
 have HF2 := Lib.hid (HF1.out.on b2)
 have RA_2 := Lib.hid hA
 obtain ⟨sA, mA, kA, rfl⟩ := hA.shape
 clear hA b2 HE1 HF1
 refine ⟨⟨HE2.out.x, HE2.out.y⟩, ?_⟩
 refine wpAnyH_all (rs := [11]) (by kernel_rfl) (by decide) ?_
 intro i hi
 obtain rfl : i = 11 := by simpa using hi
 unfold wpOp
 go_simp
 left
 refine (ladd_x HF2.out.x2 HF2.out.y2 HF2.out.p i2 j2 hn).mono ?_
 rintro e w3 ⟨vB, rfl, hB, b3⟩
 have HE3 := Lib.hid (HE2.out.on b3)
 have HF3 := Lib.hid (HF2.out.on b3)
 have RA_3 := Lib.hid (RA_2.out.below b3)
 have RB_3 := Lib.hid hB
 obtain ⟨sB, mB, kB, rfl⟩ := hB.shape
 clear hB b3 HE2 HF2 RA_2
 refine ⟨⟨HE3.out.x, HE3.out.y⟩, ?_⟩
 refine wpAnyH_take (i := 12) (v := .agg #[.slice sA mA kA, .slice sB mB kB]) rfl (by kernel_rfl) (by kernel_rfl) (by kernel_rfl) (fun _ _ _ h => h) (yields_if rfl fun _ _ => by unfold execOp; go_simp) ⟨HE3.out.x, HE3.out.y⟩ ?_
 refine wpAnyH_all (rs := [13]) (by kernel_rfl) (by decide) ?_
 intro i hi
 obtain rfl : i = 13 := by simpa using hi
 have HW := Lib.hid (below_setRow2 HE3.out.b (show w.heap.size ≤ w.heap.size + 2 by omega) #[.slice sA mA kA, .slice sB mB kB])
 have HR := Lib.hid (setRow_heap w3 (w.heap.size + 2) _ #[.slice sA mA kA, .slice sB mB kB] _ _ HE3.out.o)
 have HU := Lib.hid (RA_3.out.setRow (C' := #[.slice sA mA kA, .slice sB mB kB]) HE3.out.o (by decide))
 have HV := Lib.hid (RB_3.out.setRow (C' := #[.slice sA mA kA, .slice sB mB kB]) HE3.out.o (by decide))
 have hS : (w3.setRow (w.heap.size + 2) #[.slice sA mA kA, .slice sB mB kB]).heap[w.heap.size]? = some (.cells qx 59 (0, 0)) ∧ (w3.setRow (w.heap.size + 2) #[.slice sA mA kA, .slice sB mB kB]).heap[w.heap.size + 1]? = some (.cells qy 59 (0, 0)) := ⟨(setRow_other _ _ _ _ (by omega)).trans HE3.out.x, (setRow_other _ _ _ _ (by omega)).trans HE3.out.y⟩
 refine store_gen rfl rfl 59 (.tmp 6) (.tmp 19) rfl (w.heap.size + 2) _ _ rfl rfl HE3.out.o Tryz.info7 rfl (by simp [Value.oneCell']) ⟨hS, ?_⟩
 refine wpAnyH_done (by kernel_rfl) ?_ _
 clear HE3 HF3 hS RA_3 RB_3
 go_wp2
 exact bodyPost_ret (results_cell_row Tryz.results84 _ _ (w.heap.size + 2) _ _ _ _ rfl HR.out Tryz.underlying59 rfl Tryz.info7) rfl ⟨_, rfl, ⟨_, _, rfl, HU.out, HV.out⟩, HW.out⟩
theorem lsub7_x {w : World} {vx vy vp : Value} {x y : Pn} {n : Nat} (hx : PairX w vx x) (hy : PairX w vy y) (hp : RowX w vp n) (ix : InP2 n x) (iy : InP2 n y) (hn : n < GB) :
  Calls Tryz.prog 82 #[vx, vy, vp] w (PairTo (subP n x y) w) := by
 obtain ⟨ax, bx, rfl, hx1, hx2⟩ := hx
 obtain ⟨ay, by_, rfl, hy1, hy2⟩ := hy
 have HF0 := Lib.hid (F7.mk (x := x) (y := y) hx1 hx2 hy1 hy2 hp)
 obtain ⟨a1, n1, c1, rfl⟩ := hx1.shape
 obtain ⟨a2, n2, c2, rfl⟩ := hx2.shape
 obtain ⟨a3, n3, c3, rfl⟩ := hy1.shape
 obtain ⟨a4, n4, c4, rfl⟩ := hy2.shape
 obtain ⟨a5, n5, c5, rfl⟩ := hp.shape
 obtain ⟨qx, hqx⟩ : ∃ q : Array Value, #[.slice a1 n1 c1, .slice a2 n2 c2] = q := ⟨_, rfl⟩
 obtain ⟨qy, hqy⟩ : ∃ q : Array Value, #[.slice a3 n3 c3, .slice a4 n4 c4] = q := ⟨_, rfl⟩
 have HQX := Lib.hid hqx
 have HQY := Lib.hid hqy
 have HE0 := Lib.hid (E7.start w qx qy)
 obtain ⟨i1, i2⟩ := ix
 obtain ⟨j1, j2⟩ := iy
 have h0 : 0 < n := by omega
 rw [hqx, hqy]
 clear hx1 hx2 hy1 hy2 hp hqx hqy
 go_enter Tryz.func82, Tryz.ntmps82
 go_wp2_with fail
 generalize World.alloc _ (.cells #[.slice none 0 0, .slice none 0 0] 59) = wa at *
 have HE1 := Lib.hid HE0.out.drew
 have HF1 := Lib.hid ((HF0.out.on HE0.out.b).on (bd7 _))
 clear HE0 HF0
 refine wp_region_held (S := fun w' => w'.heap[w.heap.size]? = some (.cells qx 59 (0, 0)) ∧ w'.heap[w.heap.size + 1]? = some (.cells qy 59 (0, 0))) (by kernel_rfl) ?_
 change wpAnyH _ _ _ _ _ _ _ _ wa.drew
 generalize wa.drew = w1 at *
 refine wpAnyH_take (i := 0) (v := .pointer (some ⟨w.heap.size, 0, none⟩)) rfl (by kernel_rfl) (by kernel_rfl) (by kernel_rfl) (fun _ _ _ h => h) (yields_if rfl fun _ _ => by unfold execOp; go_simp) ⟨HE1.out.x, HE1.out.y⟩ ?_
 refine wpAnyH_take (i := 1) (v := .slice a1 n1 c1) rfl (by kernel_rfl) (by kernel_rfl) (by kernel_rfl) (fun _ _ _ h => h) (yields_if rfl fun _ hw => by have c := (pair_cells HQX.out hw.1).1; unfold execOp; go_simp) ⟨HE1.out.x, HE1.out.y⟩ ?_
 refine wpAnyH_take (i := 2) (v := .pointer (some ⟨w.heap.size + 1, 0, none⟩)) rfl (by kernel_rfl) (by kernel_rfl) (by kernel_rfl) (fun _ _ _ h => h) (yields_if rfl fun _ _ => by unfold execOp; go_simp) ⟨HE1.out.x, HE1.out.y⟩ ?_
 refine wpAnyH_take (i := 3) (v := .slice a3 n3 c3) rfl (by kernel_rfl) (by kernel_rfl) (by kernel_rfl) (fun _ _ _ h => h) (yields_if rfl fun _ hw => by have c := (pair_cells HQY.out hw.2).1; unfold execOp; go_simp) ⟨HE1.out.x, HE1.out.y⟩ ?_
 refine wpAnyH_take (i := 4) (v := .slice a5 n5 c5) rfl (by kernel_rfl) (by kernel_rfl) (by kernel_rfl) (fun _ _ _ h => h) (yields_if rfl fun _ _ => by unfold execOp; go_simp) ⟨HE1.out.x, HE1.out.y⟩ ?_
 refine wpAnyH_take (i := 6) (v := .pointer (some ⟨w.heap.size, 1, none⟩)) rfl (by kernel_rfl) (by kernel_rfl) (by kernel_rfl) (fun _ _ _ h => h) (yields_if rfl fun _ _ => by unfold execOp; go_simp) ⟨HE1.out.x, HE1.out.y⟩ ?_
 refine wpAnyH_take (i := 7) (v := .slice a2 n2 c2) rfl (by kernel_rfl) (by kernel_rfl) (by kernel_rfl) (fun _ _ _ h => h) (yields_if rfl fun _ hw => by have c := (pair_cells HQX.out hw.1).2; unfold execOp; go_simp) ⟨HE1.out.x, HE1.out.y⟩ ?_
 refine wpAnyH_take (i := 8) (v := .pointer (some ⟨w.heap.size + 1, 1, none⟩)) rfl (by kernel_rfl) (by kernel_rfl) (by kernel_rfl) (fun _ _ _ h => h) (yields_if rfl fun _ _ => by unfold execOp; go_simp) ⟨HE1.out.x, HE1.out.y⟩ ?_
 refine wpAnyH_take (i := 9) (v := .slice a4 n4 c4) rfl (by kernel_rfl) (by kernel_rfl) (by kernel_rfl) (fun _ _ _ h => h) (yields_if rfl fun _ hw => by have c := (pair_cells HQY.out hw.2).2; unfold execOp; go_simp) ⟨HE1.out.x, HE1.out.y⟩ ?_
 refine wpAnyH_take (i := 10) (v := .slice a5 n5 c5) rfl (by kernel_rfl) (by kernel_rfl) (by kernel_rfl) (fun _ _ _ h => h) (yields_if rfl fun _ _ => by unfold execOp; go_simp) ⟨HE1.out.x, HE1.out.y⟩ ?_
 refine wpAnyH_all (rs := [5]) (by kernel_rfl) (by decide) ?_
 intro i hi
 obtain rfl : i = 5 := by simpa using hi
 unfold wpOp
 go_simp
 left
 refine (lsub_x HF1.out.x1 HF1.out.y1 HF1.out.p i1 j1 hn).mono ?_
 rintro e w2 ⟨vA, rfl, hA, b2⟩
 have HE2 := Lib.hid (HE1.out.on b2)
 have HF2 := Lib.hid (HF1.out.on b2)
 have RA_2 := Lib.hid hA
 obtain ⟨sA, mA, kA, rfl⟩ := hA.shape
 clear hA b2 HE1 HF1
 refine ⟨⟨HE2.out.x, HE2.out.y⟩, ?_⟩
 refine wpAnyH_all (rs := [11]) (by kernel_rfl) (by decide) ?_
 intro i hi
 obtain rfl : i = 11 := by simpa using hi
 unfold wpOp
 go_simp
 left
 refine (lsub_x HF2.out.x2 HF2.out.y2 HF2.out.p i2 j2 hn).mono ?_
 rintro e w3 ⟨vB, rfl, hB, b3⟩
 have HE3 := Lib.hid (HE2.out.on b3)
 have HF3 := Lib.hid (HF2.out.on b3)
 have RA_3 := Lib.hid (RA_2.out.below b3)
 have RB_3 := Lib.hid hB
 obtain ⟨sB, mB, kB, rfl⟩ := hB.shape
 clear hB b3 HE2 HF2 RA_2
 refine ⟨⟨HE3.out.x, HE3.out.y⟩, ?_⟩
 refine wpAnyH_take (i := 12) (v := .agg #[.slice sA mA kA, .slice sB mB kB]) rfl (by kernel_rfl) (by kernel_rfl) (by kernel_rfl) (fun _ _ _ h => h) (yields_if rfl fun _ _ => by unfold execOp; go_simp) ⟨HE3.out.x, HE3.out.y⟩ ?_
 refine wpAnyH_all (rs := [13]) (by kernel_rfl) (by decide) ?_
 intro i hi
 obtain rfl : i = 13 := by simpa using hi
 have HW := Lib.hid (below_setRow2 HE3.out.b (show w.heap.size ≤ w.heap.size + 2 by omega) #[.slice sA mA kA, .slice sB mB kB])
 have HR := Lib.hid (setRow_heap w3 (w.heap.size + 2) _ #[.slice sA mA kA, .slice sB mB kB] _ _ HE3.out.o)
 have HU := Lib.hid (RA_3.out.setRow (C' := #[.slice sA mA kA, .slice sB mB kB]) HE3.out.o (by decide))
 have HV := Lib.hid (RB_3.out.setRow (C' := #[.slice sA mA kA, .slice sB mB kB]) HE3.out.o (by decide))
 have hS : (w3.setRow (w.heap.size + 2) #[.slice sA mA kA, .slice sB mB kB]).heap[w.heap.size]? = some (.cells qx 59 (0, 0)) ∧ (w3.setRow (w.heap.size + 2) #[.slice sA mA kA, .slice sB mB kB]).heap[w.heap.size + 1]? = some (.cells qy 59 (0, 0)) := ⟨(setRow_other _ _ _ _ (by omega)).trans HE3.out.x, (setRow_other _ _ _ _ (by omega)).trans HE3.out.y⟩
 refine store_gen rfl rfl 59 (.tmp 6) (.tmp 19) rfl (w.heap.size + 2) _ _ rfl rfl HE3.out.o Tryz.info7 rfl (by simp [Value.oneCell']) ⟨hS, ?_⟩
 refine wpAnyH_done (by kernel_rfl) ?_ _
 clear HE3 HF3 hS RA_3 RB_3
 go_wp2
 exact bodyPost_ret (results_cell_row Tryz.results82 _ _ (w.heap.size + 2) _ _ _ _ rfl HR.out Tryz.underlying59 rfl Tryz.info7) rfl ⟨_, rfl, ⟨_, _, rfl, HU.out, HV.out⟩, HW.out⟩
theorem lmul7_x {w : World} {vx vy vp : Value} {x y : Pn} {n : Nat} (hx : PairX w vx x) (hy : PairX w vy y) (hp : RowX w vp n) (ix : InP2 n x) (iy : InP2 n y) (hn : n < GB) :
  Calls Tryz.prog 63 #[vx, vy, vp] w (PairTo (mulP n x y) w) := by
 obtain ⟨ax, bx, rfl, hx1, hx2⟩ := hx
 obtain ⟨ay, by_, rfl, hy1, hy2⟩ := hy
 have HF0 := Lib.hid (F7.mk (x := x) (y := y) hx1 hx2 hy1 hy2 hp)
 obtain ⟨a1, n1, c1, rfl⟩ := hx1.shape
 obtain ⟨a2, n2, c2, rfl⟩ := hx2.shape
 obtain ⟨a3, n3, c3, rfl⟩ := hy1.shape
 obtain ⟨a4, n4, c4, rfl⟩ := hy2.shape
 obtain ⟨a5, n5, c5, rfl⟩ := hp.shape
 obtain ⟨qx, hqx⟩ : ∃ q : Array Value, #[.slice a1 n1 c1, .slice a2 n2 c2] = q := ⟨_, rfl⟩
 obtain ⟨qy, hqy⟩ : ∃ q : Array Value, #[.slice a3 n3 c3, .slice a4 n4 c4] = q := ⟨_, rfl⟩
 have HQX := Lib.hid hqx
 have HQY := Lib.hid hqy
 have HE0 := Lib.hid (E7.start w qx qy)
 obtain ⟨i1, i2⟩ := ix
 obtain ⟨j1, j2⟩ := iy
 have h0 : 0 < n := by omega
 rw [hqx, hqy]
 clear hx1 hx2 hy1 hy2 hp hqx hqy
 go_enter Tryz.func63, Tryz.ntmps63
 go_wp2_with fail
 generalize World.alloc _ (.cells #[.slice none 0 0, .slice none 0 0] 59) = wa at *
 have HE1 := Lib.hid HE0.out.drew
 have HF1 := Lib.hid ((HF0.out.on HE0.out.b).on (bd7 _))
 clear HE0 HF0
 refine wp_region_held (S := fun w' => w'.heap[w.heap.size]? = some (.cells qx 59 (0, 0)) ∧ w'.heap[w.heap.size + 1]? = some (.cells qy 59 (0, 0))) (by kernel_rfl) ?_
 change wpAnyH _ _ _ _ _ _ _ _ wa.drew
 generalize wa.drew = w1 at *
 refine wpAnyH_take (i := 0) (v := .pointer (some ⟨w.heap.size, 0, none⟩)) rfl (by kernel_rfl) (by kernel_rfl) (by kernel_rfl) (fun _ _ _ h => h) (yields_if rfl fun _ _ => by unfold execOp; go_simp) ⟨HE1.out.x, HE1.out.y⟩ ?_
 refine wpAnyH_take (i := 1) (v := .slice a1 n1 c1) rfl (by kernel_rfl) (by kernel_rfl) (by kernel_rfl) (fun _ _ _ h => h) (yields_if rfl fun _ hw => by have c := (pair_cells HQX.out hw.1).1; unfold execOp; go_simp) ⟨HE1.out.x, HE1.out.y⟩ ?_
 refine wpAnyH_take (i := 2) (v := .pointer (some ⟨w.heap.size + 1, 0, none⟩)) rfl (by kernel_rfl) (by kernel_rfl) (by kernel_rfl) (fun _ _ _ h => h) (yields_if rfl fun _ _ => by unfold execOp; go_simp) ⟨HE1.out.x, HE1.out.y⟩ ?_
 refine wpAnyH_take (i := 3) (v := .slice a3 n3 c3) rfl (by kernel_rfl) (by kernel_rfl) (by kernel_rfl) (fun _ _ _ h => h) (yields_if rfl fun _ hw => by have c := (pair_cells HQY.out hw.2).1; unfold execOp; go_simp) ⟨HE1.out.x, HE1.out.y⟩ ?_
 refine wpAnyH_take (i := 4) (v := .slice a5 n5 c5) rfl (by kernel_rfl) (by kernel_rfl) (by kernel_rfl) (fun _ _ _ h => h) (yields_if rfl fun _ _ => by unfold execOp; go_simp) ⟨HE1.out.x, HE1.out.y⟩ ?_
 refine wpAnyH_take (i := 6) (v := .pointer (some ⟨w.heap.size, 1, none⟩)) rfl (by kernel_rfl) (by kernel_rfl) (by kernel_rfl) (fun _ _ _ h => h) (yields_if rfl fun _ _ => by unfold execOp; go_simp) ⟨HE1.out.x, HE1.out.y⟩ ?_
 refine wpAnyH_take (i := 7) (v := .slice a2 n2 c2) rfl (by kernel_rfl) (by kernel_rfl) (by kernel_rfl) (fun _ _ _ h => h) (yields_if rfl fun _ hw => by have c := (pair_cells HQX.out hw.1).2; unfold execOp; go_simp) ⟨HE1.out.x, HE1.out.y⟩ ?_
 refine wpAnyH_take (i := 8) (v := .pointer (some ⟨w.heap.size + 1, 1, none⟩)) rfl (by kernel_rfl) (by kernel_rfl) (by kernel_rfl) (fun _ _ _ h => h) (yields_if rfl fun _ _ => by unfold execOp; go_simp) ⟨HE1.out.x, HE1.out.y⟩ ?_
 refine wpAnyH_take (i := 9) (v := .slice a4 n4 c4) rfl (by kernel_rfl) (by kernel_rfl) (by kernel_rfl) (fun _ _ _ h => h) (yields_if rfl fun _ hw => by have c := (pair_cells HQY.out hw.2).2; unfold execOp; go_simp) ⟨HE1.out.x, HE1.out.y⟩ ?_
 refine wpAnyH_take (i := 10) (v := .slice a5 n5 c5) rfl (by kernel_rfl) (by kernel_rfl) (by kernel_rfl) (fun _ _ _ h => h) (yields_if rfl fun _ _ => by unfold execOp; go_simp) ⟨HE1.out.x, HE1.out.y⟩ ?_
 refine wpAnyH_take (i := 12) (v := .slice a5 n5 c5) rfl (by kernel_rfl) (by kernel_rfl) (by kernel_rfl) (fun _ _ _ h => h) (yields_if rfl fun _ _ => by unfold execOp; go_simp) ⟨HE1.out.x, HE1.out.y⟩ ?_
 refine wpAnyH_take (i := 14) (v := .pointer (some ⟨w.heap.size, 0, none⟩)) rfl (by kernel_rfl) (by kernel_rfl) (by kernel_rfl) (fun _ _ _ h => h) (yields_if rfl fun _ _ => by unfold execOp; go_simp) ⟨HE1.out.x, HE1.out.y⟩ ?_
 refine wpAnyH_take (i := 15) (v := .slice a1 n1 c1) rfl (by kernel_rfl) (by kernel_rfl) (by kernel_rfl) (fun _ _ _ h => h) (yields_if rfl fun _ hw => by have c := (pair_cells HQX.out hw.1).1; unfold execOp; go_simp) ⟨HE1.out.x, HE1.out.y⟩ ?_
 refine wpAnyH_take (i := 16) (v := .pointer (some ⟨w.heap.size + 1, 1, none⟩)) rfl (by kernel_rfl) (by kernel_rfl) (by kernel_rfl) (fun _ _ _ h => h) (yields_if rfl fun _ _ => by unfold execOp; go_simp) ⟨HE1.out.x, HE1.out.y⟩ ?_
 refine wpAnyH_take (i := 17) (v := .slice a4 n4 c4) rfl (by kernel_rfl) (by kernel_rfl) (by kernel_rfl) (fun _ _ _ h => h) (yields_if rfl fun _ hw => by have c := (pair_cells HQY.out hw.2).2; unfold execOp; go_simp) ⟨HE1.out.x, HE1.out.y⟩ ?_
 refine wpAnyH_take (i := 18) (v := .slice a5 n5 c5) rfl (by kernel_rfl) (by kernel_rfl) (by kernel_rfl) (fun _ _ _ h => h) (yields_if rfl fun _ _ => by unfold execOp; go_simp) ⟨HE1.out.x, HE1.out.y⟩ ?_
 refine wpAnyH_take (i := 20) (v := .pointer (some ⟨w.heap.size, 1, none⟩)) rfl (by kernel_rfl) (by kernel_rfl) (by kernel_rfl) (fun _ _ _ h => h) (yields_if rfl fun _ _ => by unfold execOp; go_simp) ⟨HE1.out.x, HE1.out.y⟩ ?_
 refine wpAnyH_take (i := 21) (v := .slice a2 n2 c2) rfl (by kernel_rfl) (by kernel_rfl) (by kernel_rfl) (fun _ _ _ h => h) (yields_if rfl fun _ hw => by have c := (pair_cells HQX.out hw.1).2; unfold execOp; go_simp) ⟨HE1.out.x, HE1.out.y⟩ ?_
 refine wpAnyH_take (i := 22) (v := .pointer (some ⟨w.heap.size + 1, 0, none⟩)) rfl (by kernel_rfl) (by kernel_rfl) (by kernel_rfl) (fun _ _ _ h => h) (yields_if rfl fun _ _ => by unfold execOp; go_simp) ⟨HE1.out.x, HE1.out.y⟩ ?_
 refine wpAnyH_take (i := 23) (v := .slice a3 n3 c3) rfl (by kernel_rfl) (by kernel_rfl) (by kernel_rfl) (fun _ _ _ h => h) (yields_if rfl fun _ hw => by have c := (pair_cells HQY.out hw.2).1; unfold execOp; go_simp) ⟨HE1.out.x, HE1.out.y⟩ ?_
 refine wpAnyH_take (i := 24) (v := .slice a5 n5 c5) rfl (by kernel_rfl) (by kernel_rfl) (by kernel_rfl) (fun _ _ _ h => h) (yields_if rfl fun _ _ => by unfold execOp; go_simp) ⟨HE1.out.x, HE1.out.y⟩ ?_
 refine wpAnyH_take (i := 26) (v := .slice a5 n5 c5) rfl (by kernel_rfl) (by kernel_rfl) (by kernel_rfl) (fun _ _ _ h => h) (yields_if rfl fun _ _ => by unfold execOp; go_simp) ⟨HE1.out.x, HE1.out.y⟩ ?_
 refine wpAnyH_all (rs := [5]) (by kernel_rfl) (by decide) ?_
 intro i hi
 obtain rfl : i = 5 := by simpa using hi
 unfold wpOp
 go_simp
 left
 refine (lmul_x HF1.out.x1 HF1.out.y1 HF1.out.p (by omega) (by omega) h0).mono ?_
 rintro e w2 ⟨vA, rfl, hA, b2⟩
 have HE2 := Lib.hid (HE1.out.on b2)
 have HF2 := Lib.hid (HF1.out.on b2)
 have RA_2 := Lib.hid hA
 obtain ⟨sA, mA, kA, rfl⟩ := hA.shape
 clear hA b2 HE1 HF1
 refine ⟨⟨HE2.out.x, HE2.out.y⟩, ?_⟩
 refine wpAnyH_all (rs := [11]) (by kernel_rfl) (by decide) ?_
 intro i hi
 obtain rfl : i = 11 := by simpa using hi
 unfold wpOp
 go_simp
 left
 refine (lmul_x HF2.out.x2 HF2.out.y2 HF2.out.p (by omega) (by omega) h0).mono ?_
 rintro e w3 ⟨vB, rfl, hB, b3⟩
 have HE3 := Lib.hid (HE2.out.on b3)
 have HF3 := Lib.hid (HF2.out.on b3)
 have RA_3 := Lib.hid (RA_2.out.below b3)
 have RB_3 := Lib.hid hB
 obtain ⟨sB, mB, kB, rfl⟩ := hB.shape
 clear hB b3 HE2 HF2 RA_2
 refine ⟨⟨HE3.out.x, HE3.out.y⟩, ?_⟩
 refine wpAnyH_all (rs := [13]) (by kernel_rfl) (by decide) ?_
 intro i hi
 obtain rfl : i = 13 := by simpa using hi
 unfold wpOp
 go_simp
 left
 refine (lsub_x RA_3.out RB_3.out HF3.out.p (Nat.mod_lt _ h0) (Nat.mod_lt _ h0) hn).mono ?_
 rintro e w4 ⟨vC, rfl, hC, b4⟩
 have HE4 := Lib.hid (HE3.out.on b4)
 have HF4 := Lib.hid (HF3.out.on b4)
 have RA_4 := Lib.hid (RA_3.out.below b4)
 have RB_4 := Lib.hid (RB_3.out.below b4)
 have RC_4 := Lib.hid hC
 obtain ⟨sC, mC, kC, rfl⟩ := hC.shape
 clear hC b4 HE3 HF3 RA_3 RB_3
 refine ⟨⟨HE4.out.x, HE4.out.y⟩, ?_⟩
 refine wpAnyH_all (rs := [19]) (by kernel_rfl) (by decide) ?_
 intro i hi
 obtain rfl : i = 19 := by simpa using hi
 unfold wpOp
 go_simp
 left
 refine (lmul_x HF4.out.x1 HF4.out.y2 HF4.out.p (by omega) (by omega) h0).mono ?_
 rintro e w5 ⟨vD, rfl, hD, b5⟩
 have HE5 := Lib.hid (HE4.out.on b5)
 have HF5 := Lib.hid (HF4.out.on b5)
 have RA_5 := Lib.hid (RA_4.out.below b5)
 have RB_5 := Lib.hid (RB_4.out.below b5)
 have RC_5 := Lib.hid (RC_4.out.below b5)
 have RD_5 := Lib.hid hD
 obtain ⟨sD, mD, kD, rfl⟩ := hD.shape
 clear hD b5 HE4 HF4 RA_4 RB_4 RC_4
 refine ⟨⟨HE5.out.x, HE5.out.y⟩, ?_⟩
 refine wpAnyH_all (rs := [25]) (by kernel_rfl) (by decide) ?_
 intro i hi
 obtain rfl : i = 25 := by simpa using hi
 unfold wpOp
 go_simp
 left
 refine (lmul_x HF5.out.x2 HF5.out.y1 HF5.out.p (by omega) (by omega) h0).mono ?_
 rintro e w6 ⟨vE, rfl, hE, b6⟩
 have HE6 := Lib.hid (HE5.out.on b6)
 have HF6 := Lib.hid (HF5.out.on b6)
 have RA_6 := Lib.hid (RA_5.out.below b6)
 have RB_6 := Lib.hid (RB_5.out.below b6)
 have RC_6 := Lib.hid (RC_5.out.below b6)
 have RD_6 := Lib.hid (RD_5.out.below b6)
 have RE_6 := Lib.hid hE
 obtain ⟨sE, mE, kE, rfl⟩ := hE.shape
 clear hE b6 HE5 HF5 RA_5 RB_5 RC_5 RD_5
 refine ⟨⟨HE6.out.x, HE6.out.y⟩, ?_⟩
 refine wpAnyH_all (rs := [27]) (by kernel_rfl) (by decide) ?_
 intro i hi
 obtain rfl : i = 27 := by simpa using hi
 unfold wpOp
 go_simp
 left
 refine (ladd_x RD_6.out RE_6.out HF6.out.p (Nat.mod_lt _ h0) (Nat.mod_lt _ h0) hn).mono ?_
 rintro e w7 ⟨vG, rfl, hG, b7⟩
 have HE7 := Lib.hid (HE6.out.on b7)
 have HF7 := Lib.hid (HF6.out.on b7)
 have RA_7 := Lib.hid (RA_6.out.below b7)
 have RB_7 := Lib.hid (RB_6.out.below b7)
 have RC_7 := Lib.hid (RC_6.out.below b7)
 have RD_7 := Lib.hid (RD_6.out.below b7)
 have RE_7 := Lib.hid (RE_6.out.below b7)
 have RG_7 := Lib.hid hG
 obtain ⟨sG, mG, kG, rfl⟩ := hG.shape
 clear hG b7 HE6 HF6 RA_6 RB_6 RC_6 RD_6 RE_6
 refine ⟨⟨HE7.out.x, HE7.out.y⟩, ?_⟩
 refine wpAnyH_take (i := 28) (v := .agg #[.slice sC mC kC, .slice sG mG kG]) rfl (by kernel_rfl) (by kernel_rfl) (by kernel_rfl) (fun _ _ _ h => h) (yields_if rfl fun _ _ => by unfold execOp; go_simp) ⟨HE7.out.x, HE7.out.y⟩ ?_
 refine wpAnyH_all (rs := [29]) (by kernel_rfl) (by decide) ?_
 intro i hi
 obtain rfl : i = 29 := by simpa using hi
 have HW := Lib.hid (below_setRow2 HE7.out.b (show w.heap.size ≤ w.heap.size + 2 by omega) #[.slice sC mC kC, .slice sG mG kG])
 have HR := Lib.hid (setRow_heap w7 (w.heap.size + 2) _ #[.slice sC mC kC, .slice sG mG kG] _ _ HE7.out.o)
 have HU := Lib.hid (RC_7.out.setRow (C' := #[.slice sC mC kC, .slice sG mG kG]) HE7.out.o (by decide))
 have HV := Lib.hid (RG_7.out.setRow (C' := #[.slice sC mC kC, .slice sG mG kG]) HE7.out.o (by decide))
 have hS : (w7.setRow (w.heap.size + 2) #[.slice sC mC kC, .slice sG mG kG]).heap[w.heap.size]? = some (.cells qx 59 (0, 0)) ∧ (w7.setRow (w.heap.size + 2) #[.slice sC mC kC, .slice sG mG kG]).heap[w.heap.size + 1]? = some (.cells qy 59 (0, 0)) := ⟨(setRow_other _ _ _ _ (by omega)).trans HE7.out.x, (setRow_other _ _ _ _ (by omega)).trans HE7.out.y⟩
 refine store_gen rfl rfl 59 (.tmp 6) (.tmp 35) rfl (w.heap.size + 2) _ _ rfl rfl HE7.out.o Tryz.info7 rfl (by simp [Value.oneCell']) ⟨hS, ?_⟩
 refine wpAnyH_done (by kernel_rfl) ?_ _
 clear HE7 HF7 hS RA_7 RB_7 RC_7 RD_7 RE_7 RG_7
 go_wp2
 exact bodyPost_ret (results_cell_row Tryz.results63 _ _ (w.heap.size + 2) _ _ _ _ rfl HR.out Tryz.underlying59 rfl Tryz.info7) rfl ⟨_, rfl, ⟨_, _, rfl, HU.out, HV.out⟩, HW.out⟩
end Go.Proofs.YtdajgcgliidjbaaGreat
namespace Go.Proofs.YtdajgcgliidjbaaGreat
open Go.RowKit
structure G7 (w wc : World) (x y : Pt) : Prop where
 x : wc.heap[w.heap.size]? = some (.cells (aggT x) 25 (0, 0))
 y : wc.heap[w.heap.size + 1]? = some (.cells (aggT y) 25 (0, 0))
 o : wc.heap[w.heap.size + 2]? = some (.cells #[.string ⟨#[]⟩, .string ⟨#[]⟩] 25 (0, 0))
 b : Below w.heap.size w wc
theorem G7.lt {w wc : World} {x y : Pt} (h : G7 w wc x y) : w.heap.size + 2 < wc.heap.size := (Array.getElem?_eq_some_iff.1 h.o).1
theorem G7.on {w wc w' : World} {x y : Pt} (h : G7 w wc x y) (b : Below wc.heap.size wc w') : G7 w w' x y := by
 have := h.lt
 exact ⟨(b.block _ (by omega)).trans h.x, (b.block _ (by omega)).trans h.y, (b.block _ (by omega)).trans h.o, bt h.b b⟩
theorem G7.start (w : World) (x y : Pt) : G7 w (((w.alloc (.cells (aggT x) 25)).alloc (.cells (aggT y) 25)).alloc (.cells #[.string ⟨#[]⟩, .string ⟨#[]⟩] 25)) x y := by
 have b1 := (Below.refl w.heap.size w).alloc (Nat.le_refl _) (.cells (aggT x) 25)
 have r1 := heap_alloc_new w (.cells (aggT x) 25)
 have s1 : (w.alloc (.cells (aggT x) 25)).heap.size = w.heap.size + 1 := by simp
 generalize w.alloc (.cells (aggT x) 25) = w1 at *
 have b2 := (Below.refl w1.heap.size w1).alloc (Nat.le_refl _) (.cells (aggT y) 25)
 have r2 := heap_alloc_new w1 (.cells (aggT y) 25)
 have s2 : (w1.alloc (.cells (aggT y) 25)).heap.size = w1.heap.size + 1 := by simp
 generalize w1.alloc (.cells (aggT y) 25) = w2 at *
 have b3 := (Below.refl w2.heap.size w2).alloc (Nat.le_refl _) (.cells #[.string ⟨#[]⟩, .string ⟨#[]⟩] 25)
 have r3 := heap_alloc_new w2 (.cells #[.string ⟨#[]⟩, .string ⟨#[]⟩] 25)
 generalize w2.alloc (.cells #[.string ⟨#[]⟩, .string ⟨#[]⟩] 25) = w3 at *
 rw [s2, s1] at r3
 rw [s1] at r2
 exact ⟨(b3.block _ (by omega)).trans ((b2.block _ (by omega)).trans r1), (b3.block _ (by omega)).trans r2, r3, bt (bt b1 b2) b3⟩
theorem load_p {ops : Array Oper} {rest : List Oper} {o : Oper} {a : Act} {w : World} {Q : Exit → Act → World → Prop} (hgd : o.guard = none) (x : Operand) (ho : o.op = .load 25 x) (g : Nat) (z : Pt)
  (hx : a.eval x = .pointer (some ⟨g, 0, none⟩)) (h : w.heap[g]? = some (.cells (aggT z) 25 (0, 0))) (k : wpList Tryz.prog ops Q rest (a.put o.dst (.agg (aggT z))) w) : wpList Tryz.prog ops Q (o :: rest) a w :=
 wpList_load_row hgd _ x ho g hx _ _ _ _ h Tryz.underlying25 rfl Tryz.infoP k
theorem store_p {ops : Array Oper} {rest : List Oper} {o : Oper} {a : Act} {w : World} {Q : Exit → Act → World → Prop} (hgd : o.guard = none) (x y : Operand) (ho : o.op = .store 25 x y) (g : Nat) (C : Array Value) (z : Pt)
  (hx : a.eval x = .pointer (some ⟨g, 0, none⟩)) (hy : a.eval y = .agg (aggT z)) (h : w.heap[g]? = some (.cells C 25 (0, 0))) (hc : C.size = 2) (k : wpList Tryz.prog ops Q rest (a.put o.dst undef) (w.setRow g (aggT z))) : wpList Tryz.prog ops Q (o :: rest) a w :=
 wpList_plain hgd fun _ hK => wp_store_row _ x y ho g _ hx hy _ _ h Tryz.infoP hc (by simp [aggT, Value.oneCell']) (hK _ _ k)
theorem yields_p {ops : Array Oper} {S : World → Prop} {o : Oper} {a : Act} (hgd : o.guard = none) (x : Operand) (ho : o.op = .load 25 x) (g : Nat) (z : Pt)
  (hx : a.eval x = .pointer (some ⟨g, 0, none⟩)) (h : ∀ w, S w → w.heap[g]? = some (.cells (aggT z) 25 (0, 0))) : YieldsIf Tryz.prog ops S o (.agg (aggT z)) a := by
 refine .inl ⟨by simp only [Region.wanted, hgd], fun w hw => ?_⟩
 unfold execOp
 simp only [ho, hx]
 have e : (Instr.loadAt 25 (.pointer (some ⟨g, 0, none⟩))).run Tryz.prog w = .ok (.agg (aggT z)) w := by
  simp only [Instr.loadAt, Instr.sureAddr, Sem.run_bind, Sem.run_pure, Result.andThen_ok]
  exact run_loadVar_row w g _ _ _ _ _ (h w hw) Tryz.underlying25 rfl Tryz.infoP
 simp only [Sem.run_bind, e, Result.andThen_ok, Sem.run_pure]
theorem in_pair {x : Pt} {p : ByteArray} (h : pairB x p = true) : (x.1.size ≤ 1000000 ∧ x.2.size ≤ 1000000) ∧ InP2 (gV p) (valP x) := by
 obtain ⟨_, h1, h2⟩ := pairB_parts h
 have a := okG_size (restB_parts h1).1
 have b := okG_size (restB_parts h2).1
 exact ⟨⟨by omega, by omega⟩, (pair_num h).1⟩
theorem subPair_any (x y : Pt) (p : ByteArray) (w : World) : Calls Tryz.prog 88 #[.agg (aggT x), .agg (aggT y), .string p] w fun e w' => e = .returned (.agg (aggT (subPG x y p))) ∧ Below w.heap.size w w' := by
 have HP1 := Lib.hid (pairOk_any x p)
 have HP2 := Lib.hid (pairOk_any y p)
 have HG0 := Lib.hid (G7.start w x y)
 unfold subPG twoPB
 cases hx : pairB x p with
 | false =>
  rw [hx] at HP1
  rw [Bool.false_and, if_neg (by decide)]
  clear hx
  go_enter Tryz.func88, Tryz.ntmps88
  go_wp2_with (first | refine load_p rfl (.tmp 3) rfl w.heap.size x rfl HG0.out.x ?_)
  refine (HP1.out _).mono ?_
  rintro e w1 ⟨rfl, b1⟩
  have HG1 := Lib.hid (HG0.out.on b1)
  clear b1 HG0
  have HW := Lib.hid (below_setRow2 HG1.out.b (show w.heap.size ≤ w.heap.size + 2 by omega) (aggT noP))
  have HR := Lib.hid (setRow_heap w1 (w.heap.size + 2) _ (aggT noP) _ _ HG1.out.o)
  go_wp2_with (first | refine store_p rfl (.tmp 6) (.tmp 17) rfl (w.heap.size + 2) _ noP rfl rfl HG1.out.o rfl ?_)
  exact bodyPost_ret (results_cell_row Tryz.results88 _ _ (w.heap.size + 2) _ _ _ _ rfl HR.out Tryz.underlying25 rfl Tryz.infoP) rfl ⟨rfl, HW.out⟩
 | true =>
  rw [hx] at HP1
  rw [Bool.true_and]
  cases hy : pairB y p with
  | false =>
   rw [hy] at HP2
   rw [if_neg (by decide)]
   clear hx hy
   go_enter Tryz.func88, Tryz.ntmps88
   go_wp2_with (first | refine load_p rfl (.tmp 3) rfl w.heap.size x rfl HG0.out.x ?_)
   refine (HP1.out _).mono ?_
   rintro e w1 ⟨rfl, b1⟩
   have HG1 := Lib.hid (HG0.out.on b1)
   clear b1 HG0
   obtain ⟨cy1, cy2⟩ := agg_cells HG1.out.y
   go_wp2_with fail
   clear cy1 cy2
   refine (HP2.out _).mono ?_
   rintro e w2 ⟨rfl, b2⟩
   have HG2 := Lib.hid (HG1.out.on b2)
   clear b2 HG1
   have HW := Lib.hid (below_setRow2 HG2.out.b (show w.heap.size ≤ w.heap.size + 2 by omega) (aggT noP))
   have HR := Lib.hid (setRow_heap w2 (w.heap.size + 2) _ (aggT noP) _ _ HG2.out.o)
   go_wp2_with (first | refine store_p rfl (.tmp 6) (.tmp 17) rfl (w.heap.size + 2) _ noP rfl rfl HG2.out.o rfl ?_)
   exact bodyPost_ret (results_cell_row Tryz.results88 _ _ (w.heap.size + 2) _ _ _ _ rfl HR.out Tryz.underlying25 rfl Tryz.infoP) rfl ⟨rfl, HW.out⟩
  | true =>
   rw [hy] at HP2
   rw [if_pos rfl]
   obtain ⟨⟨sx1, sx2⟩, ix⟩ := in_pair hx
   obtain ⟨⟨sy1, sy2⟩, iy⟩ := in_pair hy
   obtain ⟨okp, h1⟩ := modB_parts (pairB_parts hx).1
   have sp := okG_size okp
   have hn := gV_lt okp
   have I1 := Lib.hid (fun w => in7_x x w sx1 sx2)
   have I2 := Lib.hid (fun w => in7_x y w sy1 sy2)
   have I3 := Lib.hid (fun w => in_x p w (by omega))
   have hin := subP_in (show 0 < gV p by omega) (valP x) (valP y)
   obtain ⟨T, hT⟩ : ∃ T, subP (gV p) (valP x) (valP y) = T := ⟨_, rfl⟩
   have HT := Lib.hid hT
   have s1 : T.1 < SM := sm_one (by rw [← hT]; exact Nat.lt_trans hin.1 hn)
   have s2 : T.2 < SM := sm_one (by rw [← hT]; exact Nat.lt_trans hin.2 hn)
   rw [hT]
   obtain ⟨R, hR⟩ : ∃ R, txtP T = R := ⟨_, rfl⟩
   have HRR := Lib.hid hR
   rw [hR]
   clear hx hy sx1 sx2 sy1 sy2 okp sp hin hT hR
   go_enter Tryz.func88, Tryz.ntmps88
   go_wp2_with (first | refine load_p rfl (.tmp 3) rfl w.heap.size x rfl HG0.out.x ?_)
   refine (HP1.out _).mono ?_
   rintro e w1 ⟨rfl, b1⟩
   have HG1 := Lib.hid (HG0.out.on b1)
   clear b1 HG0
   obtain ⟨cy1, cy2⟩ := agg_cells HG1.out.y
   go_wp2_with fail
   clear cy1 cy2
   refine (HP2.out _).mono ?_
   rintro e w2 ⟨rfl, b2⟩
   have HG3 := Lib.hid ((HG1.out.on b2).on (bd7 _))
   clear b2 HG1 HP1 HP2
   go_wp2_with fail
   refine wp_region_held (S := fun w' => w'.heap[w.heap.size]? = some (.cells (aggT x) 25 (0, 0)) ∧ w'.heap[w.heap.size + 1]? = some (.cells (aggT y) 25 (0, 0))) (by kernel_rfl) ?_
   change wpAnyH _ _ _ _ _ _ _ _ w2.drew
   generalize w2.drew = w3 at *
   refine wpAnyH_take (i := 0) (v := .agg (aggT x)) rfl (by kernel_rfl) (by kernel_rfl) (by kernel_rfl) (fun _ _ _ h => h) (yields_p rfl (.tmp 3) rfl w.heap.size x rfl fun _ h => h.1) ⟨HG3.out.x, HG3.out.y⟩ ?_
   refine wpAnyH_take (i := 2) (v := .agg (aggT y)) rfl (by kernel_rfl) (by kernel_rfl) (by kernel_rfl) (fun _ _ _ h => h) (yields_p rfl (.tmp 4) rfl (w.heap.size + 1) y rfl fun _ h => h.2) ⟨HG3.out.x, HG3.out.y⟩ ?_
   refine wpAnyH_take (i := 4) (v := .string p) rfl (by kernel_rfl) (by kernel_rfl) (by kernel_rfl) (fun _ _ _ h => h) (yields_if rfl fun _ _ => by unfold execOp; go_simp) ⟨HG3.out.x, HG3.out.y⟩ ?_
   refine wpAnyH_all (rs := [1]) (by kernel_rfl) (by decide) ?_
   intro i hi
   obtain rfl : i = 1 := by simpa using hi
   unfold wpOp
   go_simp
   left
   refine (I1.out _).mono ?_
   rintro e w4 ⟨vx, rfl, hvx, b4⟩
   have HG4 := Lib.hid (HG3.out.on b4)
   have HX4 := Lib.hid hvx
   clear b4 HG3 hvx
   refine ⟨⟨HG4.out.x, HG4.out.y⟩, ?_⟩
   refine wpAnyH_all (rs := [3]) (by kernel_rfl) (by decide) ?_
   intro i hi
   obtain rfl : i = 3 := by simpa using hi
   unfold wpOp
   go_simp
   left
   refine (I2.out _).mono ?_
   rintro e w5 ⟨vy, rfl, hvy, b5⟩
   have HG5 := Lib.hid (HG4.out.on b5)
   have HX5 := Lib.hid (HX4.out.below b5)
   have HY5 := Lib.hid hvy
   clear b5 HG4 hvy HX4
   refine ⟨⟨HG5.out.x, HG5.out.y⟩, ?_⟩
   refine wpAnyH_all (rs := [5]) (by kernel_rfl) (by decide) ?_
   intro i hi
   obtain rfl : i = 5 := by simpa using hi
   unfold wpOp
   go_simp
   left
   refine (I3.out _).mono ?_
   rintro e w6 ⟨vp, rfl, hvp, b6⟩
   have HG6 := Lib.hid (HG5.out.on b6)
   have L1 := Lib.hid (lsub7_x (HX5.out.below b6) (HY5.out.below b6) hvp ix iy hn)
   clear b6 HG5 hvp HX5 HY5
   refine ⟨⟨HG6.out.x, HG6.out.y⟩, ?_⟩
   refine wpAnyH_all (rs := [6]) (by kernel_rfl) (by decide) ?_
   intro i hi
   obtain rfl : i = 6 := by simpa using hi
   unfold wpOp
   go_simp
   left
   refine L1.out.mono ?_
   rintro e w7 ⟨vr, rfl, hvr, b7⟩
   rw [HT.out] at hvr
   have HG7 := Lib.hid (HG6.out.on b7)
   have O1 := Lib.hid (out7_x hvr s1 s2)
   rw [HRR.out] at O1
   clear b7 HG6 hvr L1
   refine ⟨⟨HG7.out.x, HG7.out.y⟩, ?_⟩
   refine wpAnyH_all (rs := [7]) (by kernel_rfl) (by decide) ?_
   intro i hi
   obtain rfl : i = 7 := by simpa using hi
   unfold wpOp
   go_simp
   left
   refine O1.out.mono ?_
   rintro e w8 ⟨rfl, b8⟩
   have HG8 := Lib.hid (HG7.out.on b8)
   clear b8 HG7 O1
   refine ⟨⟨HG8.out.x, HG8.out.y⟩, ?_⟩
   refine wpAnyH_all (rs := [8]) (by kernel_rfl) (by decide) ?_
   intro i hi
   obtain rfl : i = 8 := by simpa using hi
   have HW := Lib.hid (below_setRow2 HG8.out.b (show w.heap.size ≤ w.heap.size + 2 by omega) (aggT R))
   have HR := Lib.hid (setRow_heap w8 (w.heap.size + 2) _ (aggT R) _ _ HG8.out.o)
   have hS : (w8.setRow (w.heap.size + 2) (aggT R)).heap[w.heap.size]? = some (.cells (aggT x) 25 (0, 0)) ∧ (w8.setRow (w.heap.size + 2) (aggT R)).heap[w.heap.size + 1]? = some (.cells (aggT y) 25 (0, 0)) := ⟨(setRow_other _ _ _ _ (by omega)).trans HG8.out.x, (setRow_other _ _ _ _ (by omega)).trans HG8.out.y⟩
   refine store_gen rfl rfl 25 (.tmp 6) (.tmp 25) rfl (w.heap.size + 2) _ (aggT R) rfl rfl HG8.out.o Tryz.infoP rfl (by simp [aggT, Value.oneCell']) ⟨hS, ?_⟩
   refine wpAnyH_done (by kernel_rfl) ?_ _
   clear HG8 hS
   go_wp2
   exact bodyPost_ret (results_cell_row Tryz.results88 _ _ (w.heap.size + 2) _ _ _ _ rfl HR.out Tryz.underlying25 rfl Tryz.infoP) rfl ⟨rfl, HW.out⟩
end Go.Proofs.YtdajgcgliidjbaaGreat
namespace Go.Proofs.YtdajgcgliidjbaaGreat
open Go.RowKit
theorem lnorm7_x {w : World} {vx vp : Value} {x : Pn} {n : Nat} (hx : PairX w vx x) (hp : RowX w vp n) (ix : InP2 n x) (hn : n < GB) :
  Calls Tryz.prog 130 #[vx, vp] w (RowTo (normP n x) w) := by
 obtain ⟨ax, bx, rfl, hx1, hx2⟩ := hx
 have HF0 := Lib.hid (F7.mk (x := x) (y := x) hx1 hx2 hx1 hx2 hp)
 obtain ⟨a1, n1, c1, rfl⟩ := hx1.shape
 obtain ⟨a2, n2, c2, rfl⟩ := hx2.shape
 obtain ⟨a5, n5, c5, rfl⟩ := hp.shape
 obtain ⟨qx, hqx⟩ : ∃ q : Array Value, #[.slice a1 n1 c1, .slice a2 n2 c2] = q := ⟨_, rfl⟩
 have HQX := Lib.hid hqx
 have HN : Hid ((w.alloc (.cells qx 59)).heap[w.heap.size]? = some (.cells qx 59 (0, 0)) ∧ Below w.heap.size w (w.alloc (.cells qx 59))) := ⟨heap_alloc_new w _, (Below.refl _ _).alloc (Nat.le_refl _) _⟩
 obtain ⟨i1, i2⟩ := ix
 have h0 : 0 < n := by omega
 rw [hqx]
 clear hx1 hx2 hp hqx
 go_enter Tryz.func130, Tryz.ntmps130
 go_wp2_with fail
 have hsz : w.heap.size < (w.alloc (.cells qx 59)).heap.size := (Array.getElem?_eq_some_iff.1 HN.out.1).1
 generalize w.alloc (.cells qx 59) = wa at *
 have HX1 : Hid (wa.drew.heap[w.heap.size]? = some (.cells qx 59 (0, 0))) := HN.out.1
 have HB1 := Lib.hid (bt HN.out.2 (bd7 wa))
 have HF1 := Lib.hid ((HF0.out.on HN.out.2).on (bd7 wa))
 have hsz1 : w.heap.size < wa.drew.heap.size := hsz
 clear HN HF0 hsz
 refine wp_region_held (S := fun w' => w'.heap[w.heap.size]? = some (.cells qx 59 (0, 0))) (by kernel_rfl) ?_
 change wpAnyH _ _ _ _ _ _ _ _ wa.drew
 generalize wa.drew = w1 at *
 refine wpAnyH_take (i := 0) (v := .pointer (some ⟨w.heap.size, 0, none⟩)) rfl (by kernel_rfl) (by kernel_rfl) (by kernel_rfl) (fun _ _ _ h => h) (yields_if rfl fun _ _ => by unfold execOp; go_simp) HX1.out ?_
 refine wpAnyH_take (i := 1) (v := .slice a1 n1 c1) rfl (by kernel_rfl) (by kernel_rfl) (by kernel_rfl) (fun _ _ _ h => h) (yields_if rfl fun _ hw => by have c := (pair_cells HQX.out hw).1; unfold execOp; go_simp) HX1.out ?_
 refine wpAnyH_take (i := 2) (v := .pointer (some ⟨w.heap.size, 0, none⟩)) rfl (by kernel_rfl) (by kernel_rfl) (by kernel_rfl) (fun _ _ _ h => h) (yields_if rfl fun _ _ => by unfold execOp; go_simp) HX1.out ?_
 refine wpAnyH_take (i := 3) (v := .slice a1 n1 c1) rfl (by kernel_rfl) (by kernel_rfl) (by kernel_rfl) (fun _ _ _ h => h) (yields_if rfl fun _ hw => by have c := (pair_cells HQX.out hw).1; unfold execOp; go_simp) HX1.out ?_
 refine wpAnyH_take (i := 4) (v := .slice a5 n5 c5) rfl (by kernel_rfl) (by kernel_rfl) (by kernel_rfl) (fun _ _ _ h => h) (yields_if rfl fun _ _ => by unfold execOp; go_simp) HX1.out ?_
 refine wpAnyH_take (i := 6) (v := .pointer (some ⟨w.heap.size, 1, none⟩)) rfl (by kernel_rfl) (by kernel_rfl) (by kernel_rfl) (fun _ _ _ h => h) (yields_if rfl fun _ _ => by unfold execOp; go_simp) HX1.out ?_
 refine wpAnyH_take (i := 7) (v := .slice a2 n2 c2) rfl (by kernel_rfl) (by kernel_rfl) (by kernel_rfl) (fun _ _ _ h => h) (yields_if rfl fun _ hw => by have c := (pair_cells HQX.out hw).2; unfold execOp; go_simp) HX1.out ?_
 refine wpAnyH_take (i := 8) (v := .pointer (some ⟨w.heap.size, 1, none⟩)) rfl (by kernel_rfl) (by kernel_rfl) (by kernel_rfl) (fun _ _ _ h => h) (yields_if rfl fun _ _ => by unfold execOp; go_simp) HX1.out ?_
 refine wpAnyH_take (i := 9) (v := .slice a2 n2 c2) rfl (by kernel_rfl) (by kernel_rfl) (by kernel_rfl) (fun _ _ _ h => h) (yields_if rfl fun _ hw => by have c := (pair_cells HQX.out hw).2; unfold execOp; go_simp) HX1.out ?_
 refine wpAnyH_take (i := 10) (v := .slice a5 n5 c5) rfl (by kernel_rfl) (by kernel_rfl) (by kernel_rfl) (fun _ _ _ h => h) (yields_if rfl fun _ _ => by unfold execOp; go_simp) HX1.out ?_
 refine wpAnyH_take (i := 12) (v := .slice a5 n5 c5) rfl (by kernel_rfl) (by kernel_rfl) (by kernel_rfl) (fun _ _ _ h => h) (yields_if rfl fun _ _ => by unfold execOp; go_simp) HX1.out ?_
 refine wpAnyH_all (rs := [5]) (by kernel_rfl) (by decide) ?_
 intro i hi
 obtain rfl : i = 5 := by simpa using hi
 unfold wpOp
 go_simp
 left
 refine (lmul_x HF1.out.x1 HF1.out.y1 HF1.out.p (by omega) (by omega) h0).mono ?_
 rintro e w2 ⟨vA, rfl, hA, b2⟩
 have HX2 := Lib.hid ((b2.block _ hsz1).trans HX1.out)
 have HB2 := Lib.hid (bt HB1.out b2)
 have HF2 := Lib.hid (HF1.out.on b2)
 have RA := Lib.hid hA
 have hsz2 : w.heap.size < w2.heap.size := (Array.getElem?_eq_some_iff.1 HX2.out).1
 obtain ⟨sA, mA, kA, rfl⟩ := hA.shape
 clear hA b2 HX1 HB1 HF1 hsz1
 refine ⟨HX2.out, ?_⟩
 refine wpAnyH_all (rs := [11]) (by kernel_rfl) (by decide) ?_
 intro i hi
 obtain rfl : i = 11 := by simpa using hi
 unfold wpOp
 go_simp
 left
 refine (lmul_x HF2.out.x2 HF2.out.y2 HF2.out.p (by omega) (by omega) h0).mono ?_
 rintro e w3 ⟨vB, rfl, hB, b3⟩
 have HX3 := Lib.hid ((b3.block _ hsz2).trans HX2.out)
 have HB3 := Lib.hid (bt HB2.out b3)
 have L1 := Lib.hid (ladd_x (RA.out.below b3) hB (HF2.out.on b3).p (Nat.mod_lt _ h0) (Nat.mod_lt _ h0) hn)
 have hsz3 : w.heap.size < w3.heap.size := (Array.getElem?_eq_some_iff.1 HX3.out).1
 obtain ⟨sB, mB, kB, rfl⟩ := hB.shape
 clear hB b3 HX2 HB2 HF2 RA hsz2
 refine ⟨HX3.out, ?_⟩
 refine wpAnyH_all (rs := [13]) (by kernel_rfl) (by decide) ?_
 intro i hi
 obtain rfl : i = 13 := by simpa using hi
 unfold wpOp
 go_simp
 left
 refine L1.out.mono ?_
 rintro e w4 ⟨vC, rfl, hC, b4⟩
 have HX4 := Lib.hid ((b4.block _ hsz3).trans HX3.out)
 have R : Hid (RowTo (normP n x) w (.returned vC) w4) := ⟨vC, rfl, hC, bt HB3.out b4⟩
 obtain ⟨sC, mC, kC, rfl⟩ := hC.shape
 clear hC b4 HX3 HB3 L1 hsz3
 refine ⟨HX4.out, ?_⟩
 refine wpAnyH_take (i := 14) (v := .slice sC mC kC) rfl (by kernel_rfl) (by kernel_rfl) (by kernel_rfl) (fun _ _ _ h => h) (yields_if rfl fun _ _ => by unfold execOp; go_simp) HX4.out ?_
 refine wpAnyH_done (by kernel_rfl) ?_ _
 clear HX4
 go_wp2
 go_ret
 exact R.out
end Go.Proofs.YtdajgcgliidjbaaGreat
namespace Go.Proofs.YtdajgcgliidjbaaGreat
open Go.RowKit
theorem normOf_any (x : Pt) (p : ByteArray) (w : World) : Calls Tryz.prog 133 #[.agg (aggT x), .string p] w fun e w' => e = .returned (.string (normG x p)) ∧ Below w.heap.size w w' := by
 have HP := Lib.hid (pairOk_any x p)
 have HN := Lib.hid (agg_new w x 25)
 unfold normG
 cases hx : pairB x p with
 | false =>
  rw [hx] at HP
  rw [if_neg (by decide)]
  clear hx
  go_enter Tryz.func133, Tryz.ntmps133
  go_wp2_with (first | refine load_p rfl (.tmp 2) rfl w.heap.size x rfl HN.out.1 ?_)
  refine (HP.out _).mono ?_
  rintro e w1 ⟨rfl, b1⟩
  have B1 := Lib.hid (bt HN.out.2 b1)
  clear b1
  go_wp2
  go_ret
  exact ⟨rfl, B1.out⟩
 | true =>
  rw [hx] at HP
  rw [if_pos rfl]
  obtain ⟨⟨sx1, sx2⟩, ix⟩ := in_pair hx
  obtain ⟨okp, h1⟩ := modB_parts (pairB_parts hx).1
  have sp := okG_size okp
  have hn := gV_lt okp
  have I1 := Lib.hid (fun w => in7_x x w sx1 sx2)
  have I3 := Lib.hid (fun w => in_x p w (by omega))
  have hlt := normP_lt (show 0 < gV p by omega) (valP x)
  have hsm : normP (gV p) (valP x) < SM := sm_one (Nat.lt_trans hlt hn)
  clear hx sx1 sx2 okp sp hlt
  go_enter Tryz.func133, Tryz.ntmps133
  go_wp2_with (first | refine load_p rfl (.tmp 2) rfl w.heap.size x rfl HN.out.1 ?_)
  refine (HP.out _).mono ?_
  rintro e w1 ⟨rfl, b1⟩
  have hsz : w.heap.size < (w.alloc (.cells (aggT x) 25)).heap.size := (Array.getElem?_eq_some_iff.1 HN.out.1).1
  have HX1 := Lib.hid ((b1.block _ hsz).trans HN.out.1)
  have B1 := Lib.hid (bt HN.out.2 b1)
  clear b1 HN hsz HP
  go_wp2_with (first | refine load_p rfl (.tmp 2) rfl w.heap.size x rfl HX1.out ?_)
  refine (I1.out _).mono ?_
  rintro e w2 ⟨vx, rfl, hvx, b2⟩
  have HV := Lib.hid hvx
  have B2 := Lib.hid (bt B1.out b2)
  obtain ⟨ax, bx, rfl, _, _⟩ := hvx
  clear b2 B1 HX1 I1
  go_wp2_with fail
  refine (I3.out _).mono ?_
  rintro e w3 ⟨vp, rfl, hvp, b3⟩
  have L1 := Lib.hid (lnorm7_x (HV.out.below b3) hvp ix hn)
  have B3 := Lib.hid (bt B2.out b3)
  obtain ⟨a5, n5, c5, rfl⟩ := hvp.shape
  clear b3 B2 HV hvp I3
  go_wp2_with fail
  refine L1.out.mono ?_
  rintro e w4 ⟨vr, rfl, hvr, b4⟩
  have O1 := Lib.hid (out_x hvr hsm)
  have B4 := Lib.hid (bt B3.out b4)
  obtain ⟨a6, n6, c6, rfl⟩ := hvr.shape
  clear b4 B3 hvr L1
  go_wp2_with fail
  refine O1.out.mono ?_
  rintro e w5 ⟨rfl, b5⟩
  have B5 := Lib.hid (bt B4.out b5)
  clear b5 B4 O1
  go_wp2
  go_ret
  exact ⟨rfl, B5.out⟩
theorem negPair_any (x : Pt) (p : ByteArray) (w : World) : Calls Tryz.prog 51 #[.agg (aggT x), .string p] w fun e w' => e = .returned (.agg (aggT (negPG x p))) ∧ Below w.heap.size w w' := by
 have HS := Lib.hid (subPair_any noP x p)
 unfold negPG
 generalize subPG noP x p = R at *
 have HX2 := Lib.hid (heap_alloc2_old w (.cells (aggT x) 25) (.cells #[.string ⟨#[]⟩, .string ⟨#[]⟩] 25))
 have HO2 := Lib.hid (heap_alloc2_new w (.cells (aggT x) 25) (.cells #[.string ⟨#[]⟩, .string ⟨#[]⟩] 25))
 have HB2 := Lib.hid (((Below.refl w.heap.size w).alloc (Nat.le_refl _) (.cells (aggT x) 25)).alloc (by simp) (.cells #[.string ⟨#[]⟩, .string ⟨#[]⟩] 25))
 go_enter Tryz.func51, Tryz.ntmps51
 go_wp2_with (first | refine load_p rfl (.tmp 2) rfl w.heap.size x rfl HX2.out ?_)
 generalize (w.alloc (.cells (aggT x) 25)).alloc (.cells #[.string ⟨#[]⟩, .string ⟨#[]⟩] 25) = w2 at *
 have hz2 : w.heap.size + 1 < w2.heap.size := (Array.getElem?_eq_some_iff.1 HO2.out).1
 refine (HS.out _).mono ?_
 rintro e w3 ⟨rfl, b3⟩
 have HO3 := Lib.hid ((b3.block _ hz2).trans HO2.out)
 have HB3 := Lib.hid (bt HB2.out b3)
 have HW := Lib.hid (below_setRow2 HB3.out (show w.heap.size ≤ w.heap.size + 1 by omega) (aggT R))
 have HR := Lib.hid (setRow_heap w3 (w.heap.size + 1) _ (aggT R) _ _ HO3.out)
 clear b3 HB2 HO2 HX2 HS
 go_wp2_with (first | refine store_p rfl (.tmp 4) (.tmp 8) rfl (w.heap.size + 1) _ R rfl rfl HO3.out rfl ?_)
 exact bodyPost_ret (results_cell_row Tryz.results51 _ _ (w.heap.size + 1) _ _ _ _ rfl HR.out Tryz.underlying25 rfl Tryz.infoP) rfl ⟨rfl, HW.out⟩
end Go.Proofs.YtdajgcgliidjbaaGreat
namespace Go.Proofs.YtdajgcgliidjbaaGreat
open Go.RowKit
end Go.Proofs.YtdajgcgliidjbaaGreat
namespace Go.Proofs.YtdajgcgliidjbaaGreat
open Go.RowKit
def Held (w : World) (l : List (Nat × Array Value × TypeId)) : Prop := ∀ q ∈ l, w.heap[q.1]? = some (.cells q.2.1 q.2.2 (0, 0))
theorem Held.on {w w' : World} {l : List (Nat × Array Value × TypeId)} (h : Held w l) (b : Below w.heap.size w w') : Held w' l := fun q hq => (b.block _ (Array.getElem?_eq_some_iff.1 (h q hq)).1).trans (h q hq)
theorem Held.apart {w : World} {l : List (Nat × Array Value × TypeId)} (h : Held w l) : ∀ q ∈ l, q.1 ≠ w.heap.size := fun q hq e => by
 have := (Array.getElem?_eq_some_iff.1 (h q hq)).1
 omega
theorem Held.tail {w : World} {q : Nat × Array Value × TypeId} {l : List (Nat × Array Value × TypeId)} (h : Held w (q :: l)) : Held w l := fun r hr => h r (List.mem_cons_of_mem _ hr)
theorem Held.cons {w : World} {g : Nat} {C : Array Value} {t : TypeId} {l : List (Nat × Array Value × TypeId)} (h : Held w l) (hg : w.heap[g]? = some (.cells C t (0, 0))) : Held w ((g, C, t) :: l) := fun q hq => by
 rcases List.mem_cons.1 hq with rfl | hq
 ·exact hg
 ·exact h q hq
theorem Held.none (w : World) : Held w [] := fun q hq => by cases hq
theorem Held.put {w : World} {l : List (Nat × Array Value × TypeId)} {g : Nat} {C : Array Value} {t : TypeId} (h : Held w l) (ap : ∀ q ∈ l, q.1 ≠ g) (hg : w.heap[g]? = some (.cells C t (0, 0))) (C' : Array Value) : Held (w.setRow g C') ((g, C', t) :: l) :=
 Held.cons (fun q hq => (setRow_other _ _ _ _ (ap q hq)).trans (h q hq)) (setRow_heap _ _ _ _ _ _ hg)
theorem Held.new {w : World} {l : List (Nat × Array Value × TypeId)} (h : Held w l) (C C' : Array Value) (t : TypeId) : Held ((w.alloc (.cells C t)).setRow w.heap.size C') ((w.heap.size, C', t) :: l) ∧ Below w.heap.size w ((w.alloc (.cells C t)).setRow w.heap.size C') :=
 ⟨(h.on ((Below.refl _ _).alloc (Nat.le_refl _) _)).put h.apart (heap_alloc_new w _) C', below_setRow2 ((Below.refl _ _).alloc (Nat.le_refl _) _) (Nat.le_refl _) _⟩
end Go.Proofs.YtdajgcgliidjbaaGreat

import Derived.Test.YtejmogdognenmaaUBase
/-
  The contracts of spec's l07Add, l07Sub and l07Mul.
-/
namespace Go.Proofs.Ytejmogdognenmaa
open Go.RowKit
/-- The rows that a call is handed. -/
structure F7 (wc : World) (ax bx ay by_ vp : Value) (x y : Pn) (n : Nat) : Prop where
  x1 : RowX wc ax x.1
  x2 : RowX wc bx x.2
  y1 : RowX wc ay y.1
  y2 : RowX wc by_ y.2
  p : RowX wc vp n
theorem F7.on {wc w' : World} {ax bx ay by_ vp : Value} {x y : Pn} {n : Nat} (h : F7 wc ax bx ay by_ vp x y n) (b : Below wc.heap.size wc w') : F7 w' ax bx ay by_ vp x y n := ⟨h.x1.below b, h.x2.below b, h.y1.below b, h.y2.below b, h.p.below b⟩
theorem bd7 (w : World) : Below w.heap.size w w.drew := ⟨rfl, rfl, rfl, Nat.le_refl _, fun _ _ => rfl⟩
theorem pair_cells {a b : Value} {q : Array Value} (hq : #[a, b] = q) {w : World} {g : Nat} {t : TypeId} (h : w.heap[g]? = some (.cells q t (0, 0))) : w.cell? ⟨g, 0, none⟩ = some a ∧ w.cell? ⟨g, 1, none⟩ = some b := by
  subst hq
  exact ⟨(cell_of_row w g 0 _ _ _ h).trans rfl, (cell_of_row w g 1 _ _ _ h).trans rfl⟩
end Go.Proofs.Ytejmogdognenmaa
/-
  The contracts of spec.AddPair, SubPair and MulPair.
-/
namespace Go.Proofs.Ytejmogdognenmaa
open Go.RowKit
theorem load_p {ops : Array Oper} {rest : List Oper} {o : Oper} {a : Act} {w : World} {Q : Exit → Act → World → Prop} (hgd : o.guard = none) (x : Operand) (ho : o.op = .load 27 x) (g : Nat) (z : Pt)
    (hx : a.eval x = .pointer (some ⟨g, 0, none⟩)) (h : w.heap[g]? = some (.cells (aggT z) 27 (0, 0))) (k : wpList Try.prog ops Q rest (a.put o.dst (.agg (aggT z))) w) : wpList Try.prog ops Q (o :: rest) a w :=
  wpList_load_row hgd _ x ho g hx _ _ _ _ h Try.underlying27 rfl Try.infoP k
theorem store_p {ops : Array Oper} {rest : List Oper} {o : Oper} {a : Act} {w : World} {Q : Exit → Act → World → Prop} (hgd : o.guard = none) (x y : Operand) (ho : o.op = .store 27 x y) (g : Nat) (C : Array Value) (z : Pt)
    (hx : a.eval x = .pointer (some ⟨g, 0, none⟩)) (hy : a.eval y = .agg (aggT z)) (h : w.heap[g]? = some (.cells C 27 (0, 0))) (hc : C.size = 2) (k : wpList Try.prog ops Q rest (a.put o.dst undef) (w.setRow g (aggT z))) : wpList Try.prog ops Q (o :: rest) a w :=
  wpList_plain hgd fun _ hK => wp_store_row _ x y ho g _ hx hy _ _ h Try.infoP hc (by simp [aggT, Value.oneCell']) (hK _ _ k)
theorem in_pair {x : Pt} {p : ByteArray} (h : pairB x p = true) : (x.1.size ≤ 1000000 ∧ x.2.size ≤ 1000000) ∧ InP2 (gV p) (valP x) := by
  obtain ⟨_, h1, h2⟩ := pairB_parts h
  have a := okG_size (restB_parts h1).1
  have b := okG_size (restB_parts h2).1
  exact ⟨⟨by omega, by omega⟩, (pair_num h).1⟩
end Go.Proofs.Ytejmogdognenmaa
/-
  The contract of spec's l07Norm.
-/
namespace Go.Proofs.Ytejmogdognenmaa
open Go.RowKit
set_option maxRecDepth 8000 in
set_option maxHeartbeats 4000000 in
theorem lnorm7_x {w : World} {vx vp : Value} {x : Pn} {n : Nat} (hx : PairX w vx x) (hp : RowX w vp n) (ix : InP2 n x) (hn : n < GB) :
    Calls Try.prog 44 #[vx, vp] w (RowTo (normP n x) w) := by
  obtain ⟨ax, bx, rfl, hx1, hx2⟩ := hx
  have HF0 := Lib.hid (F7.mk (x := x) (y := x) hx1 hx2 hx1 hx2 hp)
  obtain ⟨a1, n1, c1, rfl⟩ := hx1.shape
  obtain ⟨a2, n2, c2, rfl⟩ := hx2.shape
  obtain ⟨a5, n5, c5, rfl⟩ := hp.shape
  obtain ⟨qx, hqx⟩ : ∃ q : Array Value, #[.slice a1 n1 c1, .slice a2 n2 c2] = q := ⟨_, rfl⟩
  have HQX := Lib.hid hqx
  have HN : Hid ((w.alloc (.cells qx 49)).heap[w.heap.size]? = some (.cells qx 49 (0, 0)) ∧ Below w.heap.size w (w.alloc (.cells qx 49))) := ⟨heap_alloc_new w _, (Below.refl _ _).alloc (Nat.le_refl _) _⟩
  obtain ⟨i1, i2⟩ := ix
  have h0 : 0 < n := by omega
  rw [hqx]
  clear hx1 hx2 hp hqx
  go_enter Try.func44, Try.ntmps44
  go_wp2_with fail
  have hsz : w.heap.size < (w.alloc (.cells qx 49)).heap.size := (Array.getElem?_eq_some_iff.1 HN.out.1).1
  generalize w.alloc (.cells qx 49) = wa at *
  have HX1 : Hid (wa.drew.heap[w.heap.size]? = some (.cells qx 49 (0, 0))) := HN.out.1
  have HB1 := Lib.hid (bt HN.out.2 (bd7 wa))
  have HF1 := Lib.hid ((HF0.out.on HN.out.2).on (bd7 wa))
  have hsz1 : w.heap.size < wa.drew.heap.size := hsz
  clear HN HF0 hsz
  refine wp_region_held (S := fun w' => w'.heap[w.heap.size]? = some (.cells qx 49 (0, 0))) (by kernel_rfl) ?_
  change wpAnyH _ _ _ _ _ _ _ _ wa.drew
  generalize wa.drew = w1 at *
  refine wpAnyH_take (i := 0) (v := .pointer (some ⟨w.heap.size, 0, none⟩)) rfl (by kernel_rfl) (by kernel_rfl) (by kernel_rfl) (fun _ _ _ h => h) (yields_if rfl fun _ _ => by unfold execOp; go_simp) HX1.out ?_
  refine wpAnyH_take (i := 1) (v := .slice a1 n1 c1) rfl (by kernel_rfl) (by kernel_rfl) (by kernel_rfl) (fun _ _ _ h => h) (yields_if rfl fun _ hw => by have c := (pair_cells HQX.out hw).1; unfold execOp; go_simp) HX1.out ?_
  refine wpAnyH_take (i := 2) (v := .pointer (some ⟨w.heap.size, 0, none⟩)) rfl (by kernel_rfl) (by kernel_rfl) (by kernel_rfl) (fun _ _ _ h => h) (yields_if rfl fun _ _ => by unfold execOp; go_simp) HX1.out ?_
  refine wpAnyH_take (i := 3) (v := .slice a1 n1 c1) rfl (by kernel_rfl) (by kernel_rfl) (by kernel_rfl) (fun _ _ _ h => h) (yields_if rfl fun _ hw => by have c := (pair_cells HQX.out hw).1; unfold execOp; go_simp) HX1.out ?_
  refine wpAnyH_take (i := 4) (v := .slice a5 n5 c5) rfl (by kernel_rfl) (by kernel_rfl) (by kernel_rfl) (fun _ _ _ h => h) (yields_if rfl fun _ _ => by unfold execOp; go_simp) HX1.out ?_
  refine wpAnyH_take (i := 6) (v := .pointer (some ⟨w.heap.size, 1, none⟩)) rfl (by kernel_rfl) (by kernel_rfl) (by kernel_rfl) (fun _ _ _ h => h) (yields_if rfl fun _ _ => by unfold execOp; go_simp) HX1.out ?_
  refine wpAnyH_take (i := 7) (v := .slice a2 n2 c2) rfl (by kernel_rfl) (by kernel_rfl) (by kernel_rfl) (fun _ _ _ h => h) (yields_if rfl fun _ hw => by have c := (pair_cells HQX.out hw).2; unfold execOp; go_simp) HX1.out ?_
  refine wpAnyH_take (i := 8) (v := .pointer (some ⟨w.heap.size, 1, none⟩)) rfl (by kernel_rfl) (by kernel_rfl) (by kernel_rfl) (fun _ _ _ h => h) (yields_if rfl fun _ _ => by unfold execOp; go_simp) HX1.out ?_
  refine wpAnyH_take (i := 9) (v := .slice a2 n2 c2) rfl (by kernel_rfl) (by kernel_rfl) (by kernel_rfl) (fun _ _ _ h => h) (yields_if rfl fun _ hw => by have c := (pair_cells HQX.out hw).2; unfold execOp; go_simp) HX1.out ?_
  refine wpAnyH_take (i := 10) (v := .slice a5 n5 c5) rfl (by kernel_rfl) (by kernel_rfl) (by kernel_rfl) (fun _ _ _ h => h) (yields_if rfl fun _ _ => by unfold execOp; go_simp) HX1.out ?_
  refine wpAnyH_take (i := 12) (v := .slice a5 n5 c5) rfl (by kernel_rfl) (by kernel_rfl) (by kernel_rfl) (fun _ _ _ h => h) (yields_if rfl fun _ _ => by unfold execOp; go_simp) HX1.out ?_
  refine wpAnyH_all (rs := [5]) (by kernel_rfl) (by decide) ?_
  intro i hi
  obtain rfl : i = 5 := by simpa using hi
  unfold wpOp
  go_simp
  left
  refine (lmul_x HF1.out.x1 HF1.out.y1 HF1.out.p (by omega) (by omega) h0).mono ?_
  rintro e w2 ⟨vA, rfl, hA, b2⟩
  have HX2 := Lib.hid ((b2.block _ hsz1).trans HX1.out)
  have HB2 := Lib.hid (bt HB1.out b2)
  have HF2 := Lib.hid (HF1.out.on b2)
  have RA := Lib.hid hA
  have hsz2 : w.heap.size < w2.heap.size := (Array.getElem?_eq_some_iff.1 HX2.out).1
  obtain ⟨sA, mA, kA, rfl⟩ := hA.shape
  clear hA b2 HX1 HB1 HF1 hsz1
  refine ⟨HX2.out, ?_⟩
  refine wpAnyH_all (rs := [11]) (by kernel_rfl) (by decide) ?_
  intro i hi
  obtain rfl : i = 11 := by simpa using hi
  unfold wpOp
  go_simp
  left
  refine (lmul_x HF2.out.x2 HF2.out.y2 HF2.out.p (by omega) (by omega) h0).mono ?_
  rintro e w3 ⟨vB, rfl, hB, b3⟩
  have HX3 := Lib.hid ((b3.block _ hsz2).trans HX2.out)
  have HB3 := Lib.hid (bt HB2.out b3)
  have L1 := Lib.hid (ladd_x (RA.out.below b3) hB (HF2.out.on b3).p (Nat.mod_lt _ h0) (Nat.mod_lt _ h0) hn)
  have hsz3 : w.heap.size < w3.heap.size := (Array.getElem?_eq_some_iff.1 HX3.out).1
  obtain ⟨sB, mB, kB, rfl⟩ := hB.shape
  clear hB b3 HX2 HB2 HF2 RA hsz2
  refine ⟨HX3.out, ?_⟩
  refine wpAnyH_all (rs := [13]) (by kernel_rfl) (by decide) ?_
  intro i hi
  obtain rfl : i = 13 := by simpa using hi
  unfold wpOp
  go_simp
  left
  refine L1.out.mono ?_
  rintro e w4 ⟨vC, rfl, hC, b4⟩
  have HX4 := Lib.hid ((b4.block _ hsz3).trans HX3.out)
  have R : Hid (RowTo (normP n x) w (.returned vC) w4) := ⟨vC, rfl, hC, bt HB3.out b4⟩
  obtain ⟨sC, mC, kC, rfl⟩ := hC.shape
  clear hC b4 HX3 HB3 L1 hsz3
  refine ⟨HX4.out, ?_⟩
  refine wpAnyH_take (i := 14) (v := .slice sC mC kC) rfl (by kernel_rfl) (by kernel_rfl) (by kernel_rfl) (fun _ _ _ h => h) (yields_if rfl fun _ _ => by unfold execOp; go_simp) HX4.out ?_
  refine wpAnyH_done (by kernel_rfl) ?_ _
  clear HX4
  go_wp2
  go_ret
  exact R.out
end Go.Proofs.Ytejmogdognenmaa
/-
  The contracts of spec.NormOf and NegPair.
-/
namespace Go.Proofs.Ytejmogdognenmaa
open Go.RowKit
set_option maxRecDepth 8000 in
set_option maxHeartbeats 2000000 in
theorem normOf_any (x : Pt) (p : ByteArray) (w : World) : Calls Try.prog 23 #[.agg (aggT x), .string p] w fun e w' => e = .returned (.string (normG x p)) ∧ Below w.heap.size w w' := by
  have HP := Lib.hid (pairOk_any x p)
  have HN := Lib.hid (agg_new w x 27)
  unfold normG
  cases hx : pairB x p with
  | false =>
    rw [hx] at HP
    rw [if_neg (by decide)]
    clear hx
    go_enter Try.func23, Try.ntmps23
    go_wp2_with (first | refine load_p rfl (.tmp 2) rfl w.heap.size x rfl HN.out.1 ?_)
    refine (HP.out _).mono ?_
    rintro e w1 ⟨rfl, b1⟩
    have B1 := Lib.hid (bt HN.out.2 b1)
    clear b1
    go_wp2
    go_ret
    exact ⟨rfl, B1.out⟩
  | true =>
    rw [hx] at HP
    rw [if_pos rfl]
    obtain ⟨⟨sx1, sx2⟩, ix⟩ := in_pair hx
    obtain ⟨okp, h1⟩ := modB_parts (pairB_parts hx).1
    have sp := okG_size okp
    have hn := gV_lt okp
    have I1 := Lib.hid (fun w => in7_x x w sx1 sx2)
    have I3 := Lib.hid (fun w => in_x p w (by omega))
    have hlt := normP_lt (show 0 < gV p by omega) (valP x)
    have hsm : normP (gV p) (valP x) < SM := sm_one (Nat.lt_trans hlt hn)
    clear hx sx1 sx2 okp sp hlt
    go_enter Try.func23, Try.ntmps23
    go_wp2_with (first | refine load_p rfl (.tmp 2) rfl w.heap.size x rfl HN.out.1 ?_)
    refine (HP.out _).mono ?_
    rintro e w1 ⟨rfl, b1⟩
    have hsz : w.heap.size < (w.alloc (.cells (aggT x) 27)).heap.size := (Array.getElem?_eq_some_iff.1 HN.out.1).1
    have HX1 := Lib.hid ((b1.block _ hsz).trans HN.out.1)
    have B1 := Lib.hid (bt HN.out.2 b1)
    clear b1 HN hsz HP
    go_wp2_with (first | refine load_p rfl (.tmp 2) rfl w.heap.size x rfl HX1.out ?_)
    refine (I1.out _).mono ?_
    rintro e w2 ⟨vx, rfl, hvx, b2⟩
    have HV := Lib.hid hvx
    have B2 := Lib.hid (bt B1.out b2)
    obtain ⟨ax, bx, rfl, _, _⟩ := hvx
    clear b2 B1 HX1 I1
    go_wp2_with fail
    refine (I3.out _).mono ?_
    rintro e w3 ⟨vp, rfl, hvp, b3⟩
    have L1 := Lib.hid (lnorm7_x (HV.out.below b3) hvp ix hn)
    have B3 := Lib.hid (bt B2.out b3)
    obtain ⟨a5, n5, c5, rfl⟩ := hvp.shape
    clear b3 B2 HV hvp I3
    go_wp2_with fail
    refine L1.out.mono ?_
    rintro e w4 ⟨vr, rfl, hvr, b4⟩
    have O1 := Lib.hid (out_x hvr hsm)
    have B4 := Lib.hid (bt B3.out b4)
    obtain ⟨a6, n6, c6, rfl⟩ := hvr.shape
    clear b4 B3 hvr L1
    go_wp2_with fail
    refine O1.out.mono ?_
    rintro e w5 ⟨rfl, b5⟩
    have B5 := Lib.hid (bt B4.out b5)
    clear b5 B4 O1
    go_wp2
    go_ret
    exact ⟨rfl, B5.out⟩
end Go.Proofs.Ytejmogdognenmaa
/-
  The contract of spec.OtherPair.
-/
namespace Go.Proofs.Ytejmogdognenmaa
open Go.RowKit
end Go.Proofs.Ytejmogdognenmaa

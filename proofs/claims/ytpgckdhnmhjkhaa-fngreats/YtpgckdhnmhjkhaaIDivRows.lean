/-
  The contract of impl's divRows where the divisor is longer, and where it has one limb.
-/
import Derived.Test.YtpgckdhnmhjkhaaIDivLimb
import Derived.Test.YtpgckdhnmhjkhaaITakeOut
import Derived.Test.YtpgckdhnmhjkhaaIShift
namespace Go.Proofs.Ytpgckdhnmhjkhaa
open Go.RowKit

theorem yields_pure {P : Program} {ops : Array Oper} {S : World → Prop} {o : Oper} {v : Value} {a : Act} (hgd : o.guard = none) (h : ∀ w, (execOp a.eval o).run P w = .ok (.value v) w) : YieldsIf P ops S o v a :=
  .inl ⟨by simp only [Region.wanted, hgd], fun w _ => h w⟩
theorem Try.builtRow : Try.prog.built 46 [] = some (rowC Z81 0) := by kernel_rfl
theorem yields_build {ops : Array Oper} {S : World → Prop} {o : Oper} {a : Act} (hgd : o.guard = none) (ho : o.op = .build 46 #[]) : YieldsIf Try.prog ops S o (.agg (rowC Z81 0)) a := by
  refine yields_pure hgd fun w => ?_
  unfold execOp
  simp only [ho]
  have e := run_build (P := Try.prog) w 46 #[] _ Try.builtRow
  simp [e]
theorem RV.lt_of_cnt {lx ly : List Nat} {cx cy : Nat} (vx : RV lx cx) (vy : RV ly cy) (h : cx < cy) : W.lV lx < W.lV ly := by
  have a := vx.lt
  rcases Nat.lt_or_ge (W.lV lx) (W.lV ly) with h1 | h1
  · exact h1
  · have := vy.cnt_le (k := cx) (Nat.lt_of_le_of_lt h1 a)
    omega
theorem zero_rv : RV Z81 0 := ⟨Z81_lim, fun k _ => Z81_getD k, .inl rfl⟩

set_option maxRecDepth 8000 in
set_option maxHeartbeats 4000000 in
theorem divRows_less (gx gy cx cy : Nat) (lx ly : List Nat) (w : World) (hx : RowI w gx lx cx) (hy : RowI w gy ly cy) (vx : RV lx cx) (vy : RV ly cy) (hcx : cx ≤ 79) (hlt : cx < cy) :
    Calls Try.prog 47 #[.pointer (some ⟨gx, 0, none⟩), .pointer (some ⟨gy, 0, none⟩)] w (DivAgg (W.lV lx) (W.lV ly) w) := by
  obtain ⟨Z, hZ⟩ : ∃ Z, rowC Z81 0 = Z := ⟨_, rfl⟩
  have hz := zero_row.1
  rw [hZ] at hz
  have HZ := Lib.hid hZ
  have HX := Lib.hid hx
  have HY := Lib.hid hy
  have HVX := Lib.hid vx
  have ltx := hx.lt
  have lty := hy.lt
  have HLT := Lib.hid (vx.lt_of_cnt vy hlt)
  have hlt' : (cx : Int) < (cy : Int) := by omega
  clear hZ hx hy vx vy
  go_enter Try.func47, Try.ntmps47
  go_wp2
  have HW := Work.start w HZ.out
  obtain ⟨x1, x2⟩ := (HX.out.below HW.b ltx).cnt
  obtain ⟨y1, y2⟩ := (HY.out.below HW.b lty).cnt
  have HW0 := Lib.hid HW
  clear HW hz HZ
  generalize (w.alloc (.cells Z 46)).alloc (.cells Z 46) = w0 at *
  go_quiet (fail)
  have HW1 := Lib.hid (HW0.out.drewN nq)
  clear HW0 x1 x2 y1 y2
  generalize w0.drewN nq = w1 at *
  go_wp2_with fail
  refine wp_region_held (S := fun w' => RowI w' gx lx cx) (by kernel_rfl) ?_
  change wpAnyH _ _ _ _ _ _ _ _ w1.drew
  have HW2 : Hid (Work w w1.drew Z81 0) := HW1.out.drewN 1
  clear HW1
  generalize w1.drew = w2 at *
  have HX2 := Lib.hid (HX.out.below HW2.out.b ltx)
  have hB := Lib.hid (below_setRow (below_setRow HW2.out.b (Nat.le_refl _) (rowC Z81 0)) (show w.heap.size ≤ w.heap.size + 1 by omega) (rowC lx cx))
  have HO1 := Lib.hid ((HW2.out.out.stored (c' := 0) Z81_len).storedApart (g' := w.heap.size + 1) (cs := rowC lx cx) (by omega))
  have HO2 := Lib.hid ((HW2.out.row.storedApart (g' := w.heap.size) (cs := rowC Z81 0) (by omega)).stored (c' := cx) HX.out.len)
  refine wpAnyH_take (i := 0) (v := .agg (rowC Z81 0)) rfl (by kernel_rfl) (by kernel_rfl) (by kernel_rfl) (fun _ _ _ h => h) (yields_build rfl rfl) HX2.out ?_
  refine wpAnyH_take (i := 1) (v := .pointer (some ⟨gx, 0, none⟩)) rfl (by kernel_rfl) (by kernel_rfl) (by kernel_rfl) (fun _ _ _ h => h) (yields_pure rfl fun _ => rfl) HX2.out ?_
  refine wpAnyH_take (i := 2) (v := .pointer (some ⟨gx, 0, none⟩)) rfl (by kernel_rfl) (by kernel_rfl) (by kernel_rfl) (fun _ _ _ h => h) (yields_pure rfl fun _ => rfl) HX2.out ?_
  refine wpAnyH_take (i := 3) (v := .agg (rowC lx cx)) rfl (by kernel_rfl) (by kernel_rfl) (by kernel_rfl) (fun _ _ _ h => h) (yields_load rfl (.tmp 22) rfl gx lx cx rfl fun _ h => h) HX2.out ?_
  refine wpAnyH_all (rs := [4]) (by kernel_rfl) (by decide) ?_
  intro i hi
  obtain rfl : i = 4 := by simpa using hi
  refine store_op rfl rfl (.tmp 4) (.tmp 20) rfl w.heap.size Z81 Z81 0 0 rfl rfl HW2.out.out Z81_len ⟨HX2.out.storedApart (by omega), ?_⟩
  refine wpAnyH_all (rs := [5]) (by kernel_rfl) (by decide) ?_
  intro i hi
  obtain rfl : i = 5 := by simpa using hi
  refine store_op rfl rfl (.tmp 5) (.tmp 23) rfl (w.heap.size + 1) Z81 lx 0 cx rfl rfl (HW2.out.row.storedApart (by omega)) HX.out.len ⟨(HX2.out.storedApart (by omega)).storedApart (by omega), ?_⟩
  refine wpAnyH_done (by kernel_rfl) ?_ _
  go_wp2
  exact bodyPost_ret (results_two Try.results47 _ HO1.out HO2.out rfl rfl) rfl ⟨Z81, 0, lx, cx, rfl, Z81_len, HX.out.len, zero_rv, HVX.out, by rw [Z81_val, Nat.div_eq_of_lt HLT.out], by rw [Nat.mod_eq_of_lt HLT.out], by omega, by omega, hB.out⟩

theorem RV.one {l : List Nat} (h : RV l 1) : W.lV l = l.getD 0 0 ∧ 0 < l.getD 0 0 := by
  have e := W.lV_take_all (l := l) (m := 1) h.zero
  rw [W.lV_take_succ, List.take_zero] at e
  refine ⟨by rw [← e]; simp [W.lV], ?_⟩
  rcases h.top with h | h
  · omega
  · exact h
set_option maxRecDepth 8000 in
set_option maxHeartbeats 4000000 in
theorem divRows_one (gx gy cx : Nat) (lx ly : List Nat) (w : World) (hx : RowI w gx lx cx) (hy : RowI w gy ly 1) (vx : RV lx cx) (vy : RV ly 1) (hcx : cx ≤ 79) (hge : 1 ≤ cx) :
    Calls Try.prog 47 #[.pointer (some ⟨gx, 0, none⟩), .pointer (some ⟨gy, 0, none⟩)] w (DivAgg (W.lV lx) (W.lV ly) w) := by
  obtain ⟨Z, hZ⟩ : ∃ Z, rowC Z81 0 = Z := ⟨_, rfl⟩
  have hz := zero_row.1
  rw [hZ] at hz
  have HZ := Lib.hid hZ
  have HX := Lib.hid hx
  have HY := Lib.hid hy
  have HVX := Lib.hid vx
  have ltx := hx.lt
  have lty := hy.lt
  have hd := W.getD_lt vy.lim 0
  have hone := vy.one
  rw [hone.1]
  obtain ⟨d, hdd⟩ : ∃ d, ly.getD 0 0 = d := ⟨_, rfl⟩
  have HDD := Lib.hid hdd
  rw [hdd] at hd hone ⊢
  have hd0 := hone.2
  have hlt' : ¬ (cx : Int) < ((1 : Nat) : Int) := by omega
  have hlt2 : ¬ (cx : Int) < 1 := by omega
  have h11 : ((((1 : Nat) : Int)) == 1) = true := rfl
  clear hZ hx hy vx vy hone hdd
  go_enter Try.func47, Try.ntmps47
  go_wp2
  have HW := Work.start w HZ.out
  obtain ⟨x1, x2⟩ := (HX.out.below HW.b ltx).cnt
  obtain ⟨y1, y2⟩ := (HY.out.below HW.b lty).cnt
  have HW0 := Lib.hid HW
  clear HW hz HZ
  generalize (w.alloc (.cells Z 46)).alloc (.cells Z 46) = w0 at *
  go_quiet (fail)
  have HW1 := Lib.hid (HW0.out.drewN nq)
  clear HW0 x1 x2 y1 y2
  generalize w0.drewN nq = w1 at *
  obtain ⟨y1, y2⟩ := (HY.out.below HW1.out.b lty).cnt
  obtain ⟨d1, d2⟩ := (HY.out.below HW1.out.b lty).cell (k := 0) (by omega)
  rw [HDD.out] at d1
  have HD := Lib.hid (divByLimb_any gx cx d lx w1 (HX.out.below HW1.out.b ltx) HVX.out hcx hd0 hd)
  go_wp2_with fail
  refine HD.out.mono ?_
  rintro e w2 ⟨lq, cq, lr, cr, rfl, h1, h2, h3, h4, h5, h6, h7, h8, h9⟩
  have o1 := HW1.out.out.below h9 HW1.out.out.lt
  have o2 := HW1.out.row.below h9 HW1.out.row.lt
  have bb : Below w.heap.size w w2 := HW1.out.b.trans (h9.mono HW1.out.b.size)
  have HO1 := Lib.hid ((o1.stored (c' := cq) h1).storedApart (g' := w.heap.size + 1) (cs := rowC lr cr) (by omega))
  have HO2 := Lib.hid ((o2.storedApart (g' := w.heap.size) (cs := rowC lq cq) (by omega)).stored (c' := cr) h2)
  have HB := Lib.hid (below_setRow (below_setRow bb (Nat.le_refl _) (rowC lq cq)) (show w.heap.size ≤ w.heap.size + 1 by omega) (rowC lr cr))
  have P1 := Lib.hid o1
  have P2 := Lib.hid o2
  have Q1 := Lib.hid h1
  have Q2 := Lib.hid h2
  have R := Lib.hid (And.intro h3 (And.intro h4 (And.intro h5 (And.intro h6 (And.intro h7 h8)))))
  clear o1 o2 bb h1 h2 h3 h4 h5 h6 h7 h8 h9 HD y1 y2 d1 d2
  go_wp2_with (first | refine store_at rfl (.tmp 4) (.tmp 36) rfl w.heap.size Z81 lq 0 cq rfl rfl P1.out Q1.out ?_ | refine store_at rfl (.tmp 5) (.tmp 37) rfl (w.heap.size + 1) Z81 lr 0 cr rfl rfl (P2.out.storedApart (by omega)) Q2.out ?_)
  exact bodyPost_ret (results_two Try.results47 _ HO1.out HO2.out rfl rfl) rfl ⟨lq, cq, lr, cr, rfl, Q1.out, Q2.out, R.out.1, R.out.2.1, R.out.2.2.1, R.out.2.2.2.1, R.out.2.2.2.2.1, R.out.2.2.2.2.2, HB.out⟩
end Go.Proofs.Ytpgckdhnmhjkhaa
